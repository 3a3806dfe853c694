/- host (layer 27): the reference's word. -/
import Derived.Test.YtdnkpclpcelbaaaDoorHosJ
import Derived.Test.YtdnkpclpcelbaaaDoorLwr
namespace Go.Proofs.YtdnkpclpcelbaaaDoor
set_option maxRecDepth 20000
set_option linter.unusedSimpArgs false
set_option linter.unusedVariables false
open Go.RowKit Go.Lib Go.Shelf Go.Sort
attribute [local go_sem] Oper.semAt_some
abbrev bsLH (L : List (List UInt8)) : List ByteArray := L.map fun P => ⟨P.toArray⟩
theorem hrow_at {w : World} {D : Nat} {v : Value} {L : List (List UInt8)} (h : w.ownsRow D StT 1 v (bsLH L).length (stV (bsLH L))) (hn : 0 < L.length) : ∃ g cap cur, v = .slice (some ⟨g, 0, none⟩) L.length cap ∧ g < w.heap.size ∧ w.heap[g]? = some (.cells cur StT (0, 0)) ∧ ∀ (k : Nat) (P : List UInt8), L[k]? = some P → cur[k]? = some (Value.string ⟨P.toArray⟩) := by
  rw [List.length_map] at h
  obtain ⟨hl, h⟩ := h
  rcases h with h | ⟨g, cap, cur, h1, h2, h3, h4, h5, h6, h7⟩
  · have : L.length = 0 := by
      first
        | exact h.2
        | exact h.1
        | (obtain ⟨-, h⟩ := h; exact h)
    omega
  · refine ⟨g, cap, cur, h1, (Array.getElem?_eq_some_iff.1 h3).1, h3, fun k P hk => ?_⟩
    have hlt : k < L.length := (List.getElem?_eq_some_iff.1 hk).1
    have h8 : (cur.toList.take (L.length * 1))[k]? = some (.string ⟨P.toArray⟩) := by rw [h7]; simp [hk]
    rw [List.getElem?_take_of_lt (by omega)] at h8
    simpa using h8
theorem hix_Str (b n c k : Nat) (hk : k < n) (W : World) : (Instr.indexAt 46 (.slice (some ⟨b, 0, none⟩) n c) (.int .i64 (k : Int))).run Tryd.prog W = .ok (.pointer (some ⟨b, k, none⟩)) W := by
  have h1 : (k : Int) < (n : Int) := by omega
  have h2 : (k : Int).toNat = k := by omega
  go_simp
theorem cutL_any (l : List UInt8) (c : UInt8) (w : World) (hl : l.length ≤ 1000) :
    Calls Tryd.prog 68 #[.string ⟨l.toArray⟩, .int .u8 (c.toNat : Int)] w fun e w' => ∃ v, e = .returned v ∧ w'.ownsRow w.heap.size StT 1 v (bsLH (prt c [] l)).length (stV (bsLH (prt c [] l))) ∧ Below w.heap.size w w' := by
  have h := cut_any ⟨l.toArray⟩ c.toNat (UInt8.toNat_lt c) w (by rw [ba_size]; exact hl)
  rw [parts_list, show (⟨l.toArray⟩ : ByteArray).data.toList = l from rfl] at h
  exact h
theorem prt_pos (c : UInt8) : ∀ (l acc : List UInt8), 0 < (prt c acc l).length
  | [], acc => by rw [prt_nil]; simp
  | x :: r, acc => by
    rw [prt_cons]
    split
    · simp
    · exact prt_pos c r _
theorem mst_most {s : ByteArray} : ∀ k, mst s k ≤ 1 ↔ ∀ i, i < k → cls (gb s i) ≤ 1
  | 0 => by simp [mst]
  | k + 1 => by
    rw [mst, Nat.max_le, mst_most k]
    constructor
    · rintro ⟨h1, h2⟩ i hi
      rcases Nat.lt_or_eq_of_le (Nat.le_of_lt_succ hi) with h | rfl
      · exact h1 i h
      · exact h2
    · intro h
      exact ⟨fun i hi => h i (by omega), h k (by omega)⟩
theorem cls_lab2 (x : UInt8) : lab x.toNat = (cls x.toNat != 0) := cls_lab ⟨x.toNat, UInt8.toNat_lt x⟩
theorem cls_dig2 (x : UInt8) : isD x.toNat = (cls x.toNat != 0 && decide (cls x.toNat ≤ 1)) := cls_dig ⟨x.toNat, UInt8.toNat_lt x⟩
theorem cls_hyp : ∀ c : Fin 256, (cls c.val == 4) = (c.val == 45) := by decide +kernel
theorem cls_hyp2 (x : UInt8) : (cls x.toNat == 4) = (x.toNat == 45) := cls_hyp ⟨x.toNat, UInt8.toNat_lt x⟩
theorem most_no {m : Nat} (h : decide (1 < m) = false) : ¬ (1 : Int) < (m : Int) := by have := of_decide_eq_false h; omega
theorem most_yes {m : Nat} (h : decide (1 < m) = true) : (1 : Int) < (m : Int) := by have := of_decide_eq_true h; omega
theorem cls_eq (d : UInt8) (h : d.toNat = 45) : ((cls d.toNat : Int) == 4) = true := by rw [h]; rfl
theorem cls_ne (d : UInt8) (h : d.toNat ≠ 45) : ((cls d.toNat : Int) == 4) = false := by
  have y := cls_hyp2 d
  rw [show (d.toNat == 45) = false by simpa using h] at y
  have : ¬ cls d.toNat = 4 := by simpa using y
  simp
  omega
theorem allG_cls (x : List UInt8) : allG (fun c => cls c != 0) (⟨x.toArray⟩ : ByteArray) = labL x := by
  show x.all (fun c => cls c.toNat != 0) = x.all fun c => lab c.toNat
  congr 1
  funext c
  rw [cls_lab2]
theorem most_lab (x : List UInt8) : decide (4 < most ⟨x.toArray⟩) = !labL x := by
  unfold most
  rw [allG_cls]
  cases labL x with
  | true => 
    have := mst_le (⟨x.toArray⟩ : ByteArray) (⟨x.toArray⟩ : ByteArray).size
    simp; omega
  | false => rfl
theorem most_dig (x : List UInt8) (h : labL x = true) : decide (1 < most ⟨x.toArray⟩) = !digL x := by
  unfold most
  rw [allG_cls, h, if_pos rfl]
  have hz := ba_size x
  have h1 : mst (⟨x.toArray⟩ : ByteArray) (⟨x.toArray⟩ : ByteArray).size ≤ 1 ↔ digL x = true := by
    rw [mst_most, hz]
    unfold digL
    rw [List.all_eq_true]
    constructor
    · intro hh c hc
      obtain ⟨i, hi, rfl⟩ := List.getElem_of_mem hc
      have h2 := hh i hi
      have hg : gb (⟨x.toArray⟩ : ByteArray) i = x[i].toNat := by
        unfold gb
        rw [show (⟨x.toArray⟩ : ByteArray).data.toList = x from rfl, List.getD_eq_getElem?_getD, List.getElem?_eq_getElem hi]
        rfl
      rw [hg] at h2
      have h3 : lab x[i].toNat = true := List.all_eq_true.1 h _ (List.getElem_mem hi)
      rw [cls_lab2] at h3
      rw [cls_dig2, h3, decide_eq_true h2]
      rfl
    · intro hh i hi
      have hg : gb (⟨x.toArray⟩ : ByteArray) i = x[i].toNat := by
        unfold gb
        rw [show (⟨x.toArray⟩ : ByteArray).data.toList = x from rfl, List.getD_eq_getElem?_getD, List.getElem?_eq_getElem hi]
        rfl
      rw [hg]
      have h3 := hh _ (List.getElem_mem hi)
      rw [cls_dig2, Bool.and_eq_true] at h3
      simpa using h3.2
  cases hd : digL x with
  | true => rw [hd] at h1; have := h1.2 rfl; simp; omega
  | false =>
    rw [hd] at h1
    have : ¬ mst (⟨x.toArray⟩ : ByteArray) (⟨x.toArray⟩ : ByteArray).size ≤ 1 := fun h => by cases h1.1 h
    simp; omega
set_option maxRecDepth 100000 in
set_option maxHeartbeats 16000000 in
theorem rword_any (l : List UInt8) (hl : l.length ≤ 1000) (w : World) :
    Calls Tryd.prog 36 #[.string ⟨l.toArray⟩] w fun e w' => e = .returned (.bool (wordB l)) ∧ Below w.heap.size w w' := by
  have KC := Lib.hid (cutL_any l 46 w hl)
  obtain ⟨S, eS⟩ : ∃ S : ByteArray, (⟨l.toArray⟩ : ByteArray) = S := ⟨_, rfl⟩
  rw [eS] at KC ⊢
  clear eS
  go_enter Tryd.func36, Tryd.ntmps36
  go_wp2_with fail
  refine KC.out.mono ?_
  rintro e w1 ⟨v, rfl, hown, hbw⟩
  obtain ⟨n, hn⟩ : ∃ n, (prt 46 [] l).length = n := ⟨_, rfl⟩
  have hpos := prt_pos 46 l []
  obtain ⟨g, cap, cur, rfl, hg, hcur, hat⟩ := hrow_at hown hpos
  rw [hn] at hpos ⊢
  have hn2 : n ≤ 1001 := by rw [← hn]; have := prt_len 46 l []; omega
  have HBW := Lib.hid hbw
  have HAT := Lib.hid hat
  have HN := Lib.hid hn
  clear hown hbw hat hn KC
  go_wp2_with fail
  go_loopw [4, 5] (fun o p wr => wr = w1 ∧ ∃ k : Nat, p = .int .i64 (k : Int) ∧ k ≤ n ∧ ((prt 46 [] l).take k).all goodL = true ∧ o = .bool (!((prt 46 [] l).take k).all digL))
    (fun _ p _ => n - (Go.RowKit.intOf p).toNat)
  case atStart => exact ⟨rfl, 0, rfl, Nat.zero_le _, rfl, rfl⟩
  case round =>
    obtain ⟨rfl, k, rfl, hk, hall, rfl⟩ := hrel
    obtain ⟨o, ho⟩ : ∃ o, (!((prt 46 [] l).take k).all digL) = o := ⟨_, rfl⟩
    have HO := Lib.hid ho
    rw [ho]
    clear ho
    by_cases hlt : k < n
    · have p1 : (k : Int) < (n : Int) := by omega
      have w1' : IntKind.i64.wrap ((k : Int) + 1) = (k : Int) + 1 := IntWalk.i64_in _ (by omega)
      have hkl : k < (prt 46 [] l).length := by rw [HN.out]; exact hlt
      obtain ⟨x, hx⟩ : ∃ x, (prt 46 [] l)[k]? = some x := ⟨_, List.getElem?_eq_getElem hkl⟩
      have hcx := HAT.out k x hx
      have hxm : x ∈ prt 46 [] l := List.mem_of_getElem? hx
      have hxl := prt_mem 46 l [] x hxm
      simp only [List.length_nil, Nat.zero_add] at hxl
      have htk : (prt 46 [] l).take (k + 1) = (prt 46 [] l).take k ++ [x] := by rw [List.take_add_one, hx]; rfl
      have hdk2 : (!((prt 46 [] l).take (k + 1)).all digL) = ((!((prt 46 [] l).take k).all digL) || !digL x) := by rw [htk]; simp
      have HBADX : goodL x = false → RowKit.Hid (wordB l = false) := fun h => Lib.hid (by
        unfold wordB
        rw [show (prt 46 [] l).all goodL = false by
          cases h2 : (prt 46 [] l).all goodL with
          | false => rfl
          | true => rw [List.all_eq_true.1 h2 x hxm] at h; cases h]
        rfl)
      have HALLX : goodL x = true → ((prt 46 [] l).take (k + 1)).all goodL = true := fun h => by rw [htk, List.all_append, hall]; simp [h]
      clear hall hx htk hxm hkl
      obtain ⟨X, eX⟩ : ∃ X : ByteArray, (⟨x.toArray⟩ : ByteArray) = X := ⟨_, rfl⟩
      have hzx := ba_size x
      rw [eX] at hcx hzx
      have hML := most_lab x
      rw [eX] at hML
      have hMD := most_dig x
      rw [eX] at hMD
      have KM := Lib.hid (fun w => most_any X w (by omega))
      go_upto_region 6 with fail
      refine sw_lit ?_
      refine sw_pure (v := .slice (some ⟨g, 0, none⟩) n cap) (fun W => rfl) rfl ?_
      simp only [nm0, nm1, nm2, nm3]
      refine sw_pure (v := .int .i64 (k : Int)) (fun W => rfl) rfl ?_
      simp only [nm0, nm1, nm2, nm3]
      refine sw_pure (v := .pointer (some ⟨g, k, none⟩)) (fun W => run_index_of rfl rfl rfl (hix_Str g n cap k hlt W)) rfl ?_
      simp only [nm0, nm1, nm2, nm3]
      refine sw_val (v := .string X) (run_load_cell rfl rfl hcur hcx cellHS) rfl ?_
      simp only [nm0, nm1, nm2, nm3]
      refine sw_pure (v := .string X) (fun W => rfl) rfl ?_
      simp only [nm0, nm1, nm2, nm3]
      refine sw_nil ?_
      clear hcx
      by_cases c1 : x = []
      · have HBAD := HBADX (by rw [c1]; rfl)
        have eX2 : X = ⟨#[]⟩ := by rw [← eX, c1]
        subst eX2
        clear eX hzx hML hMD HALLX HBADX hdk2 hxl c1
        go_upto_region 7 with fail
        refine sw_lit ?_
        refine sw_pure (v := .string ⟨#[]⟩) (fun W => rfl) rfl ?_
        simp only [nm0, nm1, nm2, nm3]
        refine sw_pure (v := .int .i64 0) (fun W => by go_simp) rfl ?_
        simp only [nm0, nm1, nm2, nm3]
        refine sw_pure (v := .bool true) (fun W => run_bin_of rfl rfl rfl (by go_simp)) rfl ?_
        simp only [nm0, nm1, nm2, nm3]
        refine sw_pure (v := .bool true) (fun W => rfl) rfl ?_
        simp only [nm0, nm1, nm2, nm3]
        refine sw_skip rfl ?_
        simp only [nm0, nm1, nm2, nm3]
        refine sw_skip rfl ?_
        simp only [nm0, nm1, nm2, nm3]
        refine sw_skip rfl ?_
        simp only [nm0, nm1, nm2, nm3]
        refine sw_pure (v := .bool true) (fun W => rfl) rfl ?_
        simp only [nm0, nm1, nm2, nm3]
        refine sw_pure (v := .bool true) (fun W => rfl) rfl ?_
        simp only [nm0, nm1, nm2, nm3]
        refine sw_skip rfl ?_
        simp only [nm0, nm1, nm2, nm3]
        refine sw_skip rfl ?_
        simp only [nm0, nm1, nm2, nm3]
        refine sw_skip rfl ?_
        simp only [nm0, nm1, nm2, nm3]
        refine sw_pure (v := .bool true) (fun W => rfl) rfl ?_
        simp only [nm0, nm1, nm2, nm3]
        refine sw_pure (v := .bool true) (fun W => rfl) rfl ?_
        simp only [nm0, nm1, nm2, nm3]
        refine sw_skip rfl ?_
        simp only [nm0, nm1, nm2, nm3]
        refine sw_skip rfl ?_
        simp only [nm0, nm1, nm2, nm3]
        refine sw_skip rfl ?_
        simp only [nm0, nm1, nm2, nm3]
        refine sw_skip rfl ?_
        simp only [nm0, nm1, nm2, nm3]
        refine sw_pure (v := .bool true) (fun W => rfl) rfl ?_
        simp only [nm0, nm1, nm2, nm3]
        refine sw_pure (v := .bool true) (fun W => rfl) rfl ?_
        simp only [nm0, nm1, nm2, nm3]
        refine sw_skip rfl ?_
        simp only [nm0, nm1, nm2, nm3]
        refine sw_skip rfl ?_
        simp only [nm0, nm1, nm2, nm3]
        refine sw_skip rfl ?_
        simp only [nm0, nm1, nm2, nm3]
        refine sw_skip rfl ?_
        simp only [nm0, nm1, nm2, nm3]
        refine sw_skip rfl ?_
        simp only [nm0, nm1, nm2, nm3]
        refine sw_skip rfl ?_
        simp only [nm0, nm1, nm2, nm3]
        refine sw_skip rfl ?_
        simp only [nm0, nm1, nm2, nm3]
        refine sw_pure (v := .bool true) (fun W => rfl) rfl ?_
        simp only [nm0, nm1, nm2, nm3]
        refine sw_nil ?_
        go_wp2_with fail
        go_ret
        exact ⟨ret_bool HBAD.out.symm, HBW.out⟩
      have hp0 : 0 < x.length := List.length_pos_iff.2 c1
      have hX0 : ¬ X.size = 0 := by omega
      have hX0' : ¬ (X.size : Int) = 0 := by omega
      have hX0b : ((X.size : Int) == 0) = false := beq_eq_false_iff_ne.2 hX0'
      by_cases c2 : 63 < x.length
      · have q2 : (63 : Int) < (X.size : Int) := by omega
        have HBAD := HBADX (by unfold goodL; rw [decide_eq_false (show ¬ x.length ≤ 63 by omega)]; simp)
        clear hzx hML hMD HALLX HBADX hdk2 hxl c1 eX
        go_upto_region 7 with fail
        refine sw_lit ?_
        refine sw_pure (v := .string X) (fun W => rfl) rfl ?_
        simp only [nm0, nm1, nm2, nm3]
        refine sw_pure (v := .int .i64 (X.size : Int)) (fun W => by go_simp) rfl ?_
        simp only [nm0, nm1, nm2, nm3]
        refine sw_pure (v := .bool false) (fun W => run_bin_of rfl rfl rfl (by go_simp)) rfl ?_
        simp only [nm0, nm1, nm2, nm3]
        refine sw_pure (v := .bool false) (fun W => rfl) rfl ?_
        simp only [nm0, nm1, nm2, nm3]
        refine sw_pure (v := .string X) (fun W => rfl) rfl ?_
        simp only [nm0, nm1, nm2, nm3]
        refine sw_pure (v := .int .i64 (X.size : Int)) (fun W => by go_simp) rfl ?_
        simp only [nm0, nm1, nm2, nm3]
        refine sw_pure (v := .bool true) (fun W => run_bin_of rfl rfl rfl (by go_simp)) rfl ?_
        simp only [nm0, nm1, nm2, nm3]
        refine sw_pure (v := .bool true) (fun W => rfl) rfl ?_
        simp only [nm0, nm1, nm2, nm3]
        refine sw_pure (v := .bool true) (fun W => rfl) rfl ?_
        simp only [nm0, nm1, nm2, nm3]
        refine sw_skip rfl ?_
        simp only [nm0, nm1, nm2, nm3]
        refine sw_skip rfl ?_
        simp only [nm0, nm1, nm2, nm3]
        refine sw_skip rfl ?_
        simp only [nm0, nm1, nm2, nm3]
        refine sw_pure (v := .bool true) (fun W => rfl) rfl ?_
        simp only [nm0, nm1, nm2, nm3]
        refine sw_pure (v := .bool true) (fun W => rfl) rfl ?_
        simp only [nm0, nm1, nm2, nm3]
        refine sw_skip rfl ?_
        simp only [nm0, nm1, nm2, nm3]
        refine sw_skip rfl ?_
        simp only [nm0, nm1, nm2, nm3]
        refine sw_skip rfl ?_
        simp only [nm0, nm1, nm2, nm3]
        refine sw_skip rfl ?_
        simp only [nm0, nm1, nm2, nm3]
        refine sw_pure (v := .bool true) (fun W => rfl) rfl ?_
        simp only [nm0, nm1, nm2, nm3]
        refine sw_pure (v := .bool true) (fun W => rfl) rfl ?_
        simp only [nm0, nm1, nm2, nm3]
        refine sw_skip rfl ?_
        simp only [nm0, nm1, nm2, nm3]
        refine sw_skip rfl ?_
        simp only [nm0, nm1, nm2, nm3]
        refine sw_skip rfl ?_
        simp only [nm0, nm1, nm2, nm3]
        refine sw_skip rfl ?_
        simp only [nm0, nm1, nm2, nm3]
        refine sw_skip rfl ?_
        simp only [nm0, nm1, nm2, nm3]
        refine sw_skip rfl ?_
        simp only [nm0, nm1, nm2, nm3]
        refine sw_skip rfl ?_
        simp only [nm0, nm1, nm2, nm3]
        refine sw_pure (v := .bool true) (fun W => rfl) rfl ?_
        simp only [nm0, nm1, nm2, nm3]
        refine sw_nil ?_
        go_wp2_with fail
        go_ret
        exact ⟨ret_bool HBAD.out.symm, HBW.out⟩
      have q2 : ¬ (63 : Int) < (X.size : Int) := by omega
      by_cases c3 : labL x = false
      · have q3 : (4 : Int) < (most X : Int) := by
          rw [c3] at hML
          have : 4 < most X := by simpa using hML
          omega
        have HBAD := HBADX (by unfold goodL; rw [c3]; simp)
        clear hzx hML hMD HALLX HBADX hdk2 hxl c1 eX
        go_upto_region 7 with fail
        refine sw_lit ?_
        refine sw_pure (v := .string X) (fun W => rfl) rfl ?_
        simp only [nm0, nm1, nm2, nm3]
        refine sw_pure (v := .int .i64 (X.size : Int)) (fun W => by go_simp) rfl ?_
        simp only [nm0, nm1, nm2, nm3]
        refine sw_pure (v := .bool false) (fun W => run_bin_of rfl rfl rfl (by go_simp)) rfl ?_
        simp only [nm0, nm1, nm2, nm3]
        refine sw_pure (v := .bool false) (fun W => rfl) rfl ?_
        simp only [nm0, nm1, nm2, nm3]
        refine sw_pure (v := .string X) (fun W => rfl) rfl ?_
        simp only [nm0, nm1, nm2, nm3]
        refine sw_pure (v := .int .i64 (X.size : Int)) (fun W => by go_simp) rfl ?_
        simp only [nm0, nm1, nm2, nm3]
        refine sw_pure (v := .bool false) (fun W => run_bin_of rfl rfl rfl (by go_simp)) rfl ?_
        simp only [nm0, nm1, nm2, nm3]
        refine sw_pure (v := .bool false) (fun W => rfl) rfl ?_
        simp only [nm0, nm1, nm2, nm3]
        refine sw_pure (v := .bool false) (fun W => rfl) rfl ?_
        simp only [nm0, nm1, nm2, nm3]
        refine sw_pure (v := .string X) (fun W => rfl) rfl ?_
        simp only [nm0, nm1, nm2, nm3]
        refine sw_callE (args := #[.string X]) (fun W => run_call_fn W (enters_of Tryd.func69 (by kernel_rfl) rfl) rfl (by simp [Act.eval])) (KM.out _) rfl ?_
        rintro e V1 ⟨rfl, rfl⟩
        refine ⟨_, rfl, ?_⟩
        simp only [nm0, nm1, nm2, nm3]
        refine sw_pure (v := .bool true) (fun W => run_bin_of rfl rfl rfl (by go_simp)) rfl ?_
        simp only [nm0, nm1, nm2, nm3]
        refine sw_pure (v := .bool true) (fun W => rfl) rfl ?_
        simp only [nm0, nm1, nm2, nm3]
        refine sw_pure (v := .bool true) (fun W => rfl) rfl ?_
        simp only [nm0, nm1, nm2, nm3]
        refine sw_skip rfl ?_
        simp only [nm0, nm1, nm2, nm3]
        refine sw_skip rfl ?_
        simp only [nm0, nm1, nm2, nm3]
        refine sw_skip rfl ?_
        simp only [nm0, nm1, nm2, nm3]
        refine sw_skip rfl ?_
        simp only [nm0, nm1, nm2, nm3]
        refine sw_pure (v := .bool true) (fun W => rfl) rfl ?_
        simp only [nm0, nm1, nm2, nm3]
        refine sw_pure (v := .bool true) (fun W => rfl) rfl ?_
        simp only [nm0, nm1, nm2, nm3]
        refine sw_skip rfl ?_
        simp only [nm0, nm1, nm2, nm3]
        refine sw_skip rfl ?_
        simp only [nm0, nm1, nm2, nm3]
        refine sw_skip rfl ?_
        simp only [nm0, nm1, nm2, nm3]
        refine sw_skip rfl ?_
        simp only [nm0, nm1, nm2, nm3]
        refine sw_skip rfl ?_
        simp only [nm0, nm1, nm2, nm3]
        refine sw_skip rfl ?_
        simp only [nm0, nm1, nm2, nm3]
        refine sw_skip rfl ?_
        simp only [nm0, nm1, nm2, nm3]
        refine sw_pure (v := .bool true) (fun W => rfl) rfl ?_
        simp only [nm0, nm1, nm2, nm3]
        refine sw_nil ?_
        go_wp2_with fail
        go_ret
        exact ⟨ret_bool HBAD.out.symm, HBW.out⟩
      have c3' : labL x = true := by simpa using c3
      have q3 : ¬ (4 : Int) < (most X : Int) := by
        rw [c3'] at hML
        have : ¬ 4 < most X := by simpa using hML
        omega
      have hmd := hMD c3'
      obtain ⟨d0, hd0, ed0⟩ : ∃ d0 : UInt8, X[0]? = some d0 ∧ d0 = x.getD 0 0 := by rw [← eX]; exact ba_at x 0 hp0
      obtain ⟨d1, hd1, ed1⟩ : ∃ d1 : UInt8, X[X.size - 1]? = some d1 ∧ d1 = x.getD (x.length - 1) 0 := by rw [hzx, ← eX]; exact ba_at x (x.length - 1) (by omega)
      have hXle : X.size ≤ 1000 := by omega
      have w1 : IntKind.i64.wrap ((X.size : Int) - 1) = ((X.size - 1 : Nat) : Int) := by rw [show ((X.size - 1 : Nat) : Int) = (X.size : Int) - 1 by omega]; exact IntWalk.i64_in _ (by omega)
      have HG0 := Lib.hid (show goodL x = (d0.toNat != 45 && d1.toNat != 45) by unfold goodL; rw [← ed0, ← ed1, c3', decide_eq_true (show x.length ≤ 63 by omega)]; simp [c1])
      clear ed0 ed1 hzx hML hMD eX c1 hp0 hxl
      by_cases c4 : d0.toNat = 45
      · have q4 := cls_eq d0 c4
        have HBAD := HBADX (by rw [HG0.out, c4]; simp)
        clear HALLX HBADX hdk2 hmd c4 w1
        go_upto_region 7 with fail
        refine sw_lit ?_
        refine sw_pure (v := .string X) (fun W => rfl) rfl ?_
        simp only [nm0, nm1, nm2, nm3]
        refine sw_pure (v := .int .i64 (X.size : Int)) (fun W => by go_simp) rfl ?_
        simp only [nm0, nm1, nm2, nm3]
        refine sw_pure (v := .bool false) (fun W => run_bin_of rfl rfl rfl (by go_simp)) rfl ?_
        simp only [nm0, nm1, nm2, nm3]
        refine sw_pure (v := .bool false) (fun W => rfl) rfl ?_
        simp only [nm0, nm1, nm2, nm3]
        refine sw_pure (v := .string X) (fun W => rfl) rfl ?_
        simp only [nm0, nm1, nm2, nm3]
        refine sw_pure (v := .int .i64 (X.size : Int)) (fun W => by go_simp) rfl ?_
        simp only [nm0, nm1, nm2, nm3]
        refine sw_pure (v := .bool false) (fun W => run_bin_of rfl rfl rfl (by go_simp)) rfl ?_
        simp only [nm0, nm1, nm2, nm3]
        refine sw_pure (v := .bool false) (fun W => rfl) rfl ?_
        simp only [nm0, nm1, nm2, nm3]
        refine sw_pure (v := .bool false) (fun W => rfl) rfl ?_
        simp only [nm0, nm1, nm2, nm3]
        refine sw_pure (v := .string X) (fun W => rfl) rfl ?_
        simp only [nm0, nm1, nm2, nm3]
        refine sw_callE (args := #[.string X]) (fun W => run_call_fn W (enters_of Tryd.func69 (by kernel_rfl) rfl) rfl (by simp [Act.eval])) (KM.out _) rfl ?_
        rintro e V1 ⟨rfl, rfl⟩
        refine ⟨_, rfl, ?_⟩
        simp only [nm0, nm1, nm2, nm3]
        refine sw_pure (v := .bool false) (fun W => run_bin_of rfl rfl rfl (by go_simp)) rfl ?_
        simp only [nm0, nm1, nm2, nm3]
        refine sw_pure (v := .bool false) (fun W => rfl) rfl ?_
        simp only [nm0, nm1, nm2, nm3]
        refine sw_pure (v := .bool false) (fun W => rfl) rfl ?_
        simp only [nm0, nm1, nm2, nm3]
        refine sw_pure (v := .string X) (fun W => rfl) rfl ?_
        simp only [nm0, nm1, nm2, nm3]
        refine sw_pure (v := .int .u8 (d0.toNat : Int)) (fun W => run_idx_str (i := 0) (c := d0) W rfl rfl rfl Tryd.underlying9 hd0) rfl ?_
        simp only [nm0, nm1, nm2, nm3]
        refine sw_callE (args := #[.int .u8 (d0.toNat : Int)]) (fun W => run_call_fn W (enters_of Tryd.func70 (by kernel_rfl) rfl) rfl (by simp [Act.eval])) (class_any d0.toNat _) rfl ?_
        rintro e V1 ⟨rfl, rfl⟩
        refine ⟨_, rfl, ?_⟩
        simp only [nm0, nm1, nm2, nm3]
        refine sw_pure (v := .bool true) (fun W => run_bin_of rfl rfl rfl (by go_simp)) rfl ?_
        simp only [nm0, nm1, nm2, nm3]
        refine sw_pure (v := .bool true) (fun W => rfl) rfl ?_
        simp only [nm0, nm1, nm2, nm3]
        refine sw_pure (v := .bool true) (fun W => rfl) rfl ?_
        simp only [nm0, nm1, nm2, nm3]
        refine sw_skip rfl ?_
        simp only [nm0, nm1, nm2, nm3]
        refine sw_skip rfl ?_
        simp only [nm0, nm1, nm2, nm3]
        refine sw_skip rfl ?_
        simp only [nm0, nm1, nm2, nm3]
        refine sw_skip rfl ?_
        simp only [nm0, nm1, nm2, nm3]
        refine sw_skip rfl ?_
        simp only [nm0, nm1, nm2, nm3]
        refine sw_skip rfl ?_
        simp only [nm0, nm1, nm2, nm3]
        refine sw_skip rfl ?_
        simp only [nm0, nm1, nm2, nm3]
        refine sw_pure (v := .bool true) (fun W => rfl) rfl ?_
        simp only [nm0, nm1, nm2, nm3]
        refine sw_nil ?_
        go_wp2_with fail
        go_ret
        exact ⟨ret_bool HBAD.out.symm, HBW.out⟩
      have q4 := cls_ne d0 c4
      have q4' : ¬ (cls d0.toNat : Int) = 4 := by simpa using q4
      by_cases c5 : d1.toNat = 45
      · have q5 := cls_eq d1 c5
        have HBAD := HBADX (by rw [HG0.out, c5]; simp)
        clear HALLX HBADX hdk2 hmd c4 c5
        go_upto_region 7 with fail
        refine sw_lit ?_
        refine sw_pure (v := .string X) (fun W => rfl) rfl ?_
        simp only [nm0, nm1, nm2, nm3]
        refine sw_pure (v := .int .i64 (X.size : Int)) (fun W => by go_simp) rfl ?_
        simp only [nm0, nm1, nm2, nm3]
        refine sw_pure (v := .bool false) (fun W => run_bin_of rfl rfl rfl (by go_simp)) rfl ?_
        simp only [nm0, nm1, nm2, nm3]
        refine sw_pure (v := .bool false) (fun W => rfl) rfl ?_
        simp only [nm0, nm1, nm2, nm3]
        refine sw_pure (v := .string X) (fun W => rfl) rfl ?_
        simp only [nm0, nm1, nm2, nm3]
        refine sw_pure (v := .int .i64 (X.size : Int)) (fun W => by go_simp) rfl ?_
        simp only [nm0, nm1, nm2, nm3]
        refine sw_pure (v := .bool false) (fun W => run_bin_of rfl rfl rfl (by go_simp)) rfl ?_
        simp only [nm0, nm1, nm2, nm3]
        refine sw_pure (v := .bool false) (fun W => rfl) rfl ?_
        simp only [nm0, nm1, nm2, nm3]
        refine sw_pure (v := .bool false) (fun W => rfl) rfl ?_
        simp only [nm0, nm1, nm2, nm3]
        refine sw_pure (v := .string X) (fun W => rfl) rfl ?_
        simp only [nm0, nm1, nm2, nm3]
        refine sw_callE (args := #[.string X]) (fun W => run_call_fn W (enters_of Tryd.func69 (by kernel_rfl) rfl) rfl (by simp [Act.eval])) (KM.out _) rfl ?_
        rintro e V1 ⟨rfl, rfl⟩
        refine ⟨_, rfl, ?_⟩
        simp only [nm0, nm1, nm2, nm3]
        refine sw_pure (v := .bool false) (fun W => run_bin_of rfl rfl rfl (by go_simp)) rfl ?_
        simp only [nm0, nm1, nm2, nm3]
        refine sw_pure (v := .bool false) (fun W => rfl) rfl ?_
        simp only [nm0, nm1, nm2, nm3]
        refine sw_pure (v := .bool false) (fun W => rfl) rfl ?_
        simp only [nm0, nm1, nm2, nm3]
        refine sw_pure (v := .string X) (fun W => rfl) rfl ?_
        simp only [nm0, nm1, nm2, nm3]
        refine sw_pure (v := .int .u8 (d0.toNat : Int)) (fun W => run_idx_str (i := 0) (c := d0) W rfl rfl rfl Tryd.underlying9 hd0) rfl ?_
        simp only [nm0, nm1, nm2, nm3]
        refine sw_callE (args := #[.int .u8 (d0.toNat : Int)]) (fun W => run_call_fn W (enters_of Tryd.func70 (by kernel_rfl) rfl) rfl (by simp [Act.eval])) (class_any d0.toNat _) rfl ?_
        rintro e V1 ⟨rfl, rfl⟩
        refine ⟨_, rfl, ?_⟩
        simp only [nm0, nm1, nm2, nm3]
        refine sw_pure (v := .bool false) (fun W => run_bin_of rfl rfl rfl (by go_simp)) rfl ?_
        simp only [nm0, nm1, nm2, nm3]
        refine sw_pure (v := .bool false) (fun W => rfl) rfl ?_
        simp only [nm0, nm1, nm2, nm3]
        refine sw_pure (v := .bool false) (fun W => rfl) rfl ?_
        simp only [nm0, nm1, nm2, nm3]
        refine sw_pure (v := .string X) (fun W => rfl) rfl ?_
        simp only [nm0, nm1, nm2, nm3]
        refine sw_pure (v := .string X) (fun W => rfl) rfl ?_
        simp only [nm0, nm1, nm2, nm3]
        refine sw_pure (v := .int .i64 (X.size : Int)) (fun W => by go_simp) rfl ?_
        simp only [nm0, nm1, nm2, nm3]
        refine sw_pure (v := .int .i64 ((X.size - 1 : Nat) : Int)) (fun W => run_bin_of rfl rfl rfl (by go_simp)) rfl ?_
        simp only [nm0, nm1, nm2, nm3]
        refine sw_pure (v := .int .u8 (d1.toNat : Int)) (fun W => run_idx_str (i := X.size - 1) (c := d1) W rfl rfl rfl Tryd.underlying9 hd1) rfl ?_
        simp only [nm0, nm1, nm2, nm3]
        refine sw_callE (args := #[.int .u8 (d1.toNat : Int)]) (fun W => run_call_fn W (enters_of Tryd.func70 (by kernel_rfl) rfl) rfl (by simp [Act.eval])) (class_any d1.toNat _) rfl ?_
        rintro e V1 ⟨rfl, rfl⟩
        refine ⟨_, rfl, ?_⟩
        simp only [nm0, nm1, nm2, nm3]
        refine sw_pure (v := .bool true) (fun W => run_bin_of rfl rfl rfl (by go_simp)) rfl ?_
        simp only [nm0, nm1, nm2, nm3]
        refine sw_pure (v := .bool true) (fun W => rfl) rfl ?_
        simp only [nm0, nm1, nm2, nm3]
        refine sw_nil ?_
        go_wp2_with fail
        go_ret
        exact ⟨ret_bool HBAD.out.symm, HBW.out⟩
      have q5 := cls_ne d1 c5
      have q5' : ¬ (cls d1.toNat : Int) = 4 := by simpa using q5
      have HALL := Lib.hid (HALLX (by rw [HG0.out]; simp [c4, c5]))
      clear HALLX HBADX c4 c5
      have HMD := Lib.hid hmd
      clear hmd
      have HDK := Lib.hid hdk2
      clear hdk2
      go_upto_region 7 with fail
      refine sw_lit ?_
      refine sw_pure (v := .string X) (fun W => rfl) rfl ?_
      simp only [nm0, nm1, nm2, nm3]
      refine sw_pure (v := .int .i64 (X.size : Int)) (fun W => by go_simp) rfl ?_
      simp only [nm0, nm1, nm2, nm3]
      refine sw_pure (v := .bool false) (fun W => run_bin_of rfl rfl rfl (by go_simp)) rfl ?_
      simp only [nm0, nm1, nm2, nm3]
      refine sw_pure (v := .bool false) (fun W => rfl) rfl ?_
      simp only [nm0, nm1, nm2, nm3]
      refine sw_pure (v := .string X) (fun W => rfl) rfl ?_
      simp only [nm0, nm1, nm2, nm3]
      refine sw_pure (v := .int .i64 (X.size : Int)) (fun W => by go_simp) rfl ?_
      simp only [nm0, nm1, nm2, nm3]
      refine sw_pure (v := .bool false) (fun W => run_bin_of rfl rfl rfl (by go_simp)) rfl ?_
      simp only [nm0, nm1, nm2, nm3]
      refine sw_pure (v := .bool false) (fun W => rfl) rfl ?_
      simp only [nm0, nm1, nm2, nm3]
      refine sw_pure (v := .bool false) (fun W => rfl) rfl ?_
      simp only [nm0, nm1, nm2, nm3]
      refine sw_pure (v := .string X) (fun W => rfl) rfl ?_
      simp only [nm0, nm1, nm2, nm3]
      refine sw_callE (args := #[.string X]) (fun W => run_call_fn W (enters_of Tryd.func69 (by kernel_rfl) rfl) rfl (by simp [Act.eval])) (KM.out _) rfl ?_
      rintro e V1 ⟨rfl, rfl⟩
      refine ⟨_, rfl, ?_⟩
      simp only [nm0, nm1, nm2, nm3]
      refine sw_pure (v := .bool false) (fun W => run_bin_of rfl rfl rfl (by go_simp)) rfl ?_
      simp only [nm0, nm1, nm2, nm3]
      refine sw_pure (v := .bool false) (fun W => rfl) rfl ?_
      simp only [nm0, nm1, nm2, nm3]
      refine sw_pure (v := .bool false) (fun W => rfl) rfl ?_
      simp only [nm0, nm1, nm2, nm3]
      refine sw_pure (v := .string X) (fun W => rfl) rfl ?_
      simp only [nm0, nm1, nm2, nm3]
      refine sw_pure (v := .int .u8 (d0.toNat : Int)) (fun W => run_idx_str (i := 0) (c := d0) W rfl rfl rfl Tryd.underlying9 hd0) rfl ?_
      simp only [nm0, nm1, nm2, nm3]
      refine sw_callE (args := #[.int .u8 (d0.toNat : Int)]) (fun W => run_call_fn W (enters_of Tryd.func70 (by kernel_rfl) rfl) rfl (by simp [Act.eval])) (class_any d0.toNat _) rfl ?_
      rintro e V1 ⟨rfl, rfl⟩
      refine ⟨_, rfl, ?_⟩
      simp only [nm0, nm1, nm2, nm3]
      refine sw_pure (v := .bool false) (fun W => run_bin_of rfl rfl rfl (by go_simp)) rfl ?_
      simp only [nm0, nm1, nm2, nm3]
      refine sw_pure (v := .bool false) (fun W => rfl) rfl ?_
      simp only [nm0, nm1, nm2, nm3]
      refine sw_pure (v := .bool false) (fun W => rfl) rfl ?_
      simp only [nm0, nm1, nm2, nm3]
      refine sw_pure (v := .string X) (fun W => rfl) rfl ?_
      simp only [nm0, nm1, nm2, nm3]
      refine sw_pure (v := .string X) (fun W => rfl) rfl ?_
      simp only [nm0, nm1, nm2, nm3]
      refine sw_pure (v := .int .i64 (X.size : Int)) (fun W => by go_simp) rfl ?_
      simp only [nm0, nm1, nm2, nm3]
      refine sw_pure (v := .int .i64 ((X.size - 1 : Nat) : Int)) (fun W => run_bin_of rfl rfl rfl (by go_simp)) rfl ?_
      simp only [nm0, nm1, nm2, nm3]
      refine sw_pure (v := .int .u8 (d1.toNat : Int)) (fun W => run_idx_str (i := X.size - 1) (c := d1) W rfl rfl rfl Tryd.underlying9 hd1) rfl ?_
      simp only [nm0, nm1, nm2, nm3]
      refine sw_callE (args := #[.int .u8 (d1.toNat : Int)]) (fun W => run_call_fn W (enters_of Tryd.func70 (by kernel_rfl) rfl) rfl (by simp [Act.eval])) (class_any d1.toNat _) rfl ?_
      rintro e V1 ⟨rfl, rfl⟩
      refine ⟨_, rfl, ?_⟩
      simp only [nm0, nm1, nm2, nm3]
      refine sw_pure (v := .bool false) (fun W => run_bin_of rfl rfl rfl (by go_simp)) rfl ?_
      simp only [nm0, nm1, nm2, nm3]
      refine sw_pure (v := .bool false) (fun W => rfl) rfl ?_
      simp only [nm0, nm1, nm2, nm3]
      refine sw_nil ?_
      cases o with
      | true =>
        have HDIG := Lib.hid (show (!((prt 46 [] l).take (k + 1)).all digL) = true by rw [HDK.out, HO.out]; rfl)
        go_upto_region 9 with fail
        refine sw_lit ?_
        refine sw_pure (v := .bool true) (fun W => rfl) rfl ?_
        simp only [nm0, nm1, nm2, nm3]
        refine sw_pure (v := .bool true) (fun W => rfl) rfl ?_
        simp only [nm0, nm1, nm2, nm3]
        refine sw_skip rfl ?_
        simp only [nm0, nm1, nm2, nm3]
        refine sw_skip rfl ?_
        simp only [nm0, nm1, nm2, nm3]
        refine sw_skip rfl ?_
        simp only [nm0, nm1, nm2, nm3]
        refine sw_pure (v := .bool true) (fun W => rfl) rfl ?_
        simp only [nm0, nm1, nm2, nm3]
        refine sw_pure (v := .bool true) (fun W => rfl) rfl ?_
        simp only [nm0, nm1, nm2, nm3]
        refine sw_nil ?_
        go_wp2_with fail
        go_roundw
        case rel => exact ⟨trivial, k + 1, rfl, hlt, HALL.out, congrArg Value.bool HDIG.out.symm⟩
        case measure => simp [Go.RowKit.intOf]; omega
      | false =>
        cases hdx : digL x with
        | true =>
          have qd : ¬ (1 : Int) < (most X : Int) := most_no (HMD.out.trans (by rw [hdx]; rfl))
          have HDIG := Lib.hid (show (!((prt 46 [] l).take (k + 1)).all digL) = false by rw [HDK.out, HO.out, hdx]; rfl)
          skip
          go_upto_region 9 with fail
          refine sw_lit ?_
          refine sw_pure (v := .bool false) (fun W => rfl) rfl ?_
          simp only [nm0, nm1, nm2, nm3]
          refine sw_pure (v := .bool false) (fun W => rfl) rfl ?_
          simp only [nm0, nm1, nm2, nm3]
          refine sw_pure (v := .string X) (fun W => rfl) rfl ?_
          simp only [nm0, nm1, nm2, nm3]
          refine sw_callE (args := #[.string X]) (fun W => run_call_fn W (enters_of Tryd.func69 (by kernel_rfl) rfl) rfl (by simp [Act.eval])) (KM.out _) rfl ?_
          rintro e V1 ⟨rfl, rfl⟩
          refine ⟨_, rfl, ?_⟩
          simp only [nm0, nm1, nm2, nm3]
          refine sw_pure (v := .bool false) (fun W => run_bin_of rfl rfl rfl (by go_simp)) rfl ?_
          simp only [nm0, nm1, nm2, nm3]
          refine sw_pure (v := .bool false) (fun W => rfl) rfl ?_
          simp only [nm0, nm1, nm2, nm3]
          refine sw_pure (v := .bool false) (fun W => rfl) rfl ?_
          simp only [nm0, nm1, nm2, nm3]
          refine sw_nil ?_
          go_wp2_with fail
          go_roundw
          case rel => exact ⟨trivial, k + 1, rfl, hlt, HALL.out, congrArg Value.bool HDIG.out.symm⟩
          case measure => simp [Go.RowKit.intOf]; omega
        | false =>
          have qd : (1 : Int) < (most X : Int) := most_yes (HMD.out.trans (by rw [hdx]; rfl))
          have HDIG := Lib.hid (show (!((prt 46 [] l).take (k + 1)).all digL) = true by rw [HDK.out, HO.out, hdx]; rfl)
          skip
          go_upto_region 9 with fail
          refine sw_lit ?_
          refine sw_pure (v := .bool false) (fun W => rfl) rfl ?_
          simp only [nm0, nm1, nm2, nm3]
          refine sw_pure (v := .bool false) (fun W => rfl) rfl ?_
          simp only [nm0, nm1, nm2, nm3]
          refine sw_pure (v := .string X) (fun W => rfl) rfl ?_
          simp only [nm0, nm1, nm2, nm3]
          refine sw_callE (args := #[.string X]) (fun W => run_call_fn W (enters_of Tryd.func69 (by kernel_rfl) rfl) rfl (by simp [Act.eval])) (KM.out _) rfl ?_
          rintro e V1 ⟨rfl, rfl⟩
          refine ⟨_, rfl, ?_⟩
          simp only [nm0, nm1, nm2, nm3]
          refine sw_pure (v := .bool true) (fun W => run_bin_of rfl rfl rfl (by go_simp)) rfl ?_
          simp only [nm0, nm1, nm2, nm3]
          refine sw_pure (v := .bool true) (fun W => rfl) rfl ?_
          simp only [nm0, nm1, nm2, nm3]
          refine sw_pure (v := .bool true) (fun W => rfl) rfl ?_
          simp only [nm0, nm1, nm2, nm3]
          refine sw_nil ?_
          go_wp2_with fail
          go_roundw
          case rel => exact ⟨trivial, k + 1, rfl, hlt, HALL.out, congrArg Value.bool HDIG.out.symm⟩
          case measure => simp [Go.RowKit.intOf]; omega
    · have hkn : k = n := by omega
      have p1 : ¬ (k : Int) < (n : Int) := by omega
      have HW := Lib.hid (show o = wordB l by
        unfold wordB
        rw [← HO.out, hkn]
        rw [hkn] at hall
        rw [← HN.out, List.take_length] at hall ⊢
        rw [hall]
        rfl)
      clear hall hkn
      go_wp2_with fail
      go_ret
      exact ⟨ret_bool HW.out, HBW.out⟩
end Go.Proofs.YtdnkpclpcelbaaaDoor
