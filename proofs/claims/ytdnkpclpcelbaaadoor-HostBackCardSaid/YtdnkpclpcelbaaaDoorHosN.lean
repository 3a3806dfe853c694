/- host.isBracketed (layer 27). -/
import Derived.Test.YtdnkpclpcelbaaaDoorHosM
import Derived.Test.YtdnkpclpcelbaaaDoorLnuB
import Derived.Test.YtdnkpclpcelbaaaDoorLwr
namespace Go.Proofs.YtdnkpclpcelbaaaDoor
set_option maxRecDepth 20000
set_option linter.unusedSimpArgs false
set_option linter.unusedVariables false
open Go.RowKit Go.Lib Go.Shelf Go.Sort
attribute [local go_sem] Oper.semAt_some
def innerL (l : List UInt8) : List UInt8 := (l.drop 1).take (l.length - 2)
def bracB (l : List UInt8) : Bool := decide (2 ≤ l.length) && ((l.getD 0 0).toNat == 91 && ((l.getD (l.length - 1) 0).toNat == 93 && brB (innerL l)))
abbrev Ar3T : TypeId := 97
abbrev fnHex : Value := .func (.func 67) #[] #[]
theorem al_Ar3 (W : World) : (Instr.alloc Ar3T true (.tuple #[])).run Tryd.prog W = .ok (.pointer (some ⟨W.heap.size, 0, none⟩)) (W.alloc (.cells #[.int .i64 0, .int .i64 0, .int .i64 0] Ar3T (0, 0))) := by kernel_rfl
theorem al_HI (W : World) : (Instr.alloc 3 true (.tuple #[])).run Tryd.prog W = .ok (.pointer (some ⟨W.heap.size, 0, none⟩)) (W.alloc (.cells #[.int .i64 0] 3 (0, 0))) := by kernel_rfl
theorem ix_Ar3 (b k : Nat) (hk : k < 3) (W : World) : (Instr.indexAt Ar3T (.pointer (some ⟨b, 0, none⟩)) (.int .i64 (k : Int))).run Tryd.prog W = .ok (.pointer (some ⟨b, k, none⟩)) W := by
  have h1 : (k : Int) < 3 := by omega
  have h2 : (k : Int).toNat = k := by omega
  go_simp
theorem fine_hex (g : List UInt8) (hg : g ≠ []) : goodG g = (decide (g.length ≤ 4) && g.all fun c => hex c.toNat) := by
  cases g with
  | nil => exact absurd rfl hg
  | cons => simp [goodG, fineG]
theorem inner_ext (l : List UInt8) (h : 2 ≤ l.length) : (⟨l.toArray⟩ : ByteArray).extract 1 (l.length - 1) = ⟨(innerL l).toArray⟩ := by
  rw [Lib.extract_eq]
  unfold innerL
  rw [show l.length - 1 - 1 = l.length - 2 by omega]
def cN (S : List (List UInt8)) (i k : Nat) : Nat := if i < k then (grp (S.getD i [])).length else 0
abbrev bArr (b5 n0 n1 c2 : Nat) : Blk := (b5, .cells #[.int .i64 (n0 : Int), .int .i64 (n1 : Int), .int .i64 (c2 : Int)] Ar3T (0, 0))
theorem len_two {α : Type} : ∀ {l : List α}, l.length = 2 → ∃ x y, l = [x, y]
  | [x, y], _ => ⟨x, y, rfl⟩
theorem split_mem (sep : List UInt8) (hs : sep ≠ []) : ∀ (m : Nat) (l : List UInt8), l.length ≤ m → ∀ P ∈ Lib.split l sep, P.length ≤ l.length
  | 0, l, h, P, hP => by
    have : l = [] := List.length_eq_zero_iff.1 (by omega)
    subst this
    rw [split_miss (by unfold Lib.index; cases sep with | nil => exact absurd rfl hs | cons => rfl), List.mem_singleton] at hP
    rw [hP]; exact Nat.le_refl _
  | m + 1, l, h, P, hP => by
    have h2 := Lib.index_ge l sep
    by_cases h3 : Lib.index l sep = -1
    · rw [split_miss h3, List.mem_singleton] at hP
      rw [hP]; exact Nat.le_refl _
    · obtain ⟨i, hi⟩ : ∃ i : Nat, Lib.index l sep = i := ⟨(Lib.index l sep).toNat, by omega⟩
      have hr := Lib.index_room l sep (by omega)
      have hp : 0 < sep.length := List.length_pos_iff.2 hs
      rw [split_hit hs hi] at hP
      rcases List.mem_cons.1 hP with rfl | hP
      · rw [List.length_take]; omega
      · have := split_mem sep hs m _ (by rw [List.length_drop]; omega) P hP
        rw [List.length_drop] at this
        omega
theorem cN_at {L : List (List UInt8)} {k : Nat} {P : List UInt8} (h : L[k]? = some P) (i : Nat) : cN L i (k + 1) = if i = k then (grp P).length else cN L i k := by
  unfold cN
  by_cases e : i = k
  · subst e
    rw [if_pos (by omega), if_pos rfl, List.getD_eq_getElem?_getD, h]
    rfl
  · by_cases e2 : i < k
    · rw [if_pos (by omega), if_neg e, if_pos e2]
    · rw [if_neg (by omega), if_neg e, if_neg e2]
theorem cN_self (L : List (List UInt8)) (k : Nat) : cN L k k = 0 := by unfold cN; rw [if_neg (by omega)]
theorem cN_empty {L : List (List UInt8)} {k : Nat} {P : List UInt8} (h : L[k]? = some P) (hx : grp P = []) (i : Nat) : cN L i (k + 1) = cN L i k := by
  rw [cN_at h]
  split
  · rename_i e
    subst e
    rw [hx, cN_self]
    rfl
  · rfl
theorem flat_at {L : List (List UInt8)} {k : Nat} {P : List UInt8} (h : L[k]? = some P) : ((L.take (k + 1)).flatMap grp).all goodG = (((L.take k).flatMap grp).all goodG && (grp P).all goodG) := by
  rw [List.take_add_one, h]
  simp [List.flatMap_append]
theorem blk_of_cellH {W : World} {a : Addr} {v : Value} (h : W.cell? a = some v) : a.block < W.heap.size := by
  apply Nat.lt_of_not_le
  intro hle
  unfold World.cell? at h
  rw [Array.getElem?_eq_none hle] at h
  cases h
set_option maxRecDepth 100000 in
set_option maxHeartbeats 16000000 in
theorem isBracketed_any (l : List UInt8) (hl : l.length ≤ 1000) (m : Int) (w : World) (hm : w.cell? ⟨gMaxH, 0, none⟩ = some (.int .i64 m)) :
    Calls Tryd.prog 35 #[.string ⟨l.toArray⟩] w fun e w' => e = .returned (.bool (bracB l)) ∧ Below w.heap.size w w' := by
  have hzs := ba_size l
  have hix := inner_ext l
  have hat0 := ba_at l
  obtain ⟨S, eS⟩ : ∃ S : ByteArray, (⟨l.toArray⟩ : ByteArray) = S := ⟨_, rfl⟩
  rw [eS] at hzs hix ⊢
  rw [eS] at hat0
  clear eS
  refine (callsIn_wide (n := 3)).1 (callsIn_of_wp_marks Tryd.func35 rfl trivial (wpIn_wide.2 ?_) rfl)
  simp only [Tryd.ntmps35, List.size_toArray, List.length_cons, List.length_nil, Nat.reduceAdd, Nat.reduceSub, Array.replicate_succ, Array.replicate_zero, List.push_toArray, List.append_toArray, List.nil_append, List.cons_append]
  go_wp2_with fail
  refine wp_scope_fwd 0 rfl ?_
  by_cases c1 : l.length < 2
  · have HF := Lib.hid (show bracB l = false by unfold bracB; rw [decide_eq_false (by omega)]; rfl)
    have q1 : (S.size : Int) < 2 := by omega
    clear hzs hix hat0
    go_upto_region 1 with fail
    refine sw_lit ?_
    refine sw_pure (v := .string S) (fun W => rfl) rfl ?_
    simp only [nm0, nm1, nm2, nm3]
    refine sw_pure (v := .int .i64 (S.size : Int)) (fun W => by go_simp) rfl ?_
    simp only [nm0, nm1, nm2, nm3]
    refine sw_pure (v := .bool true) (fun W => run_bin_of rfl rfl rfl (by go_simp)) rfl ?_
    simp only [nm0, nm1, nm2, nm3]
    refine sw_pure (v := .bool true) (fun W => rfl) rfl ?_
    simp only [nm0, nm1, nm2, nm3]
    refine sw_skip rfl ?_
    simp only [nm0, nm1, nm2, nm3]
    refine sw_skip rfl ?_
    simp only [nm0, nm1, nm2, nm3]
    refine sw_skip rfl ?_
    simp only [nm0, nm1, nm2, nm3]
    refine sw_pure (v := .bool true) (fun W => rfl) rfl ?_
    simp only [nm0, nm1, nm2, nm3]
    refine sw_pure (v := .bool true) (fun W => rfl) rfl ?_
    simp only [nm0, nm1, nm2, nm3]
    refine sw_skip rfl ?_
    simp only [nm0, nm1, nm2, nm3]
    refine sw_skip rfl ?_
    simp only [nm0, nm1, nm2, nm3]
    refine sw_skip rfl ?_
    simp only [nm0, nm1, nm2, nm3]
    refine sw_skip rfl ?_
    simp only [nm0, nm1, nm2, nm3]
    refine sw_skip rfl ?_
    simp only [nm0, nm1, nm2, nm3]
    refine sw_skip rfl ?_
    simp only [nm0, nm1, nm2, nm3]
    refine sw_pure (v := .bool true) (fun W => rfl) rfl ?_
    simp only [nm0, nm1, nm2, nm3]
    refine sw_nil ?_
    go_wp2_with fail
    first | exact leaves_marks (w0 := w) (s := 2) rfl rfl (fun W hb => ⟨ret_bool HF.out.symm, hb⟩) [] w (Marks.nil _ _) (Below.refl _ _) | (rw [jump_ret]; exact leaves_marks (w0 := w) (s := 2) rfl rfl (fun W hb => ⟨ret_bool HF.out.symm, hb⟩) [] w (Marks.nil _ _) (Below.refl _ _))
  have q1 : ¬ (S.size : Int) < 2 := by omega
  obtain ⟨d0, hd0, ed0⟩ := hat0 0 (by omega)
  obtain ⟨d1, hd1, ed1⟩ := hat0 (l.length - 1) (by omega)
  have HB0 := Lib.hid (show bracB l = (d0.toNat == 91 && (d1.toNat == 93 && brB (innerL l))) by unfold bracB; rw [decide_eq_true (by omega), ← ed0, ← ed1]; rfl)
  rw [← hzs] at hd1
  have w1 : IntKind.i64.wrap ((S.size : Int) - 1) = ((S.size - 1 : Nat) : Int) := by rw [show ((S.size - 1 : Nat) : Int) = (S.size : Int) - 1 by omega]; exact IntWalk.i64_in _ (by omega)
  have hS1 : 0 < S.size := by omega
  have hix2 := hix (by omega)
  rw [← hzs] at hix2
  have HIX := Lib.hid hix2
  have HL := Lib.hid (show 2 ≤ S.size ∧ S.size ≤ 1000 ∧ S.size = l.length by omega)
  clear hzs hix hix2 hat0 ed0 ed1
  by_cases c2 : d0.toNat = 91
  case neg =>
    have HF := Lib.hid (show bracB l = false by rw [HB0.out, show (d0.toNat == 91) = false by simpa using c2]; rfl)
    have q2 : ((d0.toNat : Int) == 91) = false := by simp; omega
    have q2' : ((d0.toNat : Int) != 91) = true := by simp; omega
    clear c2 w1
    go_upto_region 1 with fail
    refine sw_lit ?_
    refine sw_pure (v := .string S) (fun W => rfl) rfl ?_
    simp only [nm0, nm1, nm2, nm3]
    refine sw_pure (v := .int .i64 (S.size : Int)) (fun W => by go_simp) rfl ?_
    simp only [nm0, nm1, nm2, nm3]
    refine sw_pure (v := .bool false) (fun W => run_bin_of rfl rfl rfl (by go_simp)) rfl ?_
    simp only [nm0, nm1, nm2, nm3]
    refine sw_pure (v := .bool false) (fun W => rfl) rfl ?_
    simp only [nm0, nm1, nm2, nm3]
    refine sw_pure (v := .string S) (fun W => rfl) rfl ?_
    simp only [nm0, nm1, nm2, nm3]
    refine sw_pure (v := .int .u8 (d0.toNat : Int)) (fun W => run_idx_str (i := 0) (c := d0) W rfl rfl rfl Tryd.underlying9 hd0) rfl ?_
    simp only [nm0, nm1, nm2, nm3]
    refine sw_pure (v := .bool true) (fun W => run_bin_of rfl rfl rfl (by go_simp)) rfl ?_
    simp only [nm0, nm1, nm2, nm3]
    refine sw_pure (v := .bool true) (fun W => rfl) rfl ?_
    simp only [nm0, nm1, nm2, nm3]
    refine sw_pure (v := .bool true) (fun W => rfl) rfl ?_
    simp only [nm0, nm1, nm2, nm3]
    refine sw_skip rfl ?_
    simp only [nm0, nm1, nm2, nm3]
    refine sw_skip rfl ?_
    simp only [nm0, nm1, nm2, nm3]
    refine sw_skip rfl ?_
    simp only [nm0, nm1, nm2, nm3]
    refine sw_skip rfl ?_
    simp only [nm0, nm1, nm2, nm3]
    refine sw_skip rfl ?_
    simp only [nm0, nm1, nm2, nm3]
    refine sw_skip rfl ?_
    simp only [nm0, nm1, nm2, nm3]
    refine sw_pure (v := .bool true) (fun W => rfl) rfl ?_
    simp only [nm0, nm1, nm2, nm3]
    refine sw_nil ?_
    go_wp2_with fail
    first | exact leaves_marks (w0 := w) (s := 2) rfl rfl (fun W hb => ⟨ret_bool HF.out.symm, hb⟩) [] w (Marks.nil _ _) (Below.refl _ _) | (rw [jump_ret]; exact leaves_marks (w0 := w) (s := 2) rfl rfl (fun W hb => ⟨ret_bool HF.out.symm, hb⟩) [] w (Marks.nil _ _) (Below.refl _ _))
  have q2 : ((d0.toNat : Int) == 91) = true := by simp; omega
  have q2' : ((d0.toNat : Int) != 91) = false := by simp; omega
  by_cases c3 : d1.toNat = 93
  case neg =>
    have HF := Lib.hid (show bracB l = false by rw [HB0.out, show (d1.toNat == 93) = false by simpa using c3]; simp)
    have q3 : ((d1.toNat : Int) == 93) = false := by simp; omega
    have q3' : ((d1.toNat : Int) != 93) = true := by simp; omega
    clear c2 c3
    go_upto_region 1 with fail
    refine sw_lit ?_
    refine sw_pure (v := .string S) (fun W => rfl) rfl ?_
    simp only [nm0, nm1, nm2, nm3]
    refine sw_pure (v := .int .i64 (S.size : Int)) (fun W => by go_simp) rfl ?_
    simp only [nm0, nm1, nm2, nm3]
    refine sw_pure (v := .bool false) (fun W => run_bin_of rfl rfl rfl (by go_simp)) rfl ?_
    simp only [nm0, nm1, nm2, nm3]
    refine sw_pure (v := .bool false) (fun W => rfl) rfl ?_
    simp only [nm0, nm1, nm2, nm3]
    refine sw_pure (v := .string S) (fun W => rfl) rfl ?_
    simp only [nm0, nm1, nm2, nm3]
    refine sw_pure (v := .int .u8 (d0.toNat : Int)) (fun W => run_idx_str (i := 0) (c := d0) W rfl rfl rfl Tryd.underlying9 hd0) rfl ?_
    simp only [nm0, nm1, nm2, nm3]
    refine sw_pure (v := .bool false) (fun W => run_bin_of rfl rfl rfl (by go_simp)) rfl ?_
    simp only [nm0, nm1, nm2, nm3]
    refine sw_pure (v := .bool false) (fun W => rfl) rfl ?_
    simp only [nm0, nm1, nm2, nm3]
    refine sw_pure (v := .bool false) (fun W => rfl) rfl ?_
    simp only [nm0, nm1, nm2, nm3]
    refine sw_pure (v := .string S) (fun W => rfl) rfl ?_
    simp only [nm0, nm1, nm2, nm3]
    refine sw_pure (v := .string S) (fun W => rfl) rfl ?_
    simp only [nm0, nm1, nm2, nm3]
    refine sw_pure (v := .int .i64 (S.size : Int)) (fun W => by go_simp) rfl ?_
    simp only [nm0, nm1, nm2, nm3]
    refine sw_pure (v := .int .i64 ((S.size - 1 : Nat) : Int)) (fun W => run_bin_of rfl rfl rfl (by go_simp)) rfl ?_
    simp only [nm0, nm1, nm2, nm3]
    refine sw_pure (v := .int .u8 (d1.toNat : Int)) (fun W => run_idx_str (i := S.size - 1) (c := d1) W rfl rfl rfl Tryd.underlying9 hd1) rfl ?_
    simp only [nm0, nm1, nm2, nm3]
    refine sw_pure (v := .bool true) (fun W => run_bin_of rfl rfl rfl (by go_simp)) rfl ?_
    simp only [nm0, nm1, nm2, nm3]
    refine sw_pure (v := .bool true) (fun W => rfl) rfl ?_
    simp only [nm0, nm1, nm2, nm3]
    refine sw_nil ?_
    go_wp2_with fail
    first | exact leaves_marks (w0 := w) (s := 2) rfl rfl (fun W hb => ⟨ret_bool HF.out.symm, hb⟩) [] w (Marks.nil _ _) (Below.refl _ _) | (rw [jump_ret]; exact leaves_marks (w0 := w) (s := 2) rfl rfl (fun W hb => ⟨ret_bool HF.out.symm, hb⟩) [] w (Marks.nil _ _) (Below.refl _ _))
  have q3 : ((d1.toNat : Int) == 93) = true := by simp; omega
  have q3' : ((d1.toNat : Int) != 93) = false := by simp; omega
  have HB1 := Lib.hid (show bracB l = brB (innerL l) by rw [HB0.out, c2, c3]; rfl)
  clear c2 c3
  go_upto_region 1 with fail
  refine sw_lit ?_
  refine sw_pure (v := .string S) (fun W => rfl) rfl ?_
  simp only [nm0, nm1, nm2, nm3]
  refine sw_pure (v := .int .i64 (S.size : Int)) (fun W => by go_simp) rfl ?_
  simp only [nm0, nm1, nm2, nm3]
  refine sw_pure (v := .bool false) (fun W => run_bin_of rfl rfl rfl (by go_simp)) rfl ?_
  simp only [nm0, nm1, nm2, nm3]
  refine sw_pure (v := .bool false) (fun W => rfl) rfl ?_
  simp only [nm0, nm1, nm2, nm3]
  refine sw_pure (v := .string S) (fun W => rfl) rfl ?_
  simp only [nm0, nm1, nm2, nm3]
  refine sw_pure (v := .int .u8 (d0.toNat : Int)) (fun W => run_idx_str (i := 0) (c := d0) W rfl rfl rfl Tryd.underlying9 hd0) rfl ?_
  simp only [nm0, nm1, nm2, nm3]
  refine sw_pure (v := .bool false) (fun W => run_bin_of rfl rfl rfl (by go_simp)) rfl ?_
  simp only [nm0, nm1, nm2, nm3]
  refine sw_pure (v := .bool false) (fun W => rfl) rfl ?_
  simp only [nm0, nm1, nm2, nm3]
  refine sw_pure (v := .bool false) (fun W => rfl) rfl ?_
  simp only [nm0, nm1, nm2, nm3]
  refine sw_pure (v := .string S) (fun W => rfl) rfl ?_
  simp only [nm0, nm1, nm2, nm3]
  refine sw_pure (v := .string S) (fun W => rfl) rfl ?_
  simp only [nm0, nm1, nm2, nm3]
  refine sw_pure (v := .int .i64 (S.size : Int)) (fun W => by go_simp) rfl ?_
  simp only [nm0, nm1, nm2, nm3]
  refine sw_pure (v := .int .i64 ((S.size - 1 : Nat) : Int)) (fun W => run_bin_of rfl rfl rfl (by go_simp)) rfl ?_
  simp only [nm0, nm1, nm2, nm3]
  refine sw_pure (v := .int .u8 (d1.toNat : Int)) (fun W => run_idx_str (i := S.size - 1) (c := d1) W rfl rfl rfl Tryd.underlying9 hd1) rfl ?_
  simp only [nm0, nm1, nm2, nm3]
  refine sw_pure (v := .bool false) (fun W => run_bin_of rfl rfl rfl (by go_simp)) rfl ?_
  simp only [nm0, nm1, nm2, nm3]
  refine sw_pure (v := .bool false) (fun W => rfl) rfl ?_
  simp only [nm0, nm1, nm2, nm3]
  refine sw_nil ?_
  clear q1 q2 q2' q3 q3' hd0 hd1
  have hM0 := Mem.start w
  go_upto_region 3 with fail
  refine sw_lit ?_
  refine sw_new hM0 (f := fun b => .pointer (some ⟨b, 0, none⟩)) (fun W => run_alloc_of rfl (al_Fn W)) rfl fun b3 W2 hM2 => ?_
  simp only [nm0, nm1, nm2, nm3]
  refine sw_store (run_store_one (v := fnHex) (hM2.get 0 rfl) rfl rfl rfl cellF rfl) rfl rfl ?_
  have hM3 := hM2.set (cs := #[fnHex]) 0 rfl
  refine sw_nil ?_
  obtain ⟨W3, hW3⟩ : ∃ W3, W2.setRow b3 #[fnHex] = W3 := ⟨_, rfl⟩
  rw [hW3] at hM3 ⊢
  simp only [nm2, nm3] at hM3
  clear hM2 hW3 hM0
  obtain ⟨t, ht⟩ : ∃ t, innerL l = t := ⟨_, rfl⟩
  have htl : t.length ≤ 1000 := by rw [← ht]; unfold innerL; rw [List.length_take]; have := HL.out; omega
  rw [ht] at HIX HB1
  have lgm := (by
    have := blk_of_cellH hm
    exact this : gMaxH < w.heap.size)
  have hm3 := ((bcell hM3.below).1 gMaxH 0 lgm).trans hm
  have KSP := splitS_any t [58, 58] (by simp) htl m W3 hm3
  have hnl := split_len [58, 58] (by simp) t
  obtain ⟨T, eT⟩ : ∃ T : ByteArray, (⟨t.toArray⟩ : ByteArray) = T := ⟨_, rfl⟩
  rw [eT] at KSP HIX
  obtain ⟨L, eL⟩ : ∃ L, Lib.split t [58, 58] = L := ⟨_, rfl⟩
  rw [eL] at KSP hnl
  obtain ⟨n, en⟩ : ∃ n, L.length = n := ⟨_, rfl⟩
  rw [en] at KSP hnl
  have HBR := Lib.hid (show bracB l = (decide (n ≤ 2) && ((L.flatMap grp).all goodG && ((decide ((L.flatMap grp).length = 8) && decide (n = 1)) || (decide ((L.flatMap grp).length ≤ 7) && decide (n = 2))))) by
    rw [HB1.out]
    unfold brB
    rw [eL, en])
  have hn1 : 1 ≤ n := by
    rw [← en, ← eL]
    by_cases h0 : dbl t = 0
    · rw [split_none h0]; simp
    · have := split_some h0; omega
  go_upto_region 4 with fail
  refine sw_lit ?_
  refine sw_pure (v := .string S) (fun W => rfl) rfl ?_
  simp only [nm0, nm1, nm2, nm3]
  refine sw_pure (v := .string S) (fun W => rfl) rfl ?_
  simp only [nm0, nm1, nm2, nm3]
  refine sw_pure (v := .int .i64 (S.size : Int)) (fun W => by go_simp) rfl ?_
  simp only [nm0, nm1, nm2, nm3]
  refine sw_pure (v := .int .i64 ((S.size - 1 : Nat) : Int)) (fun W => run_bin_of rfl rfl rfl (by go_simp)) rfl ?_
  simp only [nm0, nm1, nm2, nm3]
  refine sw_pure (v := .string T) (fun W => by rw [← HIX.out]; refine run_slc_str W rfl rfl ?_; exact slc_str (i := 1) W Tryd.underlying9 (by have := HL.out; omega) (by omega)) rfl ?_
  simp only [nm0, nm1, nm2, nm3]
  refine sw_callE (args := #[.string T, .string ⟨#[58, 58]⟩]) (fun W => run_call_fn W (enters_of Tryd.func66 (by kernel_rfl) rfl) rfl (by simp [Act.eval])) KSP rfl ?_
  rintro e W4 ⟨g, cur, rfl, hg, hcur, hat, hbW4⟩
  refine ⟨_, rfl, ?_⟩
  simp only [nm0, nm1, nm2, nm3]
  refine sw_pure (v := .slice (some ⟨g, 0, none⟩) n n) (fun W => rfl) rfl ?_
  simp only [nm0, nm1, nm2, nm3]
  refine sw_nil ?_
  have hM4 := hM3.calls hbW4
  have hg4 : g < W4.heap.size := (Array.getElem?_eq_some_iff.1 hcur).1
  have hM4z := hM3.below.size
  clear hM3 hbW4 hm3 KSP w1
  by_cases c4 : 2 < n
  · have q4 : (2 : Int) < (n : Int) := by omega
    have HF := Lib.hid (show bracB l = false by rw [HBR.out, decide_eq_false (by omega)]; rfl)
    go_wp2_with fail
    rw [jump_ret]
    exact leaves_marks (w0 := w) (s := 2) rfl rfl (fun W hb => ⟨ret_bool HF.out.symm, hb⟩) [] W4 (Marks.nil _ _) hM4.below
  have q4 : ¬ (2 : Int) < (n : Int) := by omega
  go_upto_region 7 with fail
  refine sw_lit ?_
  refine sw_val (v := .pointer (some ⟨W4.heap.size, 0, none⟩)) (run_alloc_of rfl (al_Ar3 W4)) rfl ?_
  have hM5 := hM4.new1 (.cells #[.int .i64 0, .int .i64 0, .int .i64 0] Ar3T (0, 0))
  have hbl5 : Below W4.heap.size W4 _ := ((Mem.start W4).new1 (.cells #[.int .i64 0, .int .i64 0, .int .i64 0] Ar3T (0, 0))).below
  obtain ⟨b5, hb5⟩ : ∃ b5, W4.heap.size = b5 := ⟨_, rfl⟩
  obtain ⟨W5, hW5⟩ : ∃ W5, W4.alloc (.cells #[.int .i64 0, .int .i64 0, .int .i64 0] Ar3T (0, 0)) = W5 := ⟨_, rfl⟩
  rw [hW5] at hM5 hbl5 ⊢
  rw [hb5] at hM5 ⊢
  clear hW5 hb5
  simp only [nm0, nm1, nm2, nm3]
  refine sw_nil ?_
  have hcur5 := (show W5.heap[g]? = some (.cells cur StT (0, 0)) from (hbl5.block g hg4).trans hcur)
  have hg5 : w.heap.size ≤ g := Nat.le_trans hM4z hg
  go_wp2_with fail
  go_step3
  go_wp2_with fail
  have hn12 : n = 1 ∨ n = 2 := by omega
  have HAT := Lib.hid hat
  have HSM := Lib.hid (split_mem [58, 58] (by simp) t.length t (Nat.le_refl _))
  rw [eL] at HSM
  clear hcur hat hg4 q4 c4
  refine wp_loop_st n (fun k a W => ∃ (Ds : List Nat) (u6 u7 u8 u38 u39 u40 u41 u42 u43 u44 u45 u46 u47 u48 u49 u50 u51 u52 u53 u54 u55 u56 u57 u58 u59 u60 u61 u62 u63 u64 u65 u66 u67 u68 u69 : Value), a = { tmps := #[Value.string S, undef, Value.bool false, Value.pointer (some ⟨b3, 0, none⟩), Value.slice (some ⟨g, 0, none⟩) n n, Value.pointer (some ⟨b5, 0, none⟩), u6, u7, u8, undef, Value.string S, Value.int .i64 (S.size : Int), Value.bool false, Value.bool false, Value.string S, Value.int .u8 (d0.toNat : Int), Value.bool false, Value.bool false, Value.bool false, Value.string S, Value.string S, Value.int .i64 (S.size : Int), Value.int .i64 ((S.size - 1 : Nat) : Int), Value.int .u8 (d1.toNat : Int), Value.bool false, Value.bool false, Value.string S, Value.string S, Value.int .i64 (S.size : Int), Value.int .i64 ((S.size - 1 : Nat) : Int), Value.string T, Value.slice (some ⟨g, 0, none⟩) n n, Value.slice (some ⟨g, 0, none⟩) n n, Value.int .i64 (n : Int), Value.bool false, Value.slice (some ⟨g, 0, none⟩) n n, Value.int .i64 (n : Int), Value.int .i64 (k : Int), u38, u39, u40, u41, u42, u43, u44, u45, u46, u47, u48, u49, u50, u51, u52, u53, u54, u55, u56, u57, u58, u59, u60, u61, u62, u63, u64, u65, u66, u67, u68, u69, undef, undef, undef, undef, undef, undef, undef, undef, undef, undef, undef, undef, undef, undef, undef, undef, undef, undef, undef, undef, undef, undef, undef, undef, undef, undef], defers := dsOf Ds } ∧ Marks w.heap.size Ds W ∧ Mem w [bArr b5 (cN L 0 k) (cN L 1 k) 0, (b3, .cells #[fnHex] FnT (0, 0))] W ∧ W.heap[g]? = some (.cells cur StT (0, 0)) ∧ ((L.take k).flatMap grp).all goodG = true) ?start ?step ?fin
  case start => exact ⟨[], undef, undef, undef, undef, undef, undef, undef, undef, undef, undef, undef, undef, undef, undef, undef, undef, undef, undef, undef, undef, undef, undef, undef, undef, undef, undef, undef, undef, undef, undef, undef, undef, undef, undef, undef, rfl, Marks.nil _ _, hM5, hcur5, rfl⟩
  case step =>
    rintro k a W hk ⟨Ds, u6, u7, u8, u38, u39, u40, u41, u42, u43, u44, u45, u46, u47, u48, u49, u50, u51, u52, u53, u54, u55, u56, u57, u58, u59, u60, u61, u62, u63, u64, u65, u66, u67, u68, u69, rfl, hMk, hM, hcW, hall⟩
    have p1 : (k : Int) < (n : Int) := by omega
    have hkl : k < L.length := by omega
    obtain ⟨P, hP⟩ : ∃ P, L[k]? = some P := ⟨_, List.getElem?_eq_getElem hkl⟩
    have hPc := HAT.out k P hP
    have hPl : P.length ≤ 1000 := by have := HSM.out P (List.mem_of_getElem? hP); omega
    have HP := Lib.hid hP
    obtain ⟨PX, ePX⟩ : ∃ X : ByteArray, (⟨P.toArray⟩ : ByteArray) = X := ⟨_, rfl⟩
    rw [ePX] at hPc
    have HPX := Lib.hid ePX
    have HPC := Lib.hid hPc
    have w1 : IntKind.i64.wrap ((k : Int) + 1) = ((k + 1 : Nat) : Int) := by rw [show ((k + 1 : Nat) : Int) = (k : Int) + 1 by omega]; exact IntWalk.i64_in _ (by omega)
    clear hP hPc ePX hkl
    go_upto_region 10 with fail
    refine sw_lit ?_
    refine sw_pure (v := .int .i64 (k : Int)) (fun W => rfl) rfl ?_
    simp only [nm0, nm1, nm2, nm3]
    refine sw_pure (v := .pointer (some ⟨g, k, none⟩)) (fun W => run_index_of rfl rfl rfl (hix_Str g n n k hk W)) rfl ?_
    simp only [nm0, nm1, nm2, nm3]
    refine sw_val (v := .string PX) (run_load_cell rfl rfl hcW HPC.out cellHS) rfl ?_
    simp only [nm0, nm1, nm2, nm3]
    have hn0 := Mem.start W
    refine sw_val (v := .pointer (some ⟨W.heap.size, 0, none⟩)) (run_alloc_of rfl (al_HI W)) rfl ?_
    have hM1 := hM.new1 (.cells #[.int .i64 0] 3 (0, 0))
    have hn1' := hn0.new1 (.cells #[.int .i64 0] 3 (0, 0))
    simp only [nm0, nm1, nm2, nm3]
    refine sw_store (run_store_one (v := .int .i64 (k : Int)) (hM1.get 0 rfl) rfl rfl rfl cellHI rfl) rfl rfl ?_
    have hM2 := hM1.set (cs := #[.int .i64 (k : Int)]) 0 rfl
    have hn2' := hn1'.set (cs := #[.int .i64 (k : Int)]) 0 rfl
    simp only [nm2, nm3] at hM2
    refine sw_pure (v := .string PX) (fun W => rfl) rfl ?_
    simp only [nm0, nm1, nm2, nm3]
    refine sw_nil ?_
    have hMk6 := hMk.calls hn2'.below
    have hcur6 := (hn2'.below.block g (Array.getElem?_eq_some_iff.1 hcW).1).trans hcW
    obtain ⟨b6, hb6⟩ : ∃ b6, W.heap.size = b6 := ⟨_, rfl⟩
    obtain ⟨W6, hW6⟩ : ∃ W6, (W.alloc (.cells #[.int .i64 0] 3 (0, 0))).setRow W.heap.size #[.int .i64 (k : Int)] = W6 := ⟨_, rfl⟩
    rw [hW6] at hM2 hMk6 hcur6 ⊢
    rw [hb6] at hM2 ⊢
    have hM6 := hM2
    clear hM2 hM1 hn0 hn1' hn2' hM hMk hcW hW6
    by_cases cP : P = []
    · have ePX2 : PX = ⟨#[]⟩ := by rw [← HPX.out, cP]
      subst ePX2
      have hx0 : grp P = [] := by rw [cP]; rfl
      go_wp2_with fail
      refine ⟨Ds, _, _, _, _, _, _, _, _, _, _, _, _, _, _, _, _, _, _, _, _, _, _, _, _, _, _, _, _, _, _, _, _, _, _, _, rfl, hMk6, ?_, hcur6, ?_⟩
      · rw [cN_empty HP.out hx0 0, cN_empty HP.out hx0 1]
        exact hM6.tail
      · rw [flat_at HP.out, hall, hx0]
        rfl
    · have hneP := txt_ne P cP
      rw [HPX.out] at hneP
      have HGP := Lib.hid (show grp P = prt 58 [] P by
        unfold grp
        rw [if_neg (by cases P with | nil => exact absurd rfl cP | cons => simp)])
      go_upto_region 12 with fail
      refine sw_lit ?_
      refine sw_pure (v := .string PX) (fun W => rfl) rfl ?_
      simp only [nm0, nm1, nm2, nm3]
      refine sw_callE (args := #[.string PX, .string ⟨#[58]⟩]) (fun W => run_call_fn W (enters_of Tryd.func64 (by kernel_rfl) rfl) rfl (by simp [Act.eval])) (splitSeq_any PX ⟨#[58]⟩ W6) rfl ?_
      rintro e W7 ⟨rfl, hW7⟩
      refine ⟨_, rfl, ?_⟩
      have hN7 := (((Mem.start W6).new1 (.cells #[.string PX] 9)).new1 (.cells #[.string ⟨#[58]⟩] 9)).new1 (.cells #[.int .i64 0] 3)
      rw [← hW7] at hN7
      obtain ⟨Bs, hBs⟩ : ∃ Bs, W6.heap.size = Bs := ⟨_, rfl⟩
      simp only [World.size_alloc] at hN7
      rw [hBs] at hN7 ⊢
      clear hW7 hneP
      simp only [nm0, nm1, nm2, nm3]
      refine sw_nil ?_
      go_wp2_with fail
      refine (wpIn_wide (n := 3)).1 ?_
      obtain rfl | rfl : k = 0 ∨ k = 1 := by omega
      · obtain ⟨D, hD⟩ : ∃ D, W7.heap.size = D := ⟨_, rfl⟩
        have l6 := hM6.lt (List.mem_of_getElem? (i := 0) rfl)
        have l5 := hM6.lt (List.mem_of_getElem? (i := 1) rfl)
        have l3 := hM6.lt (List.mem_of_getElem? (i := 2) rfl)
        have uBs := hN7.lt (List.mem_of_getElem? (i := 2) rfl)
        have uB2 := hN7.lt (List.mem_of_getElem? (i := 0) rfl)
        simp only at l6 l5 l3 uBs uB2
        rw [hD] at uBs uB2
        rw [hBs] at l6 l5 l3
        have hz6 := hM6.below.size
        rw [hBs] at hz6
        have hdl : ∀ d ∈ Ds, d < Bs := fun d hd => by rw [← hBs]; exact hMk6.lt hd
        have hM7 := hM6.calls hN7.below
        have hMk7 := hMk6.calls hN7.below
        have hwD : w.heap.size ≤ D := by omega
        have hgB : g < Bs := by rw [← hBs]; exact (Array.getElem?_eq_some_iff.1 hcur6).1
        have hcur7 := (hN7.below.block g (by rw [hBs]; exact hgB)).trans hcur6
        have hMc : ∀ j, ∀ p ∈ ([(b6, .cells #[.int .i64 0] 3 (0, 0)), bArr b5 j 0 0, (b3, .cells #[fnHex] FnT (0, 0))] : List Blk), p.2.isCells = true := fun j p hp => by
          simp only [List.mem_cons, List.not_mem_nil, or_false] at hp
          rcases hp with rfl | rfl | rfl <;> rfl
        have hMcb : ∀ x0 x1, ∀ p ∈ ([(b6, .cells #[.int .i64 0] 3 (0, 0)), bArr b5 x0 x1 1, (b3, .cells #[fnHex] FnT (0, 0))] : List Blk), p.2.isCells = true := fun x0 x1 p hp => by
          simp only [List.mem_cons, List.not_mem_nil, or_false] at hp
          rcases hp with rfl | rfl | rfl <;> rfl
        have hMl : ∀ j, ∀ p ∈ ([(b6, .cells #[.int .i64 0] 3 (0, 0)), bArr b5 j 0 0, (b3, .cells #[fnHex] FnT (0, 0))] : List Blk), p.1 < Bs := fun j p hp => by
          simp only [List.mem_cons, List.not_mem_nil, or_false] at hp
          rcases hp with rfl | rfl | rfl <;> assumption
        have hBs7 := hN7.get 2 rfl
        rw [← HPX.out] at hBs7
        refine wpIn_range_z rfl (by omega) (gf := 98) (lb := #[.pointer (some ⟨Bs + 1, 0, none⟩), .pointer (some ⟨Bs, 0, none⟩), .pointer (some ⟨Bs + 2, 0, none⟩)]) rfl trivial (enters_of Tryd.func98 (by kernel_rfl) rfl)
          (split1_x (3 - 1) (by omega) 58 P (by omega) Bs (Bs + 1) (Bs + 2) (fun k => k ≠ b5 ∧ k ≠ D + 1) W7 hBs7 (hN7.get 1 rfl) (hN7.get 0 rfl) ⟨by omega, by omega⟩ ⟨by omega, by omega⟩ ⟨by omega, by omega⟩ (by omega) (by omega)) (by omega) kpF_t ?hkb (Below.refl _ _) (fun _ => rfl)
          (fun pre V => (∀ y ∈ pre, goodG y = true) ∧ Mem w [(b6, .cells #[.int .i64 0] 3 (0, 0)), bArr b5 pre.length 0 0, (b3, .cells #[fnHex] FnT (0, 0))] V ∧ Marks w.heap.size Ds V ∧ V.heap[g]? = some (.cells cur StT (0, 0)))
          (fun cd xs V => cd = .exit 0 ∧ (∃ pre x, xs = pre ++ [x] ∧ goodG x = false) ∧ (∃ x0 x1 : Nat, Mem w [(b6, .cells #[.int .i64 0] 3 (0, 0)), bArr b5 x0 x1 1, (b3, .cells #[fnHex] FnT (0, 0))] V) ∧ Marks w.heap.size Ds V)
          ?hI ?hIx ?hInv ?h0 ?hIs
          (fun x a' V => a' = { tmps := #[Value.string S, undef, Value.bool false, Value.pointer (some ⟨b3, 0, none⟩), Value.slice (some ⟨g, 0, none⟩) n n, Value.pointer (some ⟨b5, 0, none⟩), Value.pointer (some ⟨b6, 0, none⟩), Value.string PX, Value.string ⟨x.toArray⟩, undef, Value.string S, Value.int .i64 (S.size : Int), Value.bool false, Value.bool false, Value.string S, Value.int .u8 (d0.toNat : Int), Value.bool false, Value.bool false, Value.bool false, Value.string S, Value.string S, Value.int .i64 (S.size : Int), Value.int .i64 ((S.size - 1 : Nat) : Int), Value.int .u8 (d1.toNat : Int), Value.bool false, Value.bool false, Value.string S, Value.string S, Value.int .i64 (S.size : Int), Value.int .i64 ((S.size - 1 : Nat) : Int), Value.string T, Value.slice (some ⟨g, 0, none⟩) n n, Value.slice (some ⟨g, 0, none⟩) n n, Value.int .i64 (n : Int), Value.bool false, Value.slice (some ⟨g, 0, none⟩) n n, Value.int .i64 (n : Int), Value.int .i64 0, Value.bool true, Value.int .i64 0, Value.pointer (some ⟨g, 0, none⟩), Value.string PX, Value.string PX, Value.bool false, Value.string PX, Value.func (.func 98) #[] #[.pointer (some ⟨Bs + 1, 0, none⟩), .pointer (some ⟨Bs, 0, none⟩), .pointer (some ⟨Bs + 2, 0, none⟩)], Value.string ⟨x.toArray⟩, u47, u48, u49, u50, u51, u52, u53, u54, u55, u56, u57, u58, u59, u60, u61, u62, u63, u64, u65, u66, u67, u68, u69, undef, undef, undef, undef, undef, undef, undef, undef, undef, undef, undef, undef, undef, undef, undef, undef, undef, undef, undef, undef, undef, undef, undef, undef, undef, undef], defers := [] }) ?hAx ?assign ?body ?done ?stop
        case hkb =>
          rw [hD]
          intro V r r' h
          exact ⟨by simp [World.putObj], fun k ob hk hf => ⟨(World.putObj_heap_other hf.2).trans hk, hf⟩⟩
        case hI =>
          rw [hD]
          rintro pre A B row ⟨h1, hm, hk, hc⟩ hg hr
          exact ⟨h1, mem_own hm (hMc _) hwD hg hr, hk.own (fun d hd => Nat.lt_trans (hdl d hd) uBs) hg hr, cells_own hc hg fun r e => (hr r e).2⟩
        case hIx =>
          rw [hD]
          rintro cd xs A B row ⟨h1, h2, ⟨x0, x1, hm⟩, hk⟩ hg hr
          exact ⟨h1, h2, ⟨x0, x1, mem_own hm (hMcb _ _) hwD hg hr⟩, hk.own (fun d hd => Nat.lt_trans (hdl d hd) uBs) hg hr⟩
        case hInv =>
          intro pre V hm hz
          trivial
        case h0 => exact ⟨fun y hy => (by cases hy), hM7, hMk7, hcur7⟩
        case hIs =>
          rintro pre V v ⟨h1, hm, hk, hc⟩
          refine ⟨h1, mem_setother hm hz6 fun p hp => by (have := hMl _ p hp; omega), ⟨hk.ne, hk.lo, fun d hd => ?_⟩, ?_⟩
          · rw [setRow_other _ _ _ _ (by have := hdl d hd; omega)]
            exact hk.at_ d hd
          · rw [setRow_other _ _ _ _ (by omega)]
            exact hc
        case hAx =>
          rw [hD]
          rintro x a' u A B row h1 hg hr
          exact h1
        case assign =>
          intro l2 pre x V K hI hx hgo
          rw [hD] at hgo
          refine wpIn_fr (t' := #[Value.string S, undef, Value.bool false, Value.pointer (some ⟨b3, 0, none⟩), Value.slice (some ⟨g, 0, none⟩) n n, Value.pointer (some ⟨b5, 0, none⟩), Value.pointer (some ⟨b6, 0, none⟩), Value.string PX, u8, undef, Value.string S, Value.int .i64 (S.size : Int), Value.bool false, Value.bool false, Value.string S, Value.int .u8 (d0.toNat : Int), Value.bool false, Value.bool false, Value.bool false, Value.string S, Value.string S, Value.int .i64 (S.size : Int), Value.int .i64 ((S.size - 1 : Nat) : Int), Value.int .u8 (d1.toNat : Int), Value.bool false, Value.bool false, Value.string S, Value.string S, Value.int .i64 (S.size : Int), Value.int .i64 ((S.size - 1 : Nat) : Int), Value.string T, Value.slice (some ⟨g, 0, none⟩) n n, Value.slice (some ⟨g, 0, none⟩) n n, Value.int .i64 (n : Int), Value.bool false, Value.slice (some ⟨g, 0, none⟩) n n, Value.int .i64 (n : Int), Value.int .i64 0, Value.bool true, Value.int .i64 0, Value.pointer (some ⟨g, 0, none⟩), Value.string PX, Value.string PX, Value.bool false, Value.string PX, Value.func (.func 98) #[] #[.pointer (some ⟨Bs + 1, 0, none⟩), .pointer (some ⟨Bs, 0, none⟩), .pointer (some ⟨Bs + 2, 0, none⟩)], Value.string ⟨x.toArray⟩, u47, u48, u49, u50, u51, u52, u53, u54, u55, u56, u57, u58, u59, u60, u61, u62, u63, u64, u65, u66, u67, u68, u69, undef, undef, undef, undef, undef, undef, undef, undef, undef, undef, undef, undef, undef, undef, undef, undef, undef, undef, undef, undef, undef, undef, undef, undef, undef, undef]) (by simp) ?_
          refine wpIn_region_lit ?_
          refine wi_val (v := .string ⟨x.toArray⟩) (fun _ => trivial) (by simp) rfl rfl ?_
          refine wpListIn_nil ?_
          exact hgo _ _ (below_keeps (Below.refl _ _) _) ⟨Nat.le_refl _, fun k ob hk hf => ⟨hk, hf⟩⟩ hI rfl
        case body =>
          rw [hD]
          rintro l2 pre x a' V hl1 hloop ⟨hgo, hI, hMk, hcV⟩ rfl hx
          have hxm : x ∈ prt 58 [] P := hx.subset (by simp)
          have hxl := prt_mem 58 P [] x hxm
          simp only [List.length_nil, Nat.zero_add] at hxl
          have hpl : pre.length ≤ 1001 := by
            have h1 := prt_len 58 P []
            have := hx.length_le
            simp only [List.length_append, List.length_cons, List.length_nil] at this
            omega
          have v3 := hI.get 2 rfl
          obtain ⟨N0, eN0⟩ : ∃ N0 : Nat, N0 = pre.length := ⟨_, rfl⟩
          obtain ⟨N1, eN1⟩ : ∃ N1 : Nat, N1 = 0 := ⟨_, rfl⟩
          have hI0 := hI
          have hI : Mem w [(b6, .cells #[.int .i64 0] 3 (0, 0)), bArr b5 N0 N1 0, (b3, .cells #[fnHex] FnT (0, 0))] V := by rw [eN0, eN1]; exact hI0
          clear hI0
          refine wpIn_block ?_
          refine wpIn_seq_k fun K2 hK2 => ?_
          refine wpIn_seq_k fun K3 hK3 => ?_
          by_cases c1 : x = []
          · subst c1
            have HG := Lib.hid (show goodG [] = false from rfl)
            apply sw_at _ V (by kernel_rfl) ?run1 ?rest1
            case run1 =>
              refine sw_pure (v := .string ⟨#[]⟩) (fun W => rfl) rfl ?_
              simp only [nm0, nm1, nm2, nm3]
              refine sw_pure (v := .bool true) (fun W => run_bin_of rfl rfl rfl (by go_simp)) rfl ?_
              simp only [nm0, nm1, nm2, nm3]
              refine sw_pure (v := .bool true) (fun W => rfl) rfl ?_
              simp only [nm0, nm1, nm2, nm3]
              refine sw_skip rfl ?_
              simp only [nm0, nm1, nm2, nm3]
              refine sw_skip rfl ?_
              simp only [nm0, nm1, nm2, nm3]
              refine sw_skip rfl ?_
              simp only [nm0, nm1, nm2, nm3]
              refine sw_pure (v := .bool true) (fun W => rfl) rfl ?_
              simp only [nm0, nm1, nm2, nm3]
              refine sw_pure (v := .bool true) (fun W => rfl) rfl ?_
              simp only [nm0, nm1, nm2, nm3]
              refine sw_skip rfl ?_
              simp only [nm0, nm1, nm2, nm3]
              refine sw_skip rfl ?_
              simp only [nm0, nm1, nm2, nm3]
              refine sw_skip rfl ?_
              simp only [nm0, nm1, nm2, nm3]
              refine sw_skip rfl ?_
              simp only [nm0, nm1, nm2, nm3]
              refine sw_pure (v := .bool true) (fun W => rfl) rfl ?_
              simp only [nm0, nm1, nm2, nm3]
              exact sw_nil ⟨rfl, rfl, rfl⟩
            case rest1 =>
              refine hK3 _ _ ?_
              refine wpIn_cond_true rfl ?_
              have w01 : IntKind.i64.wrap (1 : Int) = 1 := IntWalk.i64_in _ (by omega)
              refine wpIn_seq_k fun K6 hK6 => ?_
              refine wpIn_region_lit ?_
              refine wi_val (v := .pointer (some ⟨b5, 2, none⟩)) (fun _ => trivial) (by simp) (run_index_of rfl rfl rfl (ix_Ar3 b5 2 (by decide) _)) rfl ?_
              refine wi_val (v := .int .i64 0) (fun _ => trivial) (by simp) (run_load_cell rfl rfl (hI.get 1 rfl) rfl cellHI) rfl ?_
              refine wi_val (w' := V) (v := .int .i64 1) (fun _ => trivial) (by simp) (run_bin_of rfl rfl rfl (by go_simp)) rfl ?_
              refine wi_val (v := .pointer (some ⟨b5, 2, none⟩)) (fun _ => trivial) (by simp) (run_index_of rfl rfl rfl (ix_Ar3 b5 2 (by decide) _)) rfl ?_
              refine wi_skip (fun _ => trivial) (by simp) (run_store_off (off := 2) (cs' := #[.int .i64 (N0 : Int), .int .i64 (N1 : Int), .int .i64 1]) (hI.get 1 rfl) rfl rfl rfl (by show 2 < 3; decide) rfl cellHI rfl) rfl rfl ?_
              have hI2 := hI.set (cs := #[.int .i64 (N0 : Int), .int .i64 (N1 : Int), .int .i64 1]) 1 rfl
              have hMk2 := hMk.setRow (cs := #[.int .i64 (N0 : Int), .int .i64 (N1 : Int), .int .i64 1]) (hI.get 1 rfl)
              refine wpListIn_nil (hK6 _ _ ?_)
              refine wpIn_exit ?_
              exact ⟨setRow_keeps _ _ _ _ (by omega), rfl, ⟨pre, _, rfl, HG.out⟩, ⟨N0, N1, hI2⟩, hMk2⟩
          have hne := txt_ne x c1
          have hzx := ba_size x
          have hgx := fine_hex x c1
          obtain ⟨X, eX⟩ : ∃ X : ByteArray, (⟨x.toArray⟩ : ByteArray) = X := ⟨_, rfl⟩
          rw [eX] at hne hzx ⊢
          by_cases c2 : 4 < x.length
          · have q2 : (4 : Int) < (X.size : Int) := by omega
            have HG := Lib.hid (show goodG x = false by rw [hgx, decide_eq_false (show ¬ x.length ≤ 4 by omega)]; rfl)
            clear hzx hgx
            apply sw_at _ V (by kernel_rfl) ?run2 ?rest2
            case run2 =>
              refine sw_pure (v := .string X) (fun W => rfl) rfl ?_
              simp only [nm0, nm1, nm2, nm3]
              refine sw_pure (v := .bool false) (fun W => run_bin_of rfl rfl rfl (by go_simp)) rfl ?_
              simp only [nm0, nm1, nm2, nm3]
              refine sw_pure (v := .bool false) (fun W => rfl) rfl ?_
              simp only [nm0, nm1, nm2, nm3]
              refine sw_pure (v := .string X) (fun W => rfl) rfl ?_
              simp only [nm0, nm1, nm2, nm3]
              refine sw_pure (v := .int .i64 (X.size : Int)) (fun W => by go_simp) rfl ?_
              simp only [nm0, nm1, nm2, nm3]
              refine sw_pure (v := .bool true) (fun W => run_bin_of rfl rfl rfl (by go_simp)) rfl ?_
              simp only [nm0, nm1, nm2, nm3]
              refine sw_pure (v := .bool true) (fun W => rfl) rfl ?_
              simp only [nm0, nm1, nm2, nm3]
              refine sw_pure (v := .bool true) (fun W => rfl) rfl ?_
              simp only [nm0, nm1, nm2, nm3]
              refine sw_skip rfl ?_
              simp only [nm0, nm1, nm2, nm3]
              refine sw_skip rfl ?_
              simp only [nm0, nm1, nm2, nm3]
              refine sw_skip rfl ?_
              simp only [nm0, nm1, nm2, nm3]
              refine sw_skip rfl ?_
              simp only [nm0, nm1, nm2, nm3]
              refine sw_pure (v := .bool true) (fun W => rfl) rfl ?_
              simp only [nm0, nm1, nm2, nm3]
              exact sw_nil ⟨rfl, rfl, rfl⟩
            case rest2 =>
              refine hK3 _ _ ?_
              refine wpIn_cond_true rfl ?_
              have w01 : IntKind.i64.wrap (1 : Int) = 1 := IntWalk.i64_in _ (by omega)
              refine wpIn_seq_k fun K6 hK6 => ?_
              refine wpIn_region_lit ?_
              refine wi_val (v := .pointer (some ⟨b5, 2, none⟩)) (fun _ => trivial) (by simp) (run_index_of rfl rfl rfl (ix_Ar3 b5 2 (by decide) _)) rfl ?_
              refine wi_val (v := .int .i64 0) (fun _ => trivial) (by simp) (run_load_cell rfl rfl (hI.get 1 rfl) rfl cellHI) rfl ?_
              refine wi_val (w' := V) (v := .int .i64 1) (fun _ => trivial) (by simp) (run_bin_of rfl rfl rfl (by go_simp)) rfl ?_
              refine wi_val (v := .pointer (some ⟨b5, 2, none⟩)) (fun _ => trivial) (by simp) (run_index_of rfl rfl rfl (ix_Ar3 b5 2 (by decide) _)) rfl ?_
              refine wi_skip (fun _ => trivial) (by simp) (run_store_off (off := 2) (cs' := #[.int .i64 (N0 : Int), .int .i64 (N1 : Int), .int .i64 1]) (hI.get 1 rfl) rfl rfl rfl (by show 2 < 3; decide) rfl cellHI rfl) rfl rfl ?_
              have hI2 := hI.set (cs := #[.int .i64 (N0 : Int), .int .i64 (N1 : Int), .int .i64 1]) 1 rfl
              have hMk2 := hMk.setRow (cs := #[.int .i64 (N0 : Int), .int .i64 (N1 : Int), .int .i64 1]) (hI.get 1 rfl)
              refine wpListIn_nil (hK6 _ _ ?_)
              refine wpIn_exit ?_
              exact ⟨setRow_keeps _ _ _ _ (by omega), rfl, ⟨pre, _, rfl, HG.out⟩, ⟨N0, N1, hI2⟩, hMk2⟩
          have q2 : ¬ (4 : Int) < (X.size : Int) := by omega
          have KJ : Calls Tryd.prog 65 #[.string X, fnHex] V fun e w' => e = .returned (.bool (x.all fun c => hex c.toNat)) ∧ V = w' := by
            have h := just_any X 67 #[] hex V (by omega) (enters_of Tryd.func67 (by kernel_rfl) rfl) (fun c hc => hexd_any c V)
            rw [← eX, show allG hex (⟨x.toArray⟩ : ByteArray) = x.all (fun c => hex c.toNat) from rfl, eX] at h
            exact h
          obtain ⟨hb, ehb⟩ : ∃ hb, (x.all fun c => hex c.toNat) = hb := ⟨_, rfl⟩
          rw [ehb] at KJ hgx
          cases hb with
          | false =>
            have HG := Lib.hid (show goodG x = false by rw [hgx]; simp)
            clear hzx hgx
            apply sw_at _ V (by kernel_rfl) ?run3 ?rest3
            case run3 =>
              refine sw_pure (v := .string X) (fun W => rfl) rfl ?_
              simp only [nm0, nm1, nm2, nm3]
              refine sw_pure (v := .bool false) (fun W => run_bin_of rfl rfl rfl (by go_simp)) rfl ?_
              simp only [nm0, nm1, nm2, nm3]
              refine sw_pure (v := .bool false) (fun W => rfl) rfl ?_
              simp only [nm0, nm1, nm2, nm3]
              refine sw_pure (v := .string X) (fun W => rfl) rfl ?_
              simp only [nm0, nm1, nm2, nm3]
              refine sw_pure (v := .int .i64 (X.size : Int)) (fun W => by go_simp) rfl ?_
              simp only [nm0, nm1, nm2, nm3]
              refine sw_pure (v := .bool false) (fun W => run_bin_of rfl rfl rfl (by go_simp)) rfl ?_
              simp only [nm0, nm1, nm2, nm3]
              refine sw_pure (v := .bool false) (fun W => rfl) rfl ?_
              simp only [nm0, nm1, nm2, nm3]
              refine sw_pure (v := .bool false) (fun W => rfl) rfl ?_
              simp only [nm0, nm1, nm2, nm3]
              refine sw_pure (v := .string X) (fun W => rfl) rfl ?_
              simp only [nm0, nm1, nm2, nm3]
              refine sw_val (v := fnHex) (run_load_cell rfl rfl v3 rfl cellF) rfl ?_
              simp only [nm0, nm1, nm2, nm3]
              refine sw_callS (args := #[.string X, fnHex]) (v := .bool false) (fun W => run_call_fn W (enters_of Tryd.func65 (by kernel_rfl) rfl) rfl (by simp [Act.eval])) KJ rfl ?_
              simp only [nm0, nm1, nm2, nm3]
              refine sw_pure (v := .bool true) (fun W => by go_simp) rfl ?_
              simp only [nm0, nm1, nm2, nm3]
              refine sw_pure (v := .bool true) (fun W => rfl) rfl ?_
              simp only [nm0, nm1, nm2, nm3]
              exact sw_nil ⟨rfl, rfl, rfl⟩
            case rest3 =>
              refine hK3 _ _ ?_
              refine wpIn_cond_true rfl ?_
              have w01 : IntKind.i64.wrap (1 : Int) = 1 := IntWalk.i64_in _ (by omega)
              refine wpIn_seq_k fun K6 hK6 => ?_
              refine wpIn_region_lit ?_
              refine wi_val (v := .pointer (some ⟨b5, 2, none⟩)) (fun _ => trivial) (by simp) (run_index_of rfl rfl rfl (ix_Ar3 b5 2 (by decide) _)) rfl ?_
              refine wi_val (v := .int .i64 0) (fun _ => trivial) (by simp) (run_load_cell rfl rfl (hI.get 1 rfl) rfl cellHI) rfl ?_
              refine wi_val (w' := V) (v := .int .i64 1) (fun _ => trivial) (by simp) (run_bin_of rfl rfl rfl (by go_simp)) rfl ?_
              refine wi_val (v := .pointer (some ⟨b5, 2, none⟩)) (fun _ => trivial) (by simp) (run_index_of rfl rfl rfl (ix_Ar3 b5 2 (by decide) _)) rfl ?_
              refine wi_skip (fun _ => trivial) (by simp) (run_store_off (off := 2) (cs' := #[.int .i64 (N0 : Int), .int .i64 (N1 : Int), .int .i64 1]) (hI.get 1 rfl) rfl rfl rfl (by show 2 < 3; decide) rfl cellHI rfl) rfl rfl ?_
              have hI2 := hI.set (cs := #[.int .i64 (N0 : Int), .int .i64 (N1 : Int), .int .i64 1]) 1 rfl
              have hMk2 := hMk.setRow (cs := #[.int .i64 (N0 : Int), .int .i64 (N1 : Int), .int .i64 1]) (hI.get 1 rfl)
              refine wpListIn_nil (hK6 _ _ ?_)
              refine wpIn_exit ?_
              exact ⟨setRow_keeps _ _ _ _ (by omega), rfl, ⟨pre, _, rfl, HG.out⟩, ⟨N0, N1, hI2⟩, hMk2⟩
          | true =>
            have HG := Lib.hid (show goodG x = true by rw [hgx, decide_eq_true (show x.length ≤ 4 by omega)]; rfl)
            clear hzx hgx
            apply sw_at _ V (by kernel_rfl) ?run0 ?rest0
            case run0 =>
              refine sw_pure (v := .string X) (fun W => rfl) rfl ?_
              simp only [nm0, nm1, nm2, nm3]
              refine sw_pure (v := .bool false) (fun W => run_bin_of rfl rfl rfl (by go_simp)) rfl ?_
              simp only [nm0, nm1, nm2, nm3]
              refine sw_pure (v := .bool false) (fun W => rfl) rfl ?_
              simp only [nm0, nm1, nm2, nm3]
              refine sw_pure (v := .string X) (fun W => rfl) rfl ?_
              simp only [nm0, nm1, nm2, nm3]
              refine sw_pure (v := .int .i64 (X.size : Int)) (fun W => by go_simp) rfl ?_
              simp only [nm0, nm1, nm2, nm3]
              refine sw_pure (v := .bool false) (fun W => run_bin_of rfl rfl rfl (by go_simp)) rfl ?_
              simp only [nm0, nm1, nm2, nm3]
              refine sw_pure (v := .bool false) (fun W => rfl) rfl ?_
              simp only [nm0, nm1, nm2, nm3]
              refine sw_pure (v := .bool false) (fun W => rfl) rfl ?_
              simp only [nm0, nm1, nm2, nm3]
              refine sw_pure (v := .string X) (fun W => rfl) rfl ?_
              simp only [nm0, nm1, nm2, nm3]
              refine sw_val (v := fnHex) (run_load_cell rfl rfl v3 rfl cellF) rfl ?_
              simp only [nm0, nm1, nm2, nm3]
              refine sw_callS (args := #[.string X, fnHex]) (v := .bool true) (fun W => run_call_fn W (enters_of Tryd.func65 (by kernel_rfl) rfl) rfl (by simp [Act.eval])) KJ rfl ?_
              simp only [nm0, nm1, nm2, nm3]
              refine sw_pure (v := .bool false) (fun W => by go_simp) rfl ?_
              simp only [nm0, nm1, nm2, nm3]
              refine sw_pure (v := .bool false) (fun W => rfl) rfl ?_
              simp only [nm0, nm1, nm2, nm3]
              exact sw_nil ⟨rfl, rfl, rfl⟩
            case rest0 =>
              refine hK3 _ _ ?_
              refine wpIn_cond_false rfl ?_
              refine wpIn_skip ?_
              refine hK2 _ _ ?_
              clear KJ q2 hne
              obtain ⟨j, hj⟩ : ∃ j, pre.length = j := ⟨_, rfl⟩
              have hlen2 : (pre ++ [x]).length = j + 1 := by simp [hj]
              have w2 : IntKind.i64.wrap ((j : Int) + 1) = ((j + 1 : Nat) : Int) := by rw [show ((j + 1 : Nat) : Int) = (j : Int) + 1 by omega]; exact IntWalk.i64_in _ (by omega)
              have hgo2 : ∀ y ∈ pre ++ [x], goodG y = true := fun y hy => by
                rcases List.mem_append.1 hy with h | h
                · exact hgo y h
                · rw [List.mem_singleton.1 h]; exact HG.out
              rw [hj] at eN0
              rw [eN0] at hI
              refine wpIn_region_lit ?_
              refine wi_val (v := .int .i64 0) (fun _ => trivial) (by simp) (run_load_cell rfl rfl (hI.get 0 rfl) rfl cellHI) rfl ?_
              refine wi_val (v := .pointer (some ⟨b5, 0, none⟩)) (fun _ => trivial) (by simp) (run_index_of rfl rfl rfl (ix_Ar3 b5 0 (by decide) _)) rfl ?_
              refine wi_val (v := .int .i64 (j : Int)) (fun _ => trivial) (by simp) (run_load_cell rfl rfl (hI.get 1 rfl) rfl cellHI) rfl ?_
              refine wi_val (w' := V) (v := .int .i64 ((j + 1 : Nat) : Int)) (fun _ => trivial) (by simp) (run_bin_of rfl rfl rfl (by go_simp)) rfl ?_
              refine wi_val (v := .pointer (some ⟨b5, 0, none⟩)) (fun _ => trivial) (by simp) (run_index_of rfl rfl rfl (ix_Ar3 b5 0 (by decide) _)) rfl ?_
              refine wi_skip (fun _ => trivial) (by simp) (run_store_off (off := 0) (cs' := #[.int .i64 ((j + 1 : Nat) : Int), .int .i64 (N1 : Int), .int .i64 ((0 : Nat) : Int)]) (hI.get 1 rfl) rfl rfl rfl (by show 0 < 3; decide) rfl cellHI rfl) rfl rfl ?_
              have hI1 := hI.set (cs := #[.int .i64 ((j + 1 : Nat) : Int), .int .i64 (N1 : Int), .int .i64 ((0 : Nat) : Int)]) 1 rfl
              have hMk1 := hMk.setRow (cs := #[.int .i64 ((j + 1 : Nat) : Int), .int .i64 (N1 : Int), .int .i64 ((0 : Nat) : Int)]) (hI.get 1 rfl)
              refine wpListIn_nil ?_
              refine ⟨setRow_keeps _ _ _ _ (by omega), ⟨by simp, fun k ob hk hf => ⟨by rw [setRow_other _ _ _ _ hf.1]; exact hk, hf⟩⟩, hgo2, ?_, hMk1, ?_⟩
              · rw [hlen2]
                rw [eN1] at hI1 ⊢
                exact hI1
              · rw [setRow_other _ _ _ _ (by have := (Array.getElem?_eq_some_iff.1 hcV).1; intro e; rw [e, hI.get 1 rfl] at hcV; exact absurd (Obj.cells.inj (Option.some.inj hcV)).2.1 (by decide))]
                exact hcV
        case done =>
          rintro D' V hD' ⟨hgo, hV, hMkV, hcV⟩ hKd
          rw [hD] at hD'
          go_wp2_with fail
          refine ⟨D' :: Ds, _, _, _, _, _, _, _, _, _, _, _, _, _, _, _, _, _, _, _, _, _, _, _, _, _, _, _, _, _, _, _, _, _, _, _, rfl, hMkV.cons (fun d hd => by have := hdl d hd; omega) (by omega) hKd, ?_, hcV, ?_⟩
          · have := hV.tail
            rw [cN_at (k := 0) HP.out 0, cN_at (k := 0) HP.out 1]
            rw [if_pos rfl, if_neg (by decide), HGP.out]
            exact this
          · rw [flat_at HP.out, hall, HGP.out, List.all_eq_true.2 hgo]
            rfl
        case stop =>
          rw [hD]
          rintro D' c pre x V hD' hx ⟨rfl, ⟨pre2, y, e2, hy⟩, ⟨m0, m1, hMa⟩, hMkV⟩ hKd
          have hym : y ∈ prt 58 [] P := hx.subset (by rw [e2]; simp)
          have hBAD : (L.flatMap grp).all goodG = false := by
            cases h : (L.flatMap grp).all goodG with
            | false => rfl
            | true =>
              have := List.all_eq_true.1 h y (List.mem_flatMap.2 ⟨P, List.mem_of_getElem? HP.out, by rw [HGP.out]; exact hym⟩)
              rw [hy] at this
              cases this
          refine wpIn_exit ?_
          obtain ⟨z, hz⟩ : ∃ z, IntKind.i64.wrap ((m0 : Int) + (m1 : Int)) = z := ⟨_, rfl⟩
          have HF := Lib.hid (show bracB l = false by rw [HBR.out, hBAD]; simp)
          go_upto_region 18 with fail
          refine sw_lit ?_
          refine sw_pure (v := .pointer (some ⟨b5, 0, none⟩)) (fun W => run_index_of rfl rfl rfl (ix_Ar3 b5 0 (by decide) _)) rfl ?_
          simp only [nm0, nm1, nm2, nm3]
          refine sw_val (v := .int .i64 (m0 : Int)) (run_load_cell rfl rfl (hMa.get 1 rfl) rfl cellHI) rfl ?_
          simp only [nm0, nm1, nm2, nm3]
          refine sw_pure (v := .pointer (some ⟨b5, 1, none⟩)) (fun W => run_index_of rfl rfl rfl (ix_Ar3 b5 1 (by decide) _)) rfl ?_
          simp only [nm0, nm1, nm2, nm3]
          refine sw_val (v := .int .i64 (m1 : Int)) (run_load_cell rfl rfl (hMa.get 1 rfl) rfl cellHI) rfl ?_
          simp only [nm0, nm1, nm2, nm3]
          refine sw_pure (v := .int .i64 z) (fun W => run_bin_of rfl rfl rfl (by go_simp)) rfl ?_
          simp only [nm0, nm1, nm2, nm3]
          refine sw_pure (v := .int .i64 z) (fun W => rfl) rfl ?_
          simp only [nm0, nm1, nm2, nm3]
          refine sw_nil ?_
          go_upto_region 19 with fail
          refine sw_lit ?_
          refine sw_pure (v := .pointer (some ⟨b5, 2, none⟩)) (fun W => run_index_of rfl rfl rfl (ix_Ar3 b5 2 (by decide) _)) rfl ?_
          simp only [nm0, nm1, nm2, nm3]
          refine sw_val (v := .int .i64 1) (run_load_cell rfl rfl (hMa.get 1 rfl) rfl cellHI) rfl ?_
          simp only [nm0, nm1, nm2, nm3]
          refine sw_pure (v := .bool false) (fun W => run_bin_of rfl rfl rfl (by go_simp)) rfl ?_
          simp only [nm0, nm1, nm2, nm3]
          refine sw_pure (v := .bool false) (fun W => rfl) rfl ?_
          simp only [nm0, nm1, nm2, nm3]
          refine sw_skip rfl ?_
          simp only [nm0, nm1, nm2, nm3]
          refine sw_skip rfl ?_
          simp only [nm0, nm1, nm2, nm3]
          refine sw_skip rfl ?_
          simp only [nm0, nm1, nm2, nm3]
          refine sw_skip rfl ?_
          simp only [nm0, nm1, nm2, nm3]
          refine sw_skip rfl ?_
          simp only [nm0, nm1, nm2, nm3]
          refine sw_skip rfl ?_
          simp only [nm0, nm1, nm2, nm3]
          refine sw_skip rfl ?_
          simp only [nm0, nm1, nm2, nm3]
          refine sw_skip rfl ?_
          simp only [nm0, nm1, nm2, nm3]
          refine sw_skip rfl ?_
          simp only [nm0, nm1, nm2, nm3]
          refine sw_skip rfl ?_
          simp only [nm0, nm1, nm2, nm3]
          refine sw_skip rfl ?_
          simp only [nm0, nm1, nm2, nm3]
          refine sw_skip rfl ?_
          simp only [nm0, nm1, nm2, nm3]
          refine sw_skip rfl ?_
          simp only [nm0, nm1, nm2, nm3]
          refine sw_skip rfl ?_
          simp only [nm0, nm1, nm2, nm3]
          refine sw_skip rfl ?_
          simp only [nm0, nm1, nm2, nm3]
          refine sw_skip rfl ?_
          simp only [nm0, nm1, nm2, nm3]
          refine sw_pure (v := .bool false) (fun W => rfl) rfl ?_
          simp only [nm0, nm1, nm2, nm3]
          refine sw_pure (v := .bool false) (fun W => rfl) rfl ?_
          simp only [nm0, nm1, nm2, nm3]
          refine sw_nil ?_
          go_wp2_with fail
          exact leaves_marks (w0 := w) (s := 2) rfl rfl (fun W hb => ⟨ret_bool HF.out.symm, hb⟩) (D' :: Ds) _ (hMkV.cons (fun d hd => by have := hdl d hd; omega) (by omega) hKd) hMa.below

      · obtain ⟨D, hD⟩ : ∃ D, W7.heap.size = D := ⟨_, rfl⟩
        have l6 := hM6.lt (List.mem_of_getElem? (i := 0) rfl)
        have l5 := hM6.lt (List.mem_of_getElem? (i := 1) rfl)
        have l3 := hM6.lt (List.mem_of_getElem? (i := 2) rfl)
        have uBs := hN7.lt (List.mem_of_getElem? (i := 2) rfl)
        have uB2 := hN7.lt (List.mem_of_getElem? (i := 0) rfl)
        simp only at l6 l5 l3 uBs uB2
        rw [hD] at uBs uB2
        rw [hBs] at l6 l5 l3
        have hz6 := hM6.below.size
        rw [hBs] at hz6
        have hdl : ∀ d ∈ Ds, d < Bs := fun d hd => by rw [← hBs]; exact hMk6.lt hd
        have hM7 := hM6.calls hN7.below
        have hMk7 := hMk6.calls hN7.below
        have hwD : w.heap.size ≤ D := by omega
        have hgB : g < Bs := by rw [← hBs]; exact (Array.getElem?_eq_some_iff.1 hcur6).1
        have hcur7 := (hN7.below.block g (by rw [hBs]; exact hgB)).trans hcur6
        have hMc : ∀ j, ∀ p ∈ ([(b6, .cells #[.int .i64 1] 3 (0, 0)), bArr b5 (cN L 0 1) j 0, (b3, .cells #[fnHex] FnT (0, 0))] : List Blk), p.2.isCells = true := fun j p hp => by
          simp only [List.mem_cons, List.not_mem_nil, or_false] at hp
          rcases hp with rfl | rfl | rfl <;> rfl
        have hMcb : ∀ x0 x1, ∀ p ∈ ([(b6, .cells #[.int .i64 1] 3 (0, 0)), bArr b5 x0 x1 1, (b3, .cells #[fnHex] FnT (0, 0))] : List Blk), p.2.isCells = true := fun x0 x1 p hp => by
          simp only [List.mem_cons, List.not_mem_nil, or_false] at hp
          rcases hp with rfl | rfl | rfl <;> rfl
        have hMl : ∀ j, ∀ p ∈ ([(b6, .cells #[.int .i64 1] 3 (0, 0)), bArr b5 (cN L 0 1) j 0, (b3, .cells #[fnHex] FnT (0, 0))] : List Blk), p.1 < Bs := fun j p hp => by
          simp only [List.mem_cons, List.not_mem_nil, or_false] at hp
          rcases hp with rfl | rfl | rfl <;> assumption
        have hBs7 := hN7.get 2 rfl
        rw [← HPX.out] at hBs7
        refine wpIn_range_z rfl (by omega) (gf := 98) (lb := #[.pointer (some ⟨Bs + 1, 0, none⟩), .pointer (some ⟨Bs, 0, none⟩), .pointer (some ⟨Bs + 2, 0, none⟩)]) rfl trivial (enters_of Tryd.func98 (by kernel_rfl) rfl)
          (split1_x (3 - 1) (by omega) 58 P (by omega) Bs (Bs + 1) (Bs + 2) (fun k => k ≠ b5 ∧ k ≠ D + 1) W7 hBs7 (hN7.get 1 rfl) (hN7.get 0 rfl) ⟨by omega, by omega⟩ ⟨by omega, by omega⟩ ⟨by omega, by omega⟩ (by omega) (by omega)) (by omega) kpF_t ?hkb (Below.refl _ _) (fun _ => rfl)
          (fun pre V => (∀ y ∈ pre, goodG y = true) ∧ Mem w [(b6, .cells #[.int .i64 1] 3 (0, 0)), bArr b5 (cN L 0 1) pre.length 0, (b3, .cells #[fnHex] FnT (0, 0))] V ∧ Marks w.heap.size Ds V ∧ V.heap[g]? = some (.cells cur StT (0, 0)))
          (fun cd xs V => cd = .exit 0 ∧ (∃ pre x, xs = pre ++ [x] ∧ goodG x = false) ∧ (∃ x0 x1 : Nat, Mem w [(b6, .cells #[.int .i64 1] 3 (0, 0)), bArr b5 x0 x1 1, (b3, .cells #[fnHex] FnT (0, 0))] V) ∧ Marks w.heap.size Ds V)
          ?hI ?hIx ?hInv ?h0 ?hIs
          (fun x a' V => a' = { tmps := #[Value.string S, undef, Value.bool false, Value.pointer (some ⟨b3, 0, none⟩), Value.slice (some ⟨g, 0, none⟩) n n, Value.pointer (some ⟨b5, 0, none⟩), Value.pointer (some ⟨b6, 0, none⟩), Value.string PX, Value.string ⟨x.toArray⟩, undef, Value.string S, Value.int .i64 (S.size : Int), Value.bool false, Value.bool false, Value.string S, Value.int .u8 (d0.toNat : Int), Value.bool false, Value.bool false, Value.bool false, Value.string S, Value.string S, Value.int .i64 (S.size : Int), Value.int .i64 ((S.size - 1 : Nat) : Int), Value.int .u8 (d1.toNat : Int), Value.bool false, Value.bool false, Value.string S, Value.string S, Value.int .i64 (S.size : Int), Value.int .i64 ((S.size - 1 : Nat) : Int), Value.string T, Value.slice (some ⟨g, 0, none⟩) n n, Value.slice (some ⟨g, 0, none⟩) n n, Value.int .i64 (n : Int), Value.bool false, Value.slice (some ⟨g, 0, none⟩) n n, Value.int .i64 (n : Int), Value.int .i64 1, Value.bool true, Value.int .i64 1, Value.pointer (some ⟨g, 1, none⟩), Value.string PX, Value.string PX, Value.bool false, Value.string PX, Value.func (.func 98) #[] #[.pointer (some ⟨Bs + 1, 0, none⟩), .pointer (some ⟨Bs, 0, none⟩), .pointer (some ⟨Bs + 2, 0, none⟩)], Value.string ⟨x.toArray⟩, u47, u48, u49, u50, u51, u52, u53, u54, u55, u56, u57, u58, u59, u60, u61, u62, u63, u64, u65, u66, u67, u68, u69, undef, undef, undef, undef, undef, undef, undef, undef, undef, undef, undef, undef, undef, undef, undef, undef, undef, undef, undef, undef, undef, undef, undef, undef, undef, undef], defers := [] }) ?hAx ?assign ?body ?done ?stop
        case hkb =>
          rw [hD]
          intro V r r' h
          exact ⟨by simp [World.putObj], fun k ob hk hf => ⟨(World.putObj_heap_other hf.2).trans hk, hf⟩⟩
        case hI =>
          rw [hD]
          rintro pre A B row ⟨h1, hm, hk, hc⟩ hg hr
          exact ⟨h1, mem_own hm (hMc _) hwD hg hr, hk.own (fun d hd => Nat.lt_trans (hdl d hd) uBs) hg hr, cells_own hc hg fun r e => (hr r e).2⟩
        case hIx =>
          rw [hD]
          rintro cd xs A B row ⟨h1, h2, ⟨x0, x1, hm⟩, hk⟩ hg hr
          exact ⟨h1, h2, ⟨x0, x1, mem_own hm (hMcb _ _) hwD hg hr⟩, hk.own (fun d hd => Nat.lt_trans (hdl d hd) uBs) hg hr⟩
        case hInv =>
          intro pre V hm hz
          trivial
        case h0 => exact ⟨fun y hy => (by cases hy), hM7, hMk7, hcur7⟩
        case hIs =>
          rintro pre V v ⟨h1, hm, hk, hc⟩
          refine ⟨h1, mem_setother hm hz6 fun p hp => by (have := hMl _ p hp; omega), ⟨hk.ne, hk.lo, fun d hd => ?_⟩, ?_⟩
          · rw [setRow_other _ _ _ _ (by have := hdl d hd; omega)]
            exact hk.at_ d hd
          · rw [setRow_other _ _ _ _ (by omega)]
            exact hc
        case hAx =>
          rw [hD]
          rintro x a' u A B row h1 hg hr
          exact h1
        case assign =>
          intro l2 pre x V K hI hx hgo
          rw [hD] at hgo
          refine wpIn_fr (t' := #[Value.string S, undef, Value.bool false, Value.pointer (some ⟨b3, 0, none⟩), Value.slice (some ⟨g, 0, none⟩) n n, Value.pointer (some ⟨b5, 0, none⟩), Value.pointer (some ⟨b6, 0, none⟩), Value.string PX, u8, undef, Value.string S, Value.int .i64 (S.size : Int), Value.bool false, Value.bool false, Value.string S, Value.int .u8 (d0.toNat : Int), Value.bool false, Value.bool false, Value.bool false, Value.string S, Value.string S, Value.int .i64 (S.size : Int), Value.int .i64 ((S.size - 1 : Nat) : Int), Value.int .u8 (d1.toNat : Int), Value.bool false, Value.bool false, Value.string S, Value.string S, Value.int .i64 (S.size : Int), Value.int .i64 ((S.size - 1 : Nat) : Int), Value.string T, Value.slice (some ⟨g, 0, none⟩) n n, Value.slice (some ⟨g, 0, none⟩) n n, Value.int .i64 (n : Int), Value.bool false, Value.slice (some ⟨g, 0, none⟩) n n, Value.int .i64 (n : Int), Value.int .i64 1, Value.bool true, Value.int .i64 1, Value.pointer (some ⟨g, 1, none⟩), Value.string PX, Value.string PX, Value.bool false, Value.string PX, Value.func (.func 98) #[] #[.pointer (some ⟨Bs + 1, 0, none⟩), .pointer (some ⟨Bs, 0, none⟩), .pointer (some ⟨Bs + 2, 0, none⟩)], Value.string ⟨x.toArray⟩, u47, u48, u49, u50, u51, u52, u53, u54, u55, u56, u57, u58, u59, u60, u61, u62, u63, u64, u65, u66, u67, u68, u69, undef, undef, undef, undef, undef, undef, undef, undef, undef, undef, undef, undef, undef, undef, undef, undef, undef, undef, undef, undef, undef, undef, undef, undef, undef, undef]) (by simp) ?_
          refine wpIn_region_lit ?_
          refine wi_val (v := .string ⟨x.toArray⟩) (fun _ => trivial) (by simp) rfl rfl ?_
          refine wpListIn_nil ?_
          exact hgo _ _ (below_keeps (Below.refl _ _) _) ⟨Nat.le_refl _, fun k ob hk hf => ⟨hk, hf⟩⟩ hI rfl
        case body =>
          rw [hD]
          rintro l2 pre x a' V hl1 hloop ⟨hgo, hI, hMk, hcV⟩ rfl hx
          have hxm : x ∈ prt 58 [] P := hx.subset (by simp)
          have hxl := prt_mem 58 P [] x hxm
          simp only [List.length_nil, Nat.zero_add] at hxl
          have hpl : pre.length ≤ 1001 := by
            have h1 := prt_len 58 P []
            have := hx.length_le
            simp only [List.length_append, List.length_cons, List.length_nil] at this
            omega
          have v3 := hI.get 2 rfl
          obtain ⟨N0, eN0⟩ : ∃ N0 : Nat, N0 = cN L 0 1 := ⟨_, rfl⟩
          obtain ⟨N1, eN1⟩ : ∃ N1 : Nat, N1 = pre.length := ⟨_, rfl⟩
          have hI0 := hI
          have hI : Mem w [(b6, .cells #[.int .i64 1] 3 (0, 0)), bArr b5 N0 N1 0, (b3, .cells #[fnHex] FnT (0, 0))] V := by rw [eN0, eN1]; exact hI0
          clear hI0
          refine wpIn_block ?_
          refine wpIn_seq_k fun K2 hK2 => ?_
          refine wpIn_seq_k fun K3 hK3 => ?_
          by_cases c1 : x = []
          · subst c1
            have HG := Lib.hid (show goodG [] = false from rfl)
            apply sw_at _ V (by kernel_rfl) ?run1 ?rest1
            case run1 =>
              refine sw_pure (v := .string ⟨#[]⟩) (fun W => rfl) rfl ?_
              simp only [nm0, nm1, nm2, nm3]
              refine sw_pure (v := .bool true) (fun W => run_bin_of rfl rfl rfl (by go_simp)) rfl ?_
              simp only [nm0, nm1, nm2, nm3]
              refine sw_pure (v := .bool true) (fun W => rfl) rfl ?_
              simp only [nm0, nm1, nm2, nm3]
              refine sw_skip rfl ?_
              simp only [nm0, nm1, nm2, nm3]
              refine sw_skip rfl ?_
              simp only [nm0, nm1, nm2, nm3]
              refine sw_skip rfl ?_
              simp only [nm0, nm1, nm2, nm3]
              refine sw_pure (v := .bool true) (fun W => rfl) rfl ?_
              simp only [nm0, nm1, nm2, nm3]
              refine sw_pure (v := .bool true) (fun W => rfl) rfl ?_
              simp only [nm0, nm1, nm2, nm3]
              refine sw_skip rfl ?_
              simp only [nm0, nm1, nm2, nm3]
              refine sw_skip rfl ?_
              simp only [nm0, nm1, nm2, nm3]
              refine sw_skip rfl ?_
              simp only [nm0, nm1, nm2, nm3]
              refine sw_skip rfl ?_
              simp only [nm0, nm1, nm2, nm3]
              refine sw_pure (v := .bool true) (fun W => rfl) rfl ?_
              simp only [nm0, nm1, nm2, nm3]
              exact sw_nil ⟨rfl, rfl, rfl⟩
            case rest1 =>
              refine hK3 _ _ ?_
              refine wpIn_cond_true rfl ?_
              have w01 : IntKind.i64.wrap (1 : Int) = 1 := IntWalk.i64_in _ (by omega)
              refine wpIn_seq_k fun K6 hK6 => ?_
              refine wpIn_region_lit ?_
              refine wi_val (v := .pointer (some ⟨b5, 2, none⟩)) (fun _ => trivial) (by simp) (run_index_of rfl rfl rfl (ix_Ar3 b5 2 (by decide) _)) rfl ?_
              refine wi_val (v := .int .i64 0) (fun _ => trivial) (by simp) (run_load_cell rfl rfl (hI.get 1 rfl) rfl cellHI) rfl ?_
              refine wi_val (w' := V) (v := .int .i64 1) (fun _ => trivial) (by simp) (run_bin_of rfl rfl rfl (by go_simp)) rfl ?_
              refine wi_val (v := .pointer (some ⟨b5, 2, none⟩)) (fun _ => trivial) (by simp) (run_index_of rfl rfl rfl (ix_Ar3 b5 2 (by decide) _)) rfl ?_
              refine wi_skip (fun _ => trivial) (by simp) (run_store_off (off := 2) (cs' := #[.int .i64 (N0 : Int), .int .i64 (N1 : Int), .int .i64 1]) (hI.get 1 rfl) rfl rfl rfl (by show 2 < 3; decide) rfl cellHI rfl) rfl rfl ?_
              have hI2 := hI.set (cs := #[.int .i64 (N0 : Int), .int .i64 (N1 : Int), .int .i64 1]) 1 rfl
              have hMk2 := hMk.setRow (cs := #[.int .i64 (N0 : Int), .int .i64 (N1 : Int), .int .i64 1]) (hI.get 1 rfl)
              refine wpListIn_nil (hK6 _ _ ?_)
              refine wpIn_exit ?_
              exact ⟨setRow_keeps _ _ _ _ (by omega), rfl, ⟨pre, _, rfl, HG.out⟩, ⟨N0, N1, hI2⟩, hMk2⟩
          have hne := txt_ne x c1
          have hzx := ba_size x
          have hgx := fine_hex x c1
          obtain ⟨X, eX⟩ : ∃ X : ByteArray, (⟨x.toArray⟩ : ByteArray) = X := ⟨_, rfl⟩
          rw [eX] at hne hzx ⊢
          by_cases c2 : 4 < x.length
          · have q2 : (4 : Int) < (X.size : Int) := by omega
            have HG := Lib.hid (show goodG x = false by rw [hgx, decide_eq_false (show ¬ x.length ≤ 4 by omega)]; rfl)
            clear hzx hgx
            apply sw_at _ V (by kernel_rfl) ?run2 ?rest2
            case run2 =>
              refine sw_pure (v := .string X) (fun W => rfl) rfl ?_
              simp only [nm0, nm1, nm2, nm3]
              refine sw_pure (v := .bool false) (fun W => run_bin_of rfl rfl rfl (by go_simp)) rfl ?_
              simp only [nm0, nm1, nm2, nm3]
              refine sw_pure (v := .bool false) (fun W => rfl) rfl ?_
              simp only [nm0, nm1, nm2, nm3]
              refine sw_pure (v := .string X) (fun W => rfl) rfl ?_
              simp only [nm0, nm1, nm2, nm3]
              refine sw_pure (v := .int .i64 (X.size : Int)) (fun W => by go_simp) rfl ?_
              simp only [nm0, nm1, nm2, nm3]
              refine sw_pure (v := .bool true) (fun W => run_bin_of rfl rfl rfl (by go_simp)) rfl ?_
              simp only [nm0, nm1, nm2, nm3]
              refine sw_pure (v := .bool true) (fun W => rfl) rfl ?_
              simp only [nm0, nm1, nm2, nm3]
              refine sw_pure (v := .bool true) (fun W => rfl) rfl ?_
              simp only [nm0, nm1, nm2, nm3]
              refine sw_skip rfl ?_
              simp only [nm0, nm1, nm2, nm3]
              refine sw_skip rfl ?_
              simp only [nm0, nm1, nm2, nm3]
              refine sw_skip rfl ?_
              simp only [nm0, nm1, nm2, nm3]
              refine sw_skip rfl ?_
              simp only [nm0, nm1, nm2, nm3]
              refine sw_pure (v := .bool true) (fun W => rfl) rfl ?_
              simp only [nm0, nm1, nm2, nm3]
              exact sw_nil ⟨rfl, rfl, rfl⟩
            case rest2 =>
              refine hK3 _ _ ?_
              refine wpIn_cond_true rfl ?_
              have w01 : IntKind.i64.wrap (1 : Int) = 1 := IntWalk.i64_in _ (by omega)
              refine wpIn_seq_k fun K6 hK6 => ?_
              refine wpIn_region_lit ?_
              refine wi_val (v := .pointer (some ⟨b5, 2, none⟩)) (fun _ => trivial) (by simp) (run_index_of rfl rfl rfl (ix_Ar3 b5 2 (by decide) _)) rfl ?_
              refine wi_val (v := .int .i64 0) (fun _ => trivial) (by simp) (run_load_cell rfl rfl (hI.get 1 rfl) rfl cellHI) rfl ?_
              refine wi_val (w' := V) (v := .int .i64 1) (fun _ => trivial) (by simp) (run_bin_of rfl rfl rfl (by go_simp)) rfl ?_
              refine wi_val (v := .pointer (some ⟨b5, 2, none⟩)) (fun _ => trivial) (by simp) (run_index_of rfl rfl rfl (ix_Ar3 b5 2 (by decide) _)) rfl ?_
              refine wi_skip (fun _ => trivial) (by simp) (run_store_off (off := 2) (cs' := #[.int .i64 (N0 : Int), .int .i64 (N1 : Int), .int .i64 1]) (hI.get 1 rfl) rfl rfl rfl (by show 2 < 3; decide) rfl cellHI rfl) rfl rfl ?_
              have hI2 := hI.set (cs := #[.int .i64 (N0 : Int), .int .i64 (N1 : Int), .int .i64 1]) 1 rfl
              have hMk2 := hMk.setRow (cs := #[.int .i64 (N0 : Int), .int .i64 (N1 : Int), .int .i64 1]) (hI.get 1 rfl)
              refine wpListIn_nil (hK6 _ _ ?_)
              refine wpIn_exit ?_
              exact ⟨setRow_keeps _ _ _ _ (by omega), rfl, ⟨pre, _, rfl, HG.out⟩, ⟨N0, N1, hI2⟩, hMk2⟩
          have q2 : ¬ (4 : Int) < (X.size : Int) := by omega
          have KJ : Calls Tryd.prog 65 #[.string X, fnHex] V fun e w' => e = .returned (.bool (x.all fun c => hex c.toNat)) ∧ V = w' := by
            have h := just_any X 67 #[] hex V (by omega) (enters_of Tryd.func67 (by kernel_rfl) rfl) (fun c hc => hexd_any c V)
            rw [← eX, show allG hex (⟨x.toArray⟩ : ByteArray) = x.all (fun c => hex c.toNat) from rfl, eX] at h
            exact h
          obtain ⟨hb, ehb⟩ : ∃ hb, (x.all fun c => hex c.toNat) = hb := ⟨_, rfl⟩
          rw [ehb] at KJ hgx
          cases hb with
          | false =>
            have HG := Lib.hid (show goodG x = false by rw [hgx]; simp)
            clear hzx hgx
            apply sw_at _ V (by kernel_rfl) ?run3 ?rest3
            case run3 =>
              refine sw_pure (v := .string X) (fun W => rfl) rfl ?_
              simp only [nm0, nm1, nm2, nm3]
              refine sw_pure (v := .bool false) (fun W => run_bin_of rfl rfl rfl (by go_simp)) rfl ?_
              simp only [nm0, nm1, nm2, nm3]
              refine sw_pure (v := .bool false) (fun W => rfl) rfl ?_
              simp only [nm0, nm1, nm2, nm3]
              refine sw_pure (v := .string X) (fun W => rfl) rfl ?_
              simp only [nm0, nm1, nm2, nm3]
              refine sw_pure (v := .int .i64 (X.size : Int)) (fun W => by go_simp) rfl ?_
              simp only [nm0, nm1, nm2, nm3]
              refine sw_pure (v := .bool false) (fun W => run_bin_of rfl rfl rfl (by go_simp)) rfl ?_
              simp only [nm0, nm1, nm2, nm3]
              refine sw_pure (v := .bool false) (fun W => rfl) rfl ?_
              simp only [nm0, nm1, nm2, nm3]
              refine sw_pure (v := .bool false) (fun W => rfl) rfl ?_
              simp only [nm0, nm1, nm2, nm3]
              refine sw_pure (v := .string X) (fun W => rfl) rfl ?_
              simp only [nm0, nm1, nm2, nm3]
              refine sw_val (v := fnHex) (run_load_cell rfl rfl v3 rfl cellF) rfl ?_
              simp only [nm0, nm1, nm2, nm3]
              refine sw_callS (args := #[.string X, fnHex]) (v := .bool false) (fun W => run_call_fn W (enters_of Tryd.func65 (by kernel_rfl) rfl) rfl (by simp [Act.eval])) KJ rfl ?_
              simp only [nm0, nm1, nm2, nm3]
              refine sw_pure (v := .bool true) (fun W => by go_simp) rfl ?_
              simp only [nm0, nm1, nm2, nm3]
              refine sw_pure (v := .bool true) (fun W => rfl) rfl ?_
              simp only [nm0, nm1, nm2, nm3]
              exact sw_nil ⟨rfl, rfl, rfl⟩
            case rest3 =>
              refine hK3 _ _ ?_
              refine wpIn_cond_true rfl ?_
              have w01 : IntKind.i64.wrap (1 : Int) = 1 := IntWalk.i64_in _ (by omega)
              refine wpIn_seq_k fun K6 hK6 => ?_
              refine wpIn_region_lit ?_
              refine wi_val (v := .pointer (some ⟨b5, 2, none⟩)) (fun _ => trivial) (by simp) (run_index_of rfl rfl rfl (ix_Ar3 b5 2 (by decide) _)) rfl ?_
              refine wi_val (v := .int .i64 0) (fun _ => trivial) (by simp) (run_load_cell rfl rfl (hI.get 1 rfl) rfl cellHI) rfl ?_
              refine wi_val (w' := V) (v := .int .i64 1) (fun _ => trivial) (by simp) (run_bin_of rfl rfl rfl (by go_simp)) rfl ?_
              refine wi_val (v := .pointer (some ⟨b5, 2, none⟩)) (fun _ => trivial) (by simp) (run_index_of rfl rfl rfl (ix_Ar3 b5 2 (by decide) _)) rfl ?_
              refine wi_skip (fun _ => trivial) (by simp) (run_store_off (off := 2) (cs' := #[.int .i64 (N0 : Int), .int .i64 (N1 : Int), .int .i64 1]) (hI.get 1 rfl) rfl rfl rfl (by show 2 < 3; decide) rfl cellHI rfl) rfl rfl ?_
              have hI2 := hI.set (cs := #[.int .i64 (N0 : Int), .int .i64 (N1 : Int), .int .i64 1]) 1 rfl
              have hMk2 := hMk.setRow (cs := #[.int .i64 (N0 : Int), .int .i64 (N1 : Int), .int .i64 1]) (hI.get 1 rfl)
              refine wpListIn_nil (hK6 _ _ ?_)
              refine wpIn_exit ?_
              exact ⟨setRow_keeps _ _ _ _ (by omega), rfl, ⟨pre, _, rfl, HG.out⟩, ⟨N0, N1, hI2⟩, hMk2⟩
          | true =>
            have HG := Lib.hid (show goodG x = true by rw [hgx, decide_eq_true (show x.length ≤ 4 by omega)]; rfl)
            clear hzx hgx
            apply sw_at _ V (by kernel_rfl) ?run0 ?rest0
            case run0 =>
              refine sw_pure (v := .string X) (fun W => rfl) rfl ?_
              simp only [nm0, nm1, nm2, nm3]
              refine sw_pure (v := .bool false) (fun W => run_bin_of rfl rfl rfl (by go_simp)) rfl ?_
              simp only [nm0, nm1, nm2, nm3]
              refine sw_pure (v := .bool false) (fun W => rfl) rfl ?_
              simp only [nm0, nm1, nm2, nm3]
              refine sw_pure (v := .string X) (fun W => rfl) rfl ?_
              simp only [nm0, nm1, nm2, nm3]
              refine sw_pure (v := .int .i64 (X.size : Int)) (fun W => by go_simp) rfl ?_
              simp only [nm0, nm1, nm2, nm3]
              refine sw_pure (v := .bool false) (fun W => run_bin_of rfl rfl rfl (by go_simp)) rfl ?_
              simp only [nm0, nm1, nm2, nm3]
              refine sw_pure (v := .bool false) (fun W => rfl) rfl ?_
              simp only [nm0, nm1, nm2, nm3]
              refine sw_pure (v := .bool false) (fun W => rfl) rfl ?_
              simp only [nm0, nm1, nm2, nm3]
              refine sw_pure (v := .string X) (fun W => rfl) rfl ?_
              simp only [nm0, nm1, nm2, nm3]
              refine sw_val (v := fnHex) (run_load_cell rfl rfl v3 rfl cellF) rfl ?_
              simp only [nm0, nm1, nm2, nm3]
              refine sw_callS (args := #[.string X, fnHex]) (v := .bool true) (fun W => run_call_fn W (enters_of Tryd.func65 (by kernel_rfl) rfl) rfl (by simp [Act.eval])) KJ rfl ?_
              simp only [nm0, nm1, nm2, nm3]
              refine sw_pure (v := .bool false) (fun W => by go_simp) rfl ?_
              simp only [nm0, nm1, nm2, nm3]
              refine sw_pure (v := .bool false) (fun W => rfl) rfl ?_
              simp only [nm0, nm1, nm2, nm3]
              exact sw_nil ⟨rfl, rfl, rfl⟩
            case rest0 =>
              refine hK3 _ _ ?_
              refine wpIn_cond_false rfl ?_
              refine wpIn_skip ?_
              refine hK2 _ _ ?_
              clear KJ q2 hne
              obtain ⟨j, hj⟩ : ∃ j, pre.length = j := ⟨_, rfl⟩
              have hlen2 : (pre ++ [x]).length = j + 1 := by simp [hj]
              have w2 : IntKind.i64.wrap ((j : Int) + 1) = ((j + 1 : Nat) : Int) := by rw [show ((j + 1 : Nat) : Int) = (j : Int) + 1 by omega]; exact IntWalk.i64_in _ (by omega)
              have hgo2 : ∀ y ∈ pre ++ [x], goodG y = true := fun y hy => by
                rcases List.mem_append.1 hy with h | h
                · exact hgo y h
                · rw [List.mem_singleton.1 h]; exact HG.out
              rw [hj] at eN1
              rw [eN1] at hI
              refine wpIn_region_lit ?_
              refine wi_val (v := .int .i64 1) (fun _ => trivial) (by simp) (run_load_cell rfl rfl (hI.get 0 rfl) rfl cellHI) rfl ?_
              refine wi_val (v := .pointer (some ⟨b5, 1, none⟩)) (fun _ => trivial) (by simp) (run_index_of rfl rfl rfl (ix_Ar3 b5 1 (by decide) _)) rfl ?_
              refine wi_val (v := .int .i64 (j : Int)) (fun _ => trivial) (by simp) (run_load_cell rfl rfl (hI.get 1 rfl) rfl cellHI) rfl ?_
              refine wi_val (w' := V) (v := .int .i64 ((j + 1 : Nat) : Int)) (fun _ => trivial) (by simp) (run_bin_of rfl rfl rfl (by go_simp)) rfl ?_
              refine wi_val (v := .pointer (some ⟨b5, 1, none⟩)) (fun _ => trivial) (by simp) (run_index_of rfl rfl rfl (ix_Ar3 b5 1 (by decide) _)) rfl ?_
              refine wi_skip (fun _ => trivial) (by simp) (run_store_off (off := 1) (cs' := #[.int .i64 (N0 : Int), .int .i64 ((j + 1 : Nat) : Int), .int .i64 ((0 : Nat) : Int)]) (hI.get 1 rfl) rfl rfl rfl (by show 1 < 3; decide) rfl cellHI rfl) rfl rfl ?_
              have hI1 := hI.set (cs := #[.int .i64 (N0 : Int), .int .i64 ((j + 1 : Nat) : Int), .int .i64 ((0 : Nat) : Int)]) 1 rfl
              have hMk1 := hMk.setRow (cs := #[.int .i64 (N0 : Int), .int .i64 ((j + 1 : Nat) : Int), .int .i64 ((0 : Nat) : Int)]) (hI.get 1 rfl)
              refine wpListIn_nil ?_
              refine ⟨setRow_keeps _ _ _ _ (by omega), ⟨by simp, fun k ob hk hf => ⟨by rw [setRow_other _ _ _ _ hf.1]; exact hk, hf⟩⟩, hgo2, ?_, hMk1, ?_⟩
              · rw [hlen2]
                rw [eN0] at hI1 ⊢
                exact hI1
              · rw [setRow_other _ _ _ _ (by have := (Array.getElem?_eq_some_iff.1 hcV).1; intro e; rw [e, hI.get 1 rfl] at hcV; exact absurd (Obj.cells.inj (Option.some.inj hcV)).2.1 (by decide))]
                exact hcV
        case done =>
          rintro D' V hD' ⟨hgo, hV, hMkV, hcV⟩ hKd
          rw [hD] at hD'
          go_wp2_with fail
          refine ⟨D' :: Ds, _, _, _, _, _, _, _, _, _, _, _, _, _, _, _, _, _, _, _, _, _, _, _, _, _, _, _, _, _, _, _, _, _, _, _, rfl, hMkV.cons (fun d hd => by have := hdl d hd; omega) (by omega) hKd, ?_, hcV, ?_⟩
          · have := hV.tail
            rw [cN_at (k := 1) HP.out 0, cN_at (k := 1) HP.out 1]
            rw [if_neg (by decide), if_pos rfl, HGP.out]
            exact this
          · rw [flat_at HP.out, hall, HGP.out, List.all_eq_true.2 hgo]
            rfl
        case stop =>
          rw [hD]
          rintro D' c pre x V hD' hx ⟨rfl, ⟨pre2, y, e2, hy⟩, ⟨m0, m1, hMa⟩, hMkV⟩ hKd
          have hym : y ∈ prt 58 [] P := hx.subset (by rw [e2]; simp)
          have hBAD : (L.flatMap grp).all goodG = false := by
            cases h : (L.flatMap grp).all goodG with
            | false => rfl
            | true =>
              have := List.all_eq_true.1 h y (List.mem_flatMap.2 ⟨P, List.mem_of_getElem? HP.out, by rw [HGP.out]; exact hym⟩)
              rw [hy] at this
              cases this
          refine wpIn_exit ?_
          obtain ⟨z, hz⟩ : ∃ z, IntKind.i64.wrap ((m0 : Int) + (m1 : Int)) = z := ⟨_, rfl⟩
          have HF := Lib.hid (show bracB l = false by rw [HBR.out, hBAD]; simp)
          go_upto_region 18 with fail
          refine sw_lit ?_
          refine sw_pure (v := .pointer (some ⟨b5, 0, none⟩)) (fun W => run_index_of rfl rfl rfl (ix_Ar3 b5 0 (by decide) _)) rfl ?_
          simp only [nm0, nm1, nm2, nm3]
          refine sw_val (v := .int .i64 (m0 : Int)) (run_load_cell rfl rfl (hMa.get 1 rfl) rfl cellHI) rfl ?_
          simp only [nm0, nm1, nm2, nm3]
          refine sw_pure (v := .pointer (some ⟨b5, 1, none⟩)) (fun W => run_index_of rfl rfl rfl (ix_Ar3 b5 1 (by decide) _)) rfl ?_
          simp only [nm0, nm1, nm2, nm3]
          refine sw_val (v := .int .i64 (m1 : Int)) (run_load_cell rfl rfl (hMa.get 1 rfl) rfl cellHI) rfl ?_
          simp only [nm0, nm1, nm2, nm3]
          refine sw_pure (v := .int .i64 z) (fun W => run_bin_of rfl rfl rfl (by go_simp)) rfl ?_
          simp only [nm0, nm1, nm2, nm3]
          refine sw_pure (v := .int .i64 z) (fun W => rfl) rfl ?_
          simp only [nm0, nm1, nm2, nm3]
          refine sw_nil ?_
          go_upto_region 19 with fail
          refine sw_lit ?_
          refine sw_pure (v := .pointer (some ⟨b5, 2, none⟩)) (fun W => run_index_of rfl rfl rfl (ix_Ar3 b5 2 (by decide) _)) rfl ?_
          simp only [nm0, nm1, nm2, nm3]
          refine sw_val (v := .int .i64 1) (run_load_cell rfl rfl (hMa.get 1 rfl) rfl cellHI) rfl ?_
          simp only [nm0, nm1, nm2, nm3]
          refine sw_pure (v := .bool false) (fun W => run_bin_of rfl rfl rfl (by go_simp)) rfl ?_
          simp only [nm0, nm1, nm2, nm3]
          refine sw_pure (v := .bool false) (fun W => rfl) rfl ?_
          simp only [nm0, nm1, nm2, nm3]
          refine sw_skip rfl ?_
          simp only [nm0, nm1, nm2, nm3]
          refine sw_skip rfl ?_
          simp only [nm0, nm1, nm2, nm3]
          refine sw_skip rfl ?_
          simp only [nm0, nm1, nm2, nm3]
          refine sw_skip rfl ?_
          simp only [nm0, nm1, nm2, nm3]
          refine sw_skip rfl ?_
          simp only [nm0, nm1, nm2, nm3]
          refine sw_skip rfl ?_
          simp only [nm0, nm1, nm2, nm3]
          refine sw_skip rfl ?_
          simp only [nm0, nm1, nm2, nm3]
          refine sw_skip rfl ?_
          simp only [nm0, nm1, nm2, nm3]
          refine sw_skip rfl ?_
          simp only [nm0, nm1, nm2, nm3]
          refine sw_skip rfl ?_
          simp only [nm0, nm1, nm2, nm3]
          refine sw_skip rfl ?_
          simp only [nm0, nm1, nm2, nm3]
          refine sw_skip rfl ?_
          simp only [nm0, nm1, nm2, nm3]
          refine sw_skip rfl ?_
          simp only [nm0, nm1, nm2, nm3]
          refine sw_skip rfl ?_
          simp only [nm0, nm1, nm2, nm3]
          refine sw_skip rfl ?_
          simp only [nm0, nm1, nm2, nm3]
          refine sw_skip rfl ?_
          simp only [nm0, nm1, nm2, nm3]
          refine sw_pure (v := .bool false) (fun W => rfl) rfl ?_
          simp only [nm0, nm1, nm2, nm3]
          refine sw_pure (v := .bool false) (fun W => rfl) rfl ?_
          simp only [nm0, nm1, nm2, nm3]
          refine sw_nil ?_
          go_wp2_with fail
          exact leaves_marks (w0 := w) (s := 2) rfl rfl (fun W hb => ⟨ret_bool HF.out.symm, hb⟩) (D' :: Ds) _ (hMkV.cons (fun d hd => by have := hdl d hd; omega) (by omega) hKd) hMa.below

  case fin =>
    rintro a W ⟨Ds, u6, u7, u8, u38, u39, u40, u41, u42, u43, u44, u45, u46, u47, u48, u49, u50, u51, u52, u53, u54, u55, u56, u57, u58, u59, u60, u61, u62, u63, u64, u65, u66, u67, u68, u69, rfl, hMk, hM, hcW, hall⟩
    have p1 : ¬ (n : Int) < (n : Int) := by omega
    have hALL : (L.flatMap grp).all goodG = true := by rw [← en, List.take_length] at hall; exact hall
    obtain ⟨m0, em0⟩ : ∃ m0, cN L 0 n = m0 := ⟨_, rfl⟩
    obtain ⟨m1, em1⟩ : ∃ m1, cN L 1 n = m1 := ⟨_, rfl⟩
    obtain ⟨M, eM⟩ : ∃ M, (L.flatMap grp).length = M := ⟨_, rfl⟩
    have hsum : m0 + m1 = M ∧ M ≤ 10000 := by
      have hgl : ∀ P ∈ L, (grp P).length ≤ 1001 := fun P hP => by
        have h1 := HSM.out P hP
        unfold grp
        split
        · simp
        · have := prt_len 58 P []; omega
      rcases hn12 with h | h
      · obtain ⟨x, rfl⟩ : ∃ x, L = [x] := List.length_eq_one_iff.1 (by omega)
        subst h
        have := hgl x (by simp)
        rw [← em0, ← em1, ← eM]
        simp [cN]
        omega
      · obtain ⟨x, y, rfl⟩ : ∃ x y, L = [x, y] := len_two (by omega)
        subst h
        have h1 := hgl x (by simp)
        have h2 := hgl y (by simp)
        rw [← em0, ← em1, ← eM]
        simp [cN]
        omega
    rw [em0, em1] at hM
    have wM : IntKind.i64.wrap ((m0 : Int) + (m1 : Int)) = (M : Int) := by rw [show (m0 : Int) + (m1 : Int) = (M : Int) by omega]; exact IntWalk.i64_in _ (by omega)
    clear hall em0 em1 hsum
    by_cases e8 : M = 8
    · have q8 : ((M : Int) == 8) = true := by simp; omega
      have q7 : ¬ (M : Int) ≤ 7 := by omega
      rcases hn12 with rfl | rfl
      · have HF := Lib.hid (show bracB l = true by rw [HBR.out, hALL, eM, e8]; rfl)
        go_upto_region 18 with fail
        refine sw_lit ?_
        refine sw_pure (v := .pointer (some ⟨b5, 0, none⟩)) (fun W => run_index_of rfl rfl rfl (ix_Ar3 b5 0 (by decide) _)) rfl ?_
        simp only [nm0, nm1, nm2, nm3]
        refine sw_val (v := .int .i64 (m0 : Int)) (run_load_cell rfl rfl (hM.get 0 rfl) rfl cellHI) rfl ?_
        simp only [nm0, nm1, nm2, nm3]
        refine sw_pure (v := .pointer (some ⟨b5, 1, none⟩)) (fun W => run_index_of rfl rfl rfl (ix_Ar3 b5 1 (by decide) _)) rfl ?_
        simp only [nm0, nm1, nm2, nm3]
        refine sw_val (v := .int .i64 (m1 : Int)) (run_load_cell rfl rfl (hM.get 0 rfl) rfl cellHI) rfl ?_
        simp only [nm0, nm1, nm2, nm3]
        refine sw_pure (v := .int .i64 (M : Int)) (fun W => run_bin_of rfl rfl rfl (by go_simp)) rfl ?_
        simp only [nm0, nm1, nm2, nm3]
        refine sw_pure (v := .int .i64 (M : Int)) (fun W => rfl) rfl ?_
        simp only [nm0, nm1, nm2, nm3]
        refine sw_nil ?_
        go_upto_region 19 with fail
        refine sw_lit ?_
        refine sw_pure (v := .pointer (some ⟨b5, 2, none⟩)) (fun W => run_index_of rfl rfl rfl (ix_Ar3 b5 2 (by decide) _)) rfl ?_
        simp only [nm0, nm1, nm2, nm3]
        refine sw_val (v := .int .i64 0) (run_load_cell rfl rfl (hM.get 0 rfl) rfl cellHI) rfl ?_
        simp only [nm0, nm1, nm2, nm3]
        refine sw_pure (v := .bool true) (fun W => run_bin_of rfl rfl rfl (by go_simp)) rfl ?_
        simp only [nm0, nm1, nm2, nm3]
        refine sw_pure (v := .bool true) (fun W => rfl) rfl ?_
        simp only [nm0, nm1, nm2, nm3]
        refine sw_pure (v := .int .i64 (M : Int)) (fun W => rfl) rfl ?_
        simp only [nm0, nm1, nm2, nm3]
        refine sw_pure (v := .bool true) (fun W => run_bin_of rfl rfl rfl (by go_simp)) rfl ?_
        simp only [nm0, nm1, nm2, nm3]
        refine sw_pure (v := .bool true) (fun W => rfl) rfl ?_
        simp only [nm0, nm1, nm2, nm3]
        refine sw_pure (v := .slice (some ⟨g, 0, none⟩) 1 1) (fun W => rfl) rfl ?_
        simp only [nm0, nm1, nm2, nm3]
        refine sw_pure (v := .int .i64 (1 : Int)) (fun W => by go_simp) rfl ?_
        simp only [nm0, nm1, nm2, nm3]
        refine sw_pure (v := .bool true) (fun W => run_bin_of rfl rfl rfl (by go_simp)) rfl ?_
        simp only [nm0, nm1, nm2, nm3]
        refine sw_pure (v := .bool true) (fun W => rfl) rfl ?_
        simp only [nm0, nm1, nm2, nm3]
        refine sw_pure (v := .bool true) (fun W => rfl) rfl ?_
        simp only [nm0, nm1, nm2, nm3]
        refine sw_skip rfl ?_
        simp only [nm0, nm1, nm2, nm3]
        refine sw_skip rfl ?_
        simp only [nm0, nm1, nm2, nm3]
        refine sw_skip rfl ?_
        simp only [nm0, nm1, nm2, nm3]
        refine sw_skip rfl ?_
        simp only [nm0, nm1, nm2, nm3]
        refine sw_skip rfl ?_
        simp only [nm0, nm1, nm2, nm3]
        refine sw_skip rfl ?_
        simp only [nm0, nm1, nm2, nm3]
        refine sw_skip rfl ?_
        simp only [nm0, nm1, nm2, nm3]
        refine sw_pure (v := .bool true) (fun W => rfl) rfl ?_
        simp only [nm0, nm1, nm2, nm3]
        refine sw_pure (v := .bool true) (fun W => rfl) rfl ?_
        simp only [nm0, nm1, nm2, nm3]
        refine sw_pure (v := .bool true) (fun W => rfl) rfl ?_
        simp only [nm0, nm1, nm2, nm3]
        refine sw_nil ?_
        go_wp2_with fail
        exact leaves_marks (w0 := w) (s := 2) rfl rfl (fun W hb => ⟨ret_bool HF.out.symm, hb⟩) Ds _ hMk hM.below
      · have HF := Lib.hid (show bracB l = false by rw [HBR.out, hALL, eM, e8]; rfl)
        go_upto_region 18 with fail
        refine sw_lit ?_
        refine sw_pure (v := .pointer (some ⟨b5, 0, none⟩)) (fun W => run_index_of rfl rfl rfl (ix_Ar3 b5 0 (by decide) _)) rfl ?_
        simp only [nm0, nm1, nm2, nm3]
        refine sw_val (v := .int .i64 (m0 : Int)) (run_load_cell rfl rfl (hM.get 0 rfl) rfl cellHI) rfl ?_
        simp only [nm0, nm1, nm2, nm3]
        refine sw_pure (v := .pointer (some ⟨b5, 1, none⟩)) (fun W => run_index_of rfl rfl rfl (ix_Ar3 b5 1 (by decide) _)) rfl ?_
        simp only [nm0, nm1, nm2, nm3]
        refine sw_val (v := .int .i64 (m1 : Int)) (run_load_cell rfl rfl (hM.get 0 rfl) rfl cellHI) rfl ?_
        simp only [nm0, nm1, nm2, nm3]
        refine sw_pure (v := .int .i64 (M : Int)) (fun W => run_bin_of rfl rfl rfl (by go_simp)) rfl ?_
        simp only [nm0, nm1, nm2, nm3]
        refine sw_pure (v := .int .i64 (M : Int)) (fun W => rfl) rfl ?_
        simp only [nm0, nm1, nm2, nm3]
        refine sw_nil ?_
        go_upto_region 19 with fail
        refine sw_lit ?_
        refine sw_pure (v := .pointer (some ⟨b5, 2, none⟩)) (fun W => run_index_of rfl rfl rfl (ix_Ar3 b5 2 (by decide) _)) rfl ?_
        simp only [nm0, nm1, nm2, nm3]
        refine sw_val (v := .int .i64 0) (run_load_cell rfl rfl (hM.get 0 rfl) rfl cellHI) rfl ?_
        simp only [nm0, nm1, nm2, nm3]
        refine sw_pure (v := .bool true) (fun W => run_bin_of rfl rfl rfl (by go_simp)) rfl ?_
        simp only [nm0, nm1, nm2, nm3]
        refine sw_pure (v := .bool true) (fun W => rfl) rfl ?_
        simp only [nm0, nm1, nm2, nm3]
        refine sw_pure (v := .int .i64 (M : Int)) (fun W => rfl) rfl ?_
        simp only [nm0, nm1, nm2, nm3]
        refine sw_pure (v := .bool true) (fun W => run_bin_of rfl rfl rfl (by go_simp)) rfl ?_
        simp only [nm0, nm1, nm2, nm3]
        refine sw_pure (v := .bool true) (fun W => rfl) rfl ?_
        simp only [nm0, nm1, nm2, nm3]
        refine sw_pure (v := .slice (some ⟨g, 0, none⟩) 2 2) (fun W => rfl) rfl ?_
        simp only [nm0, nm1, nm2, nm3]
        refine sw_pure (v := .int .i64 (2 : Int)) (fun W => by go_simp) rfl ?_
        simp only [nm0, nm1, nm2, nm3]
        refine sw_pure (v := .bool false) (fun W => run_bin_of rfl rfl rfl (by go_simp)) rfl ?_
        simp only [nm0, nm1, nm2, nm3]
        refine sw_pure (v := .bool false) (fun W => rfl) rfl ?_
        simp only [nm0, nm1, nm2, nm3]
        refine sw_pure (v := .bool false) (fun W => rfl) rfl ?_
        simp only [nm0, nm1, nm2, nm3]
        refine sw_pure (v := .int .i64 (M : Int)) (fun W => rfl) rfl ?_
        simp only [nm0, nm1, nm2, nm3]
        refine sw_pure (v := .bool false) (fun W => run_bin_of rfl rfl rfl (by go_simp)) rfl ?_
        simp only [nm0, nm1, nm2, nm3]
        refine sw_pure (v := .bool false) (fun W => rfl) rfl ?_
        simp only [nm0, nm1, nm2, nm3]
        refine sw_skip rfl ?_
        simp only [nm0, nm1, nm2, nm3]
        refine sw_skip rfl ?_
        simp only [nm0, nm1, nm2, nm3]
        refine sw_skip rfl ?_
        simp only [nm0, nm1, nm2, nm3]
        refine sw_pure (v := .bool false) (fun W => rfl) rfl ?_
        simp only [nm0, nm1, nm2, nm3]
        refine sw_pure (v := .bool false) (fun W => rfl) rfl ?_
        simp only [nm0, nm1, nm2, nm3]
        refine sw_pure (v := .bool false) (fun W => rfl) rfl ?_
        simp only [nm0, nm1, nm2, nm3]
        refine sw_pure (v := .bool false) (fun W => rfl) rfl ?_
        simp only [nm0, nm1, nm2, nm3]
        refine sw_nil ?_
        go_wp2_with fail
        exact leaves_marks (w0 := w) (s := 2) rfl rfl (fun W hb => ⟨ret_bool HF.out.symm, hb⟩) Ds _ hMk hM.below
    have q8 : ((M : Int) == 8) = false := by simp; omega
    by_cases e7 : M ≤ 7
    · have q7 : (M : Int) ≤ 7 := by omega
      rcases hn12 with rfl | rfl
      · have HF := Lib.hid (show bracB l = false by rw [HBR.out, hALL, eM, decide_eq_false e8, decide_eq_true e7]; rfl)
        go_upto_region 18 with fail
        refine sw_lit ?_
        refine sw_pure (v := .pointer (some ⟨b5, 0, none⟩)) (fun W => run_index_of rfl rfl rfl (ix_Ar3 b5 0 (by decide) _)) rfl ?_
        simp only [nm0, nm1, nm2, nm3]
        refine sw_val (v := .int .i64 (m0 : Int)) (run_load_cell rfl rfl (hM.get 0 rfl) rfl cellHI) rfl ?_
        simp only [nm0, nm1, nm2, nm3]
        refine sw_pure (v := .pointer (some ⟨b5, 1, none⟩)) (fun W => run_index_of rfl rfl rfl (ix_Ar3 b5 1 (by decide) _)) rfl ?_
        simp only [nm0, nm1, nm2, nm3]
        refine sw_val (v := .int .i64 (m1 : Int)) (run_load_cell rfl rfl (hM.get 0 rfl) rfl cellHI) rfl ?_
        simp only [nm0, nm1, nm2, nm3]
        refine sw_pure (v := .int .i64 (M : Int)) (fun W => run_bin_of rfl rfl rfl (by go_simp)) rfl ?_
        simp only [nm0, nm1, nm2, nm3]
        refine sw_pure (v := .int .i64 (M : Int)) (fun W => rfl) rfl ?_
        simp only [nm0, nm1, nm2, nm3]
        refine sw_nil ?_
        go_upto_region 19 with fail
        refine sw_lit ?_
        refine sw_pure (v := .pointer (some ⟨b5, 2, none⟩)) (fun W => run_index_of rfl rfl rfl (ix_Ar3 b5 2 (by decide) _)) rfl ?_
        simp only [nm0, nm1, nm2, nm3]
        refine sw_val (v := .int .i64 0) (run_load_cell rfl rfl (hM.get 0 rfl) rfl cellHI) rfl ?_
        simp only [nm0, nm1, nm2, nm3]
        refine sw_pure (v := .bool true) (fun W => run_bin_of rfl rfl rfl (by go_simp)) rfl ?_
        simp only [nm0, nm1, nm2, nm3]
        refine sw_pure (v := .bool true) (fun W => rfl) rfl ?_
        simp only [nm0, nm1, nm2, nm3]
        refine sw_pure (v := .int .i64 (M : Int)) (fun W => rfl) rfl ?_
        simp only [nm0, nm1, nm2, nm3]
        refine sw_pure (v := .bool false) (fun W => run_bin_of rfl rfl rfl (by go_simp)) rfl ?_
        simp only [nm0, nm1, nm2, nm3]
        refine sw_pure (v := .bool false) (fun W => rfl) rfl ?_
        simp only [nm0, nm1, nm2, nm3]
        refine sw_skip rfl ?_
        simp only [nm0, nm1, nm2, nm3]
        refine sw_skip rfl ?_
        simp only [nm0, nm1, nm2, nm3]
        refine sw_skip rfl ?_
        simp only [nm0, nm1, nm2, nm3]
        refine sw_pure (v := .bool false) (fun W => rfl) rfl ?_
        simp only [nm0, nm1, nm2, nm3]
        refine sw_pure (v := .bool false) (fun W => rfl) rfl ?_
        simp only [nm0, nm1, nm2, nm3]
        refine sw_pure (v := .int .i64 (M : Int)) (fun W => rfl) rfl ?_
        simp only [nm0, nm1, nm2, nm3]
        refine sw_pure (v := .bool true) (fun W => run_bin_of rfl rfl rfl (by go_simp)) rfl ?_
        simp only [nm0, nm1, nm2, nm3]
        refine sw_pure (v := .bool true) (fun W => rfl) rfl ?_
        simp only [nm0, nm1, nm2, nm3]
        refine sw_pure (v := .slice (some ⟨g, 0, none⟩) 1 1) (fun W => rfl) rfl ?_
        simp only [nm0, nm1, nm2, nm3]
        refine sw_pure (v := .int .i64 (1 : Int)) (fun W => by go_simp) rfl ?_
        simp only [nm0, nm1, nm2, nm3]
        refine sw_pure (v := .bool false) (fun W => run_bin_of rfl rfl rfl (by go_simp)) rfl ?_
        simp only [nm0, nm1, nm2, nm3]
        refine sw_pure (v := .bool false) (fun W => rfl) rfl ?_
        simp only [nm0, nm1, nm2, nm3]
        refine sw_pure (v := .bool false) (fun W => rfl) rfl ?_
        simp only [nm0, nm1, nm2, nm3]
        refine sw_pure (v := .bool false) (fun W => rfl) rfl ?_
        simp only [nm0, nm1, nm2, nm3]
        refine sw_pure (v := .bool false) (fun W => rfl) rfl ?_
        simp only [nm0, nm1, nm2, nm3]
        refine sw_nil ?_
        go_wp2_with fail
        exact leaves_marks (w0 := w) (s := 2) rfl rfl (fun W hb => ⟨ret_bool HF.out.symm, hb⟩) Ds _ hMk hM.below
      · have HF := Lib.hid (show bracB l = true by rw [HBR.out, hALL, eM, decide_eq_false e8, decide_eq_true e7]; rfl)
        go_upto_region 18 with fail
        refine sw_lit ?_
        refine sw_pure (v := .pointer (some ⟨b5, 0, none⟩)) (fun W => run_index_of rfl rfl rfl (ix_Ar3 b5 0 (by decide) _)) rfl ?_
        simp only [nm0, nm1, nm2, nm3]
        refine sw_val (v := .int .i64 (m0 : Int)) (run_load_cell rfl rfl (hM.get 0 rfl) rfl cellHI) rfl ?_
        simp only [nm0, nm1, nm2, nm3]
        refine sw_pure (v := .pointer (some ⟨b5, 1, none⟩)) (fun W => run_index_of rfl rfl rfl (ix_Ar3 b5 1 (by decide) _)) rfl ?_
        simp only [nm0, nm1, nm2, nm3]
        refine sw_val (v := .int .i64 (m1 : Int)) (run_load_cell rfl rfl (hM.get 0 rfl) rfl cellHI) rfl ?_
        simp only [nm0, nm1, nm2, nm3]
        refine sw_pure (v := .int .i64 (M : Int)) (fun W => run_bin_of rfl rfl rfl (by go_simp)) rfl ?_
        simp only [nm0, nm1, nm2, nm3]
        refine sw_pure (v := .int .i64 (M : Int)) (fun W => rfl) rfl ?_
        simp only [nm0, nm1, nm2, nm3]
        refine sw_nil ?_
        go_upto_region 19 with fail
        refine sw_lit ?_
        refine sw_pure (v := .pointer (some ⟨b5, 2, none⟩)) (fun W => run_index_of rfl rfl rfl (ix_Ar3 b5 2 (by decide) _)) rfl ?_
        simp only [nm0, nm1, nm2, nm3]
        refine sw_val (v := .int .i64 0) (run_load_cell rfl rfl (hM.get 0 rfl) rfl cellHI) rfl ?_
        simp only [nm0, nm1, nm2, nm3]
        refine sw_pure (v := .bool true) (fun W => run_bin_of rfl rfl rfl (by go_simp)) rfl ?_
        simp only [nm0, nm1, nm2, nm3]
        refine sw_pure (v := .bool true) (fun W => rfl) rfl ?_
        simp only [nm0, nm1, nm2, nm3]
        refine sw_pure (v := .int .i64 (M : Int)) (fun W => rfl) rfl ?_
        simp only [nm0, nm1, nm2, nm3]
        refine sw_pure (v := .bool false) (fun W => run_bin_of rfl rfl rfl (by go_simp)) rfl ?_
        simp only [nm0, nm1, nm2, nm3]
        refine sw_pure (v := .bool false) (fun W => rfl) rfl ?_
        simp only [nm0, nm1, nm2, nm3]
        refine sw_skip rfl ?_
        simp only [nm0, nm1, nm2, nm3]
        refine sw_skip rfl ?_
        simp only [nm0, nm1, nm2, nm3]
        refine sw_skip rfl ?_
        simp only [nm0, nm1, nm2, nm3]
        refine sw_pure (v := .bool false) (fun W => rfl) rfl ?_
        simp only [nm0, nm1, nm2, nm3]
        refine sw_pure (v := .bool false) (fun W => rfl) rfl ?_
        simp only [nm0, nm1, nm2, nm3]
        refine sw_pure (v := .int .i64 (M : Int)) (fun W => rfl) rfl ?_
        simp only [nm0, nm1, nm2, nm3]
        refine sw_pure (v := .bool true) (fun W => run_bin_of rfl rfl rfl (by go_simp)) rfl ?_
        simp only [nm0, nm1, nm2, nm3]
        refine sw_pure (v := .bool true) (fun W => rfl) rfl ?_
        simp only [nm0, nm1, nm2, nm3]
        refine sw_pure (v := .slice (some ⟨g, 0, none⟩) 2 2) (fun W => rfl) rfl ?_
        simp only [nm0, nm1, nm2, nm3]
        refine sw_pure (v := .int .i64 (2 : Int)) (fun W => by go_simp) rfl ?_
        simp only [nm0, nm1, nm2, nm3]
        refine sw_pure (v := .bool true) (fun W => run_bin_of rfl rfl rfl (by go_simp)) rfl ?_
        simp only [nm0, nm1, nm2, nm3]
        refine sw_pure (v := .bool true) (fun W => rfl) rfl ?_
        simp only [nm0, nm1, nm2, nm3]
        refine sw_pure (v := .bool true) (fun W => rfl) rfl ?_
        simp only [nm0, nm1, nm2, nm3]
        refine sw_pure (v := .bool true) (fun W => rfl) rfl ?_
        simp only [nm0, nm1, nm2, nm3]
        refine sw_pure (v := .bool true) (fun W => rfl) rfl ?_
        simp only [nm0, nm1, nm2, nm3]
        refine sw_nil ?_
        go_wp2_with fail
        exact leaves_marks (w0 := w) (s := 2) rfl rfl (fun W hb => ⟨ret_bool HF.out.symm, hb⟩) Ds _ hMk hM.below
    · have q7 : ¬ (M : Int) ≤ 7 := by omega
      rcases hn12 with rfl | rfl
      · have HF := Lib.hid (show bracB l = false by rw [HBR.out, hALL, eM, decide_eq_false e8, decide_eq_false e7]; rfl)
        go_upto_region 18 with fail
        refine sw_lit ?_
        refine sw_pure (v := .pointer (some ⟨b5, 0, none⟩)) (fun W => run_index_of rfl rfl rfl (ix_Ar3 b5 0 (by decide) _)) rfl ?_
        simp only [nm0, nm1, nm2, nm3]
        refine sw_val (v := .int .i64 (m0 : Int)) (run_load_cell rfl rfl (hM.get 0 rfl) rfl cellHI) rfl ?_
        simp only [nm0, nm1, nm2, nm3]
        refine sw_pure (v := .pointer (some ⟨b5, 1, none⟩)) (fun W => run_index_of rfl rfl rfl (ix_Ar3 b5 1 (by decide) _)) rfl ?_
        simp only [nm0, nm1, nm2, nm3]
        refine sw_val (v := .int .i64 (m1 : Int)) (run_load_cell rfl rfl (hM.get 0 rfl) rfl cellHI) rfl ?_
        simp only [nm0, nm1, nm2, nm3]
        refine sw_pure (v := .int .i64 (M : Int)) (fun W => run_bin_of rfl rfl rfl (by go_simp)) rfl ?_
        simp only [nm0, nm1, nm2, nm3]
        refine sw_pure (v := .int .i64 (M : Int)) (fun W => rfl) rfl ?_
        simp only [nm0, nm1, nm2, nm3]
        refine sw_nil ?_
        go_upto_region 19 with fail
        refine sw_lit ?_
        refine sw_pure (v := .pointer (some ⟨b5, 2, none⟩)) (fun W => run_index_of rfl rfl rfl (ix_Ar3 b5 2 (by decide) _)) rfl ?_
        simp only [nm0, nm1, nm2, nm3]
        refine sw_val (v := .int .i64 0) (run_load_cell rfl rfl (hM.get 0 rfl) rfl cellHI) rfl ?_
        simp only [nm0, nm1, nm2, nm3]
        refine sw_pure (v := .bool true) (fun W => run_bin_of rfl rfl rfl (by go_simp)) rfl ?_
        simp only [nm0, nm1, nm2, nm3]
        refine sw_pure (v := .bool true) (fun W => rfl) rfl ?_
        simp only [nm0, nm1, nm2, nm3]
        refine sw_pure (v := .int .i64 (M : Int)) (fun W => rfl) rfl ?_
        simp only [nm0, nm1, nm2, nm3]
        refine sw_pure (v := .bool false) (fun W => run_bin_of rfl rfl rfl (by go_simp)) rfl ?_
        simp only [nm0, nm1, nm2, nm3]
        refine sw_pure (v := .bool false) (fun W => rfl) rfl ?_
        simp only [nm0, nm1, nm2, nm3]
        refine sw_skip rfl ?_
        simp only [nm0, nm1, nm2, nm3]
        refine sw_skip rfl ?_
        simp only [nm0, nm1, nm2, nm3]
        refine sw_skip rfl ?_
        simp only [nm0, nm1, nm2, nm3]
        refine sw_pure (v := .bool false) (fun W => rfl) rfl ?_
        simp only [nm0, nm1, nm2, nm3]
        refine sw_pure (v := .bool false) (fun W => rfl) rfl ?_
        simp only [nm0, nm1, nm2, nm3]
        refine sw_pure (v := .int .i64 (M : Int)) (fun W => rfl) rfl ?_
        simp only [nm0, nm1, nm2, nm3]
        refine sw_pure (v := .bool false) (fun W => run_bin_of rfl rfl rfl (by go_simp)) rfl ?_
        simp only [nm0, nm1, nm2, nm3]
        refine sw_pure (v := .bool false) (fun W => rfl) rfl ?_
        simp only [nm0, nm1, nm2, nm3]
        refine sw_skip rfl ?_
        simp only [nm0, nm1, nm2, nm3]
        refine sw_skip rfl ?_
        simp only [nm0, nm1, nm2, nm3]
        refine sw_skip rfl ?_
        simp only [nm0, nm1, nm2, nm3]
        refine sw_pure (v := .bool false) (fun W => rfl) rfl ?_
        simp only [nm0, nm1, nm2, nm3]
        refine sw_pure (v := .bool false) (fun W => rfl) rfl ?_
        simp only [nm0, nm1, nm2, nm3]
        refine sw_pure (v := .bool false) (fun W => rfl) rfl ?_
        simp only [nm0, nm1, nm2, nm3]
        refine sw_pure (v := .bool false) (fun W => rfl) rfl ?_
        simp only [nm0, nm1, nm2, nm3]
        refine sw_nil ?_
        go_wp2_with fail
        exact leaves_marks (w0 := w) (s := 2) rfl rfl (fun W hb => ⟨ret_bool HF.out.symm, hb⟩) Ds _ hMk hM.below
      · have HF := Lib.hid (show bracB l = false by rw [HBR.out, hALL, eM, decide_eq_false e8, decide_eq_false e7]; rfl)
        go_upto_region 18 with fail
        refine sw_lit ?_
        refine sw_pure (v := .pointer (some ⟨b5, 0, none⟩)) (fun W => run_index_of rfl rfl rfl (ix_Ar3 b5 0 (by decide) _)) rfl ?_
        simp only [nm0, nm1, nm2, nm3]
        refine sw_val (v := .int .i64 (m0 : Int)) (run_load_cell rfl rfl (hM.get 0 rfl) rfl cellHI) rfl ?_
        simp only [nm0, nm1, nm2, nm3]
        refine sw_pure (v := .pointer (some ⟨b5, 1, none⟩)) (fun W => run_index_of rfl rfl rfl (ix_Ar3 b5 1 (by decide) _)) rfl ?_
        simp only [nm0, nm1, nm2, nm3]
        refine sw_val (v := .int .i64 (m1 : Int)) (run_load_cell rfl rfl (hM.get 0 rfl) rfl cellHI) rfl ?_
        simp only [nm0, nm1, nm2, nm3]
        refine sw_pure (v := .int .i64 (M : Int)) (fun W => run_bin_of rfl rfl rfl (by go_simp)) rfl ?_
        simp only [nm0, nm1, nm2, nm3]
        refine sw_pure (v := .int .i64 (M : Int)) (fun W => rfl) rfl ?_
        simp only [nm0, nm1, nm2, nm3]
        refine sw_nil ?_
        go_upto_region 19 with fail
        refine sw_lit ?_
        refine sw_pure (v := .pointer (some ⟨b5, 2, none⟩)) (fun W => run_index_of rfl rfl rfl (ix_Ar3 b5 2 (by decide) _)) rfl ?_
        simp only [nm0, nm1, nm2, nm3]
        refine sw_val (v := .int .i64 0) (run_load_cell rfl rfl (hM.get 0 rfl) rfl cellHI) rfl ?_
        simp only [nm0, nm1, nm2, nm3]
        refine sw_pure (v := .bool true) (fun W => run_bin_of rfl rfl rfl (by go_simp)) rfl ?_
        simp only [nm0, nm1, nm2, nm3]
        refine sw_pure (v := .bool true) (fun W => rfl) rfl ?_
        simp only [nm0, nm1, nm2, nm3]
        refine sw_pure (v := .int .i64 (M : Int)) (fun W => rfl) rfl ?_
        simp only [nm0, nm1, nm2, nm3]
        refine sw_pure (v := .bool false) (fun W => run_bin_of rfl rfl rfl (by go_simp)) rfl ?_
        simp only [nm0, nm1, nm2, nm3]
        refine sw_pure (v := .bool false) (fun W => rfl) rfl ?_
        simp only [nm0, nm1, nm2, nm3]
        refine sw_skip rfl ?_
        simp only [nm0, nm1, nm2, nm3]
        refine sw_skip rfl ?_
        simp only [nm0, nm1, nm2, nm3]
        refine sw_skip rfl ?_
        simp only [nm0, nm1, nm2, nm3]
        refine sw_pure (v := .bool false) (fun W => rfl) rfl ?_
        simp only [nm0, nm1, nm2, nm3]
        refine sw_pure (v := .bool false) (fun W => rfl) rfl ?_
        simp only [nm0, nm1, nm2, nm3]
        refine sw_pure (v := .int .i64 (M : Int)) (fun W => rfl) rfl ?_
        simp only [nm0, nm1, nm2, nm3]
        refine sw_pure (v := .bool false) (fun W => run_bin_of rfl rfl rfl (by go_simp)) rfl ?_
        simp only [nm0, nm1, nm2, nm3]
        refine sw_pure (v := .bool false) (fun W => rfl) rfl ?_
        simp only [nm0, nm1, nm2, nm3]
        refine sw_skip rfl ?_
        simp only [nm0, nm1, nm2, nm3]
        refine sw_skip rfl ?_
        simp only [nm0, nm1, nm2, nm3]
        refine sw_skip rfl ?_
        simp only [nm0, nm1, nm2, nm3]
        refine sw_pure (v := .bool false) (fun W => rfl) rfl ?_
        simp only [nm0, nm1, nm2, nm3]
        refine sw_pure (v := .bool false) (fun W => rfl) rfl ?_
        simp only [nm0, nm1, nm2, nm3]
        refine sw_pure (v := .bool false) (fun W => rfl) rfl ?_
        simp only [nm0, nm1, nm2, nm3]
        refine sw_pure (v := .bool false) (fun W => rfl) rfl ?_
        simp only [nm0, nm1, nm2, nm3]
        refine sw_nil ?_
        go_wp2_with fail
        exact leaves_marks (w0 := w) (s := 2) rfl rfl (fun W hb => ⟨ret_bool HF.out.symm, hb⟩) Ds _ hMk hM.below

end Go.Proofs.YtdnkpclpcelbaaaDoor
