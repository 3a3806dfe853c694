/- host (layer 27): Shown; four numbers, by the program and by the reference. -/
import Derived.Test.YtdnkpclpcelbaaaDoorHosK
import Derived.Test.YtdnkpclpcelbaaaDoorHosA
import Derived.Test.YtdnkpclpcelbaaaDoorShoK
namespace Go.Proofs.YtdnkpclpcelbaaaDoor
set_option maxRecDepth 20000
set_option linter.unusedSimpArgs false
set_option linter.unusedVariables false
open Go.RowKit Go.Lib Go.Shelf Go.Sort
attribute [local go_sem] Oper.semAt_some
theorem htext_ne {a b : ByteArray} (h : ¬ a = b) : (a.toList == b.toList) = false := by
  rw [ByteArray.toList_eq, ByteArray.toList_eq, beq_eq_false_iff_ne]
  intro e
  apply h
  exact ByteArray.ext (Array.toList_inj.1 e)
theorem nD5 (u : Nat) (h : u < 100000) : Lib.nDigits u ≤ 5 := by
  by_cases h1 : u < 10
  · rw [Lib.nDigits_small h1]; decide
  rw [Lib.nDigits_big h1]
  by_cases h2 : u / 10 < 10
  · rw [Lib.nDigits_small h2]; decide
  rw [Lib.nDigits_big h2]
  by_cases h3 : u / 10 / 10 < 10
  · rw [Lib.nDigits_small h3]; decide
  rw [Lib.nDigits_big h3]
  by_cases h4 : u / 10 / 10 / 10 < 10
  · rw [Lib.nDigits_small h4]; decide
  rw [Lib.nDigits_big h4, Lib.nDigits_small (by omega)]
  decide
theorem show_few (n : Int) (h0 : 0 ≤ n) (h1 : n < 100000) : (showB n).size ≤ 5 := by
  rw [show_size, Lib.itoa, if_neg (by omega), Lib.decDigits_length]
  exact nD5 _ (by omega)
theorem numI_of {s : ByteArray} {lo hi n : Int} (h1 : lo ≤ n) (h2 : n ≤ hi) (hs : showB n = s) (h3 : -9007199254740991 ≤ n) (h4 : n ≤ 9007199254740991) : numI s lo hi = (n, true) := by
  have h := show_scan n
  rw [if_pos ⟨h3, h4⟩, hs] at h
  unfold numI
  rw [h]
  exact if_pos ⟨rfl, rfl, h1, h2⟩
theorem numI_yes {s : ByteArray} {lo hi : Int} (h : (numI s lo hi).2 = true) : lo ≤ (numI s lo hi).1 ∧ (numI s lo hi).1 ≤ hi ∧ showB (numI s lo hi).1 = s := by
  unfold numI at h ⊢
  split at h
  · rename_i hc
    rw [if_pos hc]
    obtain ⟨e0, e1, e2, e3⟩ := hc
    refine ⟨e2, e3, ?_⟩
    obtain ⟨-, -, e4⟩ := scan_show s (scanI s 0).1 (scanI s 0).2.1 (Prod.ext rfl (Prod.ext rfl e0))
    rw [e1, Int.toNat_natCast, List.take_of_length_le (by rw [← Lib.size_eq]; exact Nat.le_refl _)] at e4
    unfold showB
    rw [e4]
  · cases h
theorem numI_no {s : ByteArray} {lo hi : Int} (h : (numI s lo hi).2 = false) : numI s lo hi = (0, false) := by
  unfold numI at h ⊢
  split at h
  · cases h
  · rename_i hc
    rw [if_neg hc]
def shownV (s : ByteArray) (lo hi : Int) : Int := if (numI s lo hi).2 then (numI s lo hi).1 else -1
set_option maxHeartbeats 4000000 in
theorem shown_any (s : ByteArray) (lo hi : Nat) (hlh : lo ≤ hi) (hhi : hi ≤ 65535) (hs : s.size ≤ 1000) (w : World) :
    Calls Tryd.prog 32 #[.string s, .int .i64 (lo : Int), .int .i64 (hi : Int)] w fun e w' => e = .returned (.int .i64 (shownV s lo hi)) ∧ Below w.heap.size w w' := by
  by_cases h5 : 5 < s.size
  · have hn : (numI s lo hi).2 = false := by
      cases h : (numI s lo hi).2 with
      | false => rfl
      | true =>
        obtain ⟨h1, h2, h3⟩ := numI_yes h
        have := show_few (numI s lo hi).1 (by omega) (by omega)
        rw [h3] at this
        omega
    have HV := Lib.hid (show shownV s lo hi = -1 by unfold shownV; rw [hn]; rfl)
    have p1 : (lo : Int) ≤ (hi : Int) := by omega
    have p2 : (5 : Int) < (s.size : Int) := by omega
    clear hn
    go_enter Tryd.func32, Tryd.ntmps32
    go_wp2_with fail
    go_loopw [7] (fun p wr => wr = w ∧ p = .int .i64 (lo : Int)) (fun _ _ => 0)
    case atStart => exact ⟨rfl, rfl⟩
    case round =>
      obtain ⟨rfl, rfl⟩ := hrel
      go_wp2_with fail
      go_ret
      exact ⟨ret_int HV.out.symm, Below.refl _ _⟩
  · have p2 : ¬ (5 : Int) < (s.size : Int) := by omega
    have KS := Lib.hid (fun (n : Int) w h0 h1 => rshow_any n w h0 h1)
    go_enter Tryd.func32, Tryd.ntmps32
    go_wp2_with fail
    go_loopw [7] (fun p wr => ∃ n : Nat, p = .int .i64 (n : Int) ∧ lo ≤ n ∧ n ≤ hi + 1 ∧ (∀ m : Nat, lo ≤ m → m < n → showB m ≠ s) ∧ Below w.heap.size w wr) (fun p _ => hi + 1 - (Go.RowKit.intOf p).toNat)
    case atStart => exact ⟨lo, rfl, Nat.le_refl _, by omega, fun m h1 h2 => by omega, Below.refl _ _⟩
    case round =>
      obtain ⟨n, rfl, hn1, hn2, hno, hbw⟩ := hrel
      by_cases hlt : n ≤ hi
      · have p1 : (n : Int) ≤ (hi : Int) := by omega
        have w1 : IntKind.i64.wrap ((n : Int) + 1) = (n : Int) + 1 := IntWalk.i64_in _ (by omega)
        have HNO := Lib.hid hno
        have HBW := Lib.hid hbw
        have KS1 := Lib.hid (KS.out n wr (by omega) (by omega))
        obtain ⟨X, eX⟩ : ∃ X : ByteArray, showB (n : Int) = X := ⟨_, rfl⟩
        rw [eX] at KS1
        clear hno hbw
        by_cases he : X = s
        · have HV := Lib.hid (show (n : Int) = shownV s lo hi by
            unfold shownV
            rw [numI_of (n := (n : Int)) (by omega) (by omega) (eX.trans he) (by omega) (by omega)]
            rfl)
          subst he
          clear eX
          go_wp2_with fail
          refine KS1.out.mono ?_
          rintro e w2 ⟨rfl, hb⟩
          have HB2 := Lib.hid (gr_step HBW.out hb)
          clear hb
          go_wp2_with fail
          go_ret
          exact ⟨ret_int HV.out, HB2.out⟩
        · have q : (X.toList == s.toList) = false := htext_ne he
          have HNE := Lib.hid (show showB (n : Int) ≠ s by rw [eX]; exact he)
          clear eX he
          go_wp2_with fail
          refine KS1.out.mono ?_
          rintro e w2 ⟨rfl, hb⟩
          have HB2 := Lib.hid (gr_step HBW.out hb)
          clear hb
          go_wp2_with fail
          go_roundw
          case rel => exact ⟨n + 1, rfl, by omega, by omega, fun m h1 h2 => (by
            by_cases e : m = n
            · rw [e]; exact HNE.out
            · exact HNO.out m h1 (by omega)), HB2.out⟩
          case measure => simp [Go.RowKit.intOf]; omega
      · have p1 : ¬ (n : Int) ≤ (hi : Int) := by omega
        have HV := Lib.hid (show shownV s lo hi = -1 by
          unfold shownV
          cases h : (numI s lo hi).2 with
          | false => rfl
          | true =>
            obtain ⟨h1, h2, h3⟩ := numI_yes h
            exact absurd (by rw [Int.toNat_of_nonneg (by omega)]; exact h3) (hno (numI s lo hi).1.toNat (by omega) (by omega)))
        have HBW := Lib.hid hbw
        clear hno hbw
        go_wp2_with fail
        go_ret
        exact ⟨ret_int HV.out.symm, HBW.out⟩
def okN (P : List UInt8) : Bool := (numI ⟨P.toArray⟩ 0 255).2
def fourB (l : List UInt8) : Bool := decide ((prt 46 [] l).length = 4) && (prt 46 [] l).all okN
/-- Where the library's MaxLen lies. -/
abbrev gMaxH : Nat := Tryd.lays146_ren.g 1
theorem splitS_any (l sep : List UInt8) (hn : sep ≠ []) (hl : l.length ≤ 1000) (m : Int) (w : World) (hm : w.cell? ⟨gMaxH, 0, none⟩ = some (.int .i64 m)) :
    Calls Tryd.prog 66 #[.string ⟨l.toArray⟩, .string ⟨sep.toArray⟩] w fun e w' => ∃ g cur, e = .returned (.slice (some ⟨g, 0, none⟩) (Lib.split l sep).length (Lib.split l sep).length) ∧ w.heap.size ≤ g ∧ w'.heap[g]? = some (.cells cur StT (0, 0)) ∧ (∀ (k : Nat) (P : List UInt8), (Lib.split l sep)[k]? = some P → cur[k]? = some (Value.string ⟨P.toArray⟩)) ∧ Below w.heap.size w w' := by
  have h1 : 1 ≤ (⟨sep.toArray⟩ : ByteArray).size := by rw [ba_size]; exact List.length_pos_iff.2 hn
  have h := Tryd.strings_Split ⟨l.toArray⟩ ⟨sep.toArray⟩ m w (by rw [ba_size]; omega) hm h1
  have hlen := Lib.splitB_all ⟨sep.toArray⟩ h1 0 _ ⟨l.toArray⟩ rfl
  have hx := splitB_list ⟨l.toArray⟩ ⟨sep.toArray⟩
  rw [show (⟨l.toArray⟩ : ByteArray).data.toList = l from rfl, show (⟨sep.toArray⟩ : ByteArray).data.toList = sep from rfl] at hx
  rw [hx, List.length_map] at hlen
  rw [← hlen, hx] at h
  refine h.mono ?_
  rintro e w' ⟨rfl, rfl⟩
  refine ⟨w.heap.size, _, rfl, Nat.le_refl _, World.alloc_heap_new w _, fun k P hk => ?_, (Below.refl _ w).alloc (Nat.le_refl _) _⟩
  simp [hk]
theorem split_len (sep : List UInt8) (hn : sep ≠ []) (l : List UInt8) : (Lib.split l sep).length ≤ l.length + 1 := by
  have h1 : 1 ≤ (⟨sep.toArray⟩ : ByteArray).size := by rw [ba_size]; exact List.length_pos_iff.2 hn
  have hlen := Lib.splitB_all ⟨sep.toArray⟩ h1 0 _ ⟨l.toArray⟩ rfl
  have hx := splitB_list ⟨l.toArray⟩ ⟨sep.toArray⟩
  rw [show (⟨l.toArray⟩ : ByteArray).data.toList = l from rfl, show (⟨sep.toArray⟩ : ByteArray).data.toList = sep from rfl] at hx
  rw [hx, List.length_map] at hlen
  have h2 := Lib.countB_le ⟨sep.toArray⟩ h1 _ ⟨l.toArray⟩ (Nat.le_refl _)
  rw [ba_size] at h2
  omega
set_option maxHeartbeats 4000000 in
theorem isFour_any (l : List UInt8) (hl : l.length ≤ 1000) (m : Int) (w : World) (hm : w.cell? ⟨gMaxH, 0, none⟩ = some (.int .i64 m)) :
    Calls Tryd.prog 34 #[.string ⟨l.toArray⟩] w fun e w' => e = .returned (.bool (fourB l)) ∧ Below w.heap.size w w' := by
  have KC := Lib.hid (splitS_any l [46] (by simp) hl m w hm)
  have hsp := split_prt 46 l.length l (Nat.le_refl _)
  rw [hsp] at KC
  have hpl := prt_len 46 l []
  obtain ⟨S, eS⟩ : ∃ S : ByteArray, (⟨l.toArray⟩ : ByteArray) = S := ⟨_, rfl⟩
  rw [eS] at KC ⊢
  clear eS hm hsp
  go_enter Tryd.func34, Tryd.ntmps34
  go_wp2_with fail
  refine KC.out.mono ?_
  rintro e w1 ⟨g, cur, rfl, hg, hcur, hat, hbw⟩
  obtain ⟨n, hn⟩ : ∃ n, (prt 46 [] l).length = n := ⟨_, rfl⟩
  rw [hn] at hpl ⊢
  have HBW := Lib.hid hbw
  have HAT := Lib.hid hat
  have HN := Lib.hid hn
  have HCUR := Lib.hid hcur
  have hg1 : g < w1.heap.size := (Array.getElem?_eq_some_iff.1 hcur).1
  clear hbw hat hn KC hcur
  go_wp2_with fail
  go_loopw [12] (fun p wr => ∃ k : Nat, p = .int .i64 (k : Int) ∧ k ≤ n ∧ ((prt 46 [] l).take k).all okN = true ∧ Below w1.heap.size w1 wr)
    (fun p _ => n - (Go.RowKit.intOf p).toNat)
  case atStart => exact ⟨0, rfl, Nat.zero_le _, rfl, Below.refl _ _⟩
  case round =>
    obtain ⟨k, rfl, hk, hall, hb1⟩ := hrel
    by_cases hlt : k < n
    · have p1 : (k : Int) < (n : Int) := by omega
      have w1' : IntKind.i64.wrap ((k : Int) + 1) = (k : Int) + 1 := IntWalk.i64_in _ (by omega)
      have hkl : k < (prt 46 [] l).length := by rw [HN.out]; exact hlt
      obtain ⟨x, hx⟩ : ∃ x, (prt 46 [] l)[k]? = some x := ⟨_, List.getElem?_eq_getElem hkl⟩
      have hcx := HAT.out k x hx
      have hxm : x ∈ prt 46 [] l := List.mem_of_getElem? hx
      have hxl := prt_mem 46 l [] x hxm
      simp only [List.length_nil, Nat.zero_add] at hxl
      have htk : (prt 46 [] l).take (k + 1) = (prt 46 [] l).take k ++ [x] := by rw [List.take_add_one, hx]; rfl
      have y : wr.cell? ⟨g, k, none⟩ = some (.string ⟨x.toArray⟩) := by
        rw [(bcell hb1).1 g k hg1, Lib.cell_of_heap HCUR.out]
        exact hcx
      have hB1 : okN x = false → RowKit.Hid (fourB l = false) := fun h => Lib.hid (by
        unfold fourB
        rw [show (prt 46 [] l).all okN = false by
          cases h2 : (prt 46 [] l).all okN with
          | false => rfl
          | true => rw [List.all_eq_true.1 h2 x hxm] at h; cases h]
        simp)
      have hA1 : okN x = true → ((prt 46 [] l).take (k + 1)).all okN = true := fun h => by rw [htk, List.all_append, hall]; simp [h]
      have hX : (⟨x.toArray⟩ : ByteArray).size ≤ 140737488355328 := by rw [ba_size]; omega
      have hok : okN x = (numI ⟨x.toArray⟩ 0 255).2 := rfl
      have KN := Lib.hid (fun w => number_any ⟨x.toArray⟩ 0 255 w hX)
      obtain ⟨X, eX⟩ : ∃ X : ByteArray, (⟨x.toArray⟩ : ByteArray) = X := ⟨_, rfl⟩
      rw [eX] at y KN hok
      obtain ⟨⟨z, b⟩, hzb⟩ : ∃ r, numI X 0 255 = r := ⟨_, rfl⟩
      rw [hzb] at KN hok
      simp only at KN hok
      have HB1 := Lib.hid hb1
      clear hcx hx htk hxm hkl hall eX hzb hX hb1
      cases b with
      | false =>
        have HF := hB1 hok
        clear hB1 hA1 hok
        go_wp2_with fail
        refine (KN.out wr).mono ?_
        rintro e w3 ⟨rfl, hb3⟩
        have HB3 := Lib.hid (HBW.out.trans ((HB1.out.trans (hb3.mono HB1.out.size)).mono HBW.out.size))
        clear hb3
        go_wp2_with fail
        go_ret
        exact ⟨ret_bool HF.out.symm, HB3.out⟩
      | true =>
        have HA := Lib.hid (hA1 hok)
        clear hB1 hA1 hok
        go_wp2_with fail
        refine (KN.out wr).mono ?_
        rintro e w3 ⟨rfl, hb3⟩
        have HB3 := Lib.hid (HB1.out.trans (hb3.mono HB1.out.size))
        clear hb3
        go_wp2_with fail
        go_roundw
        case rel => exact ⟨k + 1, rfl, hlt, HA.out, HB3.out⟩
        case measure => simp [Go.RowKit.intOf]; omega
    · have hkn : k = n := by omega
      have p1 : ¬ (k : Int) < (n : Int) := by omega
      have HW := Lib.hid (show decide (n = 4) = fourB l by
        unfold fourB
        rw [hkn, ← HN.out, List.take_length] at hall
        rw [hall, HN.out, Bool.and_true])
      have q : ((n : Int) == 4) = decide (n = 4) := by
        by_cases e : n = 4
        · rw [decide_eq_true e]; simp; omega
        · rw [decide_eq_false e]; simp; omega
      have q2 : decide ((n : Int) = 4) = decide (n = 4) := by
        by_cases e : n = 4
        · rw [decide_eq_true e, decide_eq_true (by omega)]
        · rw [decide_eq_false e, decide_eq_false (by omega)]
      rw [HW.out] at q q2
      obtain ⟨F, eF⟩ : ∃ F, fourB l = F := ⟨_, rfl⟩
      rw [eF] at q q2
      have EF := Lib.hid eF
      have HB1 := Lib.hid (HBW.out.trans (hb1.mono HBW.out.size))
      clear hall hkn hb1 eF
      go_wp2_with fail
      go_ret
      exact ⟨ret_bool EF.out.symm, HB1.out⟩
set_option maxHeartbeats 4000000 in
theorem rfour_any (l : List UInt8) (hl : l.length ≤ 1000) (w : World) :
    Calls Tryd.prog 37 #[.string ⟨l.toArray⟩] w fun e w' => e = .returned (.bool (fourB l)) ∧ Below w.heap.size w w' := by
  have KC := Lib.hid (cutL_any l 46 w hl)
  have hpl := prt_len 46 l []
  obtain ⟨S, eS⟩ : ∃ S : ByteArray, (⟨l.toArray⟩ : ByteArray) = S := ⟨_, rfl⟩
  rw [eS] at KC ⊢
  clear eS
  go_enter Tryd.func37, Tryd.ntmps37
  go_wp2_with fail
  refine KC.out.mono ?_
  rintro e w1 ⟨v, rfl, hown, hbw⟩
  obtain ⟨n, hn⟩ : ∃ n, (prt 46 [] l).length = n := ⟨_, rfl⟩
  have hpos := prt_pos 46 l []
  obtain ⟨g, cap, cur, rfl, hg, hcur, hat⟩ := hrow_at hown hpos
  rw [hn] at hpos hpl ⊢
  have HBW := Lib.hid hbw
  have HAT := Lib.hid hat
  have HN := Lib.hid hn
  have HCUR := Lib.hid hcur
  clear hown hbw hat hn KC hcur
  by_cases h4 : n = 4
  · subst h4
    go_wp2_with fail
    go_loopw [4] (fun p wr => ∃ k : Nat, p = .int .i64 (k : Int) ∧ k ≤ 4 ∧ ((prt 46 [] l).take k).all okN = true ∧ Below w1.heap.size w1 wr)
      (fun p _ => 4 - (Go.RowKit.intOf p).toNat)
    case atStart => exact ⟨0, rfl, Nat.zero_le _, rfl, Below.refl _ _⟩
    case round =>
      obtain ⟨k, rfl, hk, hall, hb1⟩ := hrel
      by_cases hlt : k < 4
      · have p1 : (k : Int) < 4 := by omega
        have w1' : IntKind.i64.wrap ((k : Int) + 1) = (k : Int) + 1 := IntWalk.i64_in _ (by omega)
        have hkl : k < (prt 46 [] l).length := by rw [HN.out]; exact hlt
        obtain ⟨x, hx⟩ : ∃ x, (prt 46 [] l)[k]? = some x := ⟨_, List.getElem?_eq_getElem hkl⟩
        have hcx := HAT.out k x hx
        have hxm : x ∈ prt 46 [] l := List.mem_of_getElem? hx
        have hxl := prt_mem 46 l [] x hxm
        simp only [List.length_nil, Nat.zero_add] at hxl
        have htk : (prt 46 [] l).take (k + 1) = (prt 46 [] l).take k ++ [x] := by rw [List.take_add_one, hx]; rfl
        have y : wr.cell? ⟨g, k, none⟩ = some (.string ⟨x.toArray⟩) := by
          rw [(bcell hb1).1 g k hg, Lib.cell_of_heap HCUR.out]
          exact hcx
        have hB1 : okN x = false → RowKit.Hid (fourB l = false) := fun h => Lib.hid (by
          unfold fourB
          rw [show (prt 46 [] l).all okN = false by
            cases h2 : (prt 46 [] l).all okN with
            | false => rfl
            | true => rw [List.all_eq_true.1 h2 x hxm] at h; cases h]
          simp)
        have hA1 : okN x = true → ((prt 46 [] l).take (k + 1)).all okN = true := fun h => by rw [htk, List.all_append, hall]; simp [h]
        have hX : (⟨x.toArray⟩ : ByteArray).size ≤ 1000 := by rw [ba_size]; omega
        have hok : okN x = (numI ⟨x.toArray⟩ 0 255).2 := rfl
        have KN := Lib.hid (fun w => shown_any ⟨x.toArray⟩ 0 255 (by decide) (by decide) hX w)
        have hsv : shownV ⟨x.toArray⟩ 0 255 < 0 ↔ okN x = false := by
          unfold shownV okN
          cases h : (numI ⟨x.toArray⟩ 0 255).2 with
          | false => simp
          | true => have := (numI_yes h).1; simp; omega
        obtain ⟨X, eX⟩ : ∃ X : ByteArray, (⟨x.toArray⟩ : ByteArray) = X := ⟨_, rfl⟩
        rw [eX] at y KN hsv
        have KN : RowKit.Hid (∀ w, Calls Tryd.prog 32 #[.string X, .int .i64 0, .int .i64 255] w fun e w' => e = .returned (.int .i64 (shownV X 0 255)) ∧ Below w.heap.size w w') := KN
        obtain ⟨z, ez⟩ : ∃ z, shownV X 0 255 = z := ⟨_, rfl⟩
        rw [ez] at KN hsv
        have HB1 := Lib.hid hb1
        clear hcx hx htk hxm hkl hall eX hX hb1 ez hok
        by_cases hz : z < 0
        · have HF := hB1 (hsv.1 hz)
          clear hB1 hA1 hsv
          go_wp2_with fail
          refine (KN.out wr).mono ?_
          rintro e w3 ⟨rfl, hb3⟩
          have HB3 := Lib.hid (HBW.out.trans ((HB1.out.trans (hb3.mono HB1.out.size)).mono HBW.out.size))
          clear hb3
          go_wp2_with fail
          go_ret
          exact ⟨ret_bool HF.out.symm, HB3.out⟩
        · have HA := Lib.hid (hA1 (by
            cases h : okN x with
            | true => rfl
            | false => exact absurd (hsv.2 h) hz))
          clear hB1 hA1 hsv
          go_wp2_with fail
          refine (KN.out wr).mono ?_
          rintro e w3 ⟨rfl, hb3⟩
          have HB3 := Lib.hid (HB1.out.trans (hb3.mono HB1.out.size))
          clear hb3
          go_wp2_with fail
          go_roundw
          case rel => exact ⟨k + 1, rfl, hlt, HA.out, HB3.out⟩
          case measure => simp [Go.RowKit.intOf]; omega
      · have hkn : k = 4 := by omega
        have p1 : ¬ (k : Int) < 4 := by omega
        have HW := Lib.hid (show true = fourB l by
          unfold fourB
          rw [hkn, ← HN.out, List.take_length] at hall
          rw [hall, HN.out]
          rfl)
        have HB1 := Lib.hid (HBW.out.trans (hb1.mono HBW.out.size))
        clear hall hkn hb1
        go_wp2_with fail
        go_ret
        exact ⟨ret_bool HW.out, HB1.out⟩
  · have q : ((n : Int) == 4) = false := by simp; omega
    have q1 : ¬ (n : Int) = 4 := by omega
    have q2 : ((n : Int) != 4) = true := by simp; omega
    have HW := Lib.hid (show false = fourB l by
      unfold fourB
      rw [HN.out, decide_eq_false h4]
      rfl)
    go_wp2_with fail
    go_ret
    exact ⟨ret_bool HW.out, HBW.out⟩
end Go.Proofs.YtdnkpclpcelbaaaDoor
