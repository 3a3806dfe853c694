/- host (layer 27): the reference's brackets. -/
import Derived.Test.YtdnkpclpcelbaaaDoorHosK
import Derived.Test.YtdnkpclpcelbaaaDoorHosP
import Derived.Test.YtdnkpclpcelbaaaDoorLwr
namespace Go.Proofs.YtdnkpclpcelbaaaDoor
set_option maxRecDepth 20000
set_option linter.unusedSimpArgs false
set_option linter.unusedVariables false
open Go.RowKit Go.Lib Go.Shelf Go.Sort
attribute [local go_sem] Oper.semAt_some
def innerR (l : List UInt8) : List UInt8 := (l.drop 1).take (l.length - 2)
def bracR (l : List UInt8) : Bool := decide (4 ≤ l.length) && ((l.getD 0 0).toNat == 91 && ((l.getD (l.length - 1) 0).toNat == 93 && brR (innerR l)))
theorem inner_extR (l : List UInt8) (h : 2 ≤ l.length) : (⟨l.toArray⟩ : ByteArray).extract 1 (l.length - 1) = ⟨(innerR l).toArray⟩ := by
  rw [Lib.extract_eq]
  unfold innerR
  rw [show l.length - 1 - 1 = l.length - 2 by omega]
theorem cls_hex2 (x : UInt8) : hex x.toNat = (cls x.toNat != 0 && decide (cls x.toNat ≤ 2)) := cls_hex ⟨x.toNat, UInt8.toNat_lt x⟩
theorem mst_two {s : ByteArray} : ∀ k, mst s k ≤ 2 ↔ ∀ i, i < k → cls (gb s i) ≤ 2
  | 0 => by simp [mst]
  | k + 1 => by
    rw [mst, Nat.max_le, mst_two k]
    constructor
    · rintro ⟨h1, h2⟩ i hi
      rcases Nat.lt_or_eq_of_le (Nat.le_of_lt_succ hi) with h | rfl
      · exact h1 i h
      · exact h2
    · intro h
      exact ⟨fun i hi => h i (by omega), h k (by omega)⟩
theorem gb_list2 (x : List UInt8) (i : Nat) (hi : i < x.length) : gb (⟨x.toArray⟩ : ByteArray) i = x[i].toNat := by
  unfold gb
  rw [show (⟨x.toArray⟩ : ByteArray).data.toList = x from rfl, List.getD_eq_getElem?_getD, List.getElem?_eq_getElem hi]
  rfl
theorem most_hex (x : List UInt8) : decide (2 < most ⟨x.toArray⟩) = !(x.all fun c => hex c.toNat) := by
  unfold most
  rw [allG_cls]
  cases hL : labL x with
  | false =>
    have : (x.all fun c => hex c.toNat) = false := by
      cases h : (x.all fun c => hex c.toNat) with
      | false => rfl
      | true =>
        have h2 : labL x = true := List.all_eq_true.2 fun c hc => by
          have := List.all_eq_true.1 h c hc
          rw [cls_hex2, Bool.and_eq_true] at this
          rw [cls_lab2]
          exact this.1
        rw [hL] at h2
        cases h2
    rw [this]
    rfl
  | true =>
    have hz := ba_size x
    have h1 : mst (⟨x.toArray⟩ : ByteArray) (⟨x.toArray⟩ : ByteArray).size ≤ 2 ↔ (x.all fun c => hex c.toNat) = true := by
      rw [mst_two, hz, List.all_eq_true]
      constructor
      · intro hh c hc
        obtain ⟨i, hi, rfl⟩ := List.getElem_of_mem hc
        have h2 := hh i hi
        rw [gb_list2 x i hi] at h2
        have h3 : lab x[i].toNat = true := List.all_eq_true.1 hL _ (List.getElem_mem hi)
        rw [cls_lab2] at h3
        rw [cls_hex2, h3, decide_eq_true h2]
        rfl
      · intro hh i hi
        rw [gb_list2 x i hi]
        have h3 := hh _ (List.getElem_mem hi)
        rw [cls_hex2, Bool.and_eq_true] at h3
        simpa using h3.2
    rw [if_pos rfl]
    cases hd : (x.all fun c => hex c.toNat) with
    | true => rw [hd] at h1; have := h1.2 rfl; simp; omega
    | false =>
      rw [hd] at h1
      have : ¬ mst (⟨x.toArray⟩ : ByteArray) (⟨x.toArray⟩ : ByteArray).size ≤ 2 := fun h => by cases h1.1 h
      simp; omega
theorem two_no {m : Nat} (h : decide (2 < m) = false) : ¬ (2 : Int) < (m : Int) := by have := of_decide_eq_false h; omega
theorem two_yes {m : Nat} (h : decide (2 < m) = true) : (2 : Int) < (m : Int) := by have := of_decide_eq_true h; omega
theorem dbl_drop {t : List UInt8} {k : Nat} (h : k + 1 < t.length) : dbl (t.drop k) = (if t[k]'(by omega) = 58 ∧ t[k + 1] = 58 then 1 else 0) + dbl (t.drop (k + 1)) := by
  rw [List.drop_eq_getElem_cons (i := k) (by omega), List.drop_eq_getElem_cons (i := k + 1) h, dbl_two]
theorem dbl_last {t : List UInt8} {k : Nat} (h : t.length ≤ k + 1) : dbl (t.drop k) = 0 := by
  have hz : (t.drop k).length ≤ 1 := by rw [List.length_drop]; omega
  match ht : t.drop k, hz with
  | [], _ => rfl
  | [a], _ => exact dbl_one a
theorem dbl_le : ∀ t : List UInt8, dbl t ≤ t.length
  | [] => Nat.zero_le _
  | [a] => by rw [dbl_one]; exact Nat.zero_le _
  | a :: c :: r => by
    have := dbl_le (c :: r)
    rw [dbl_two]
    simp only [List.length_cons] at this ⊢
    split <;> omega
theorem txt_two (X : List UInt8) (h : X ≠ [58, 58]) : ((⟨X.toArray⟩ : ByteArray).toList == [58, 58]) = false := by
  rw [ByteArray.toList_eq, beq_eq_false_iff_ne]
  exact h
set_option maxRecDepth 100000 in
set_option maxHeartbeats 16000000 in
theorem rbrackets_any (l : List UInt8) (hl : l.length ≤ 1000) (w : World) :
    Calls Tryd.prog 38 #[.string ⟨l.toArray⟩] w fun e w' => e = .returned (.bool (bracR l)) ∧ Below w.heap.size w w' := by
  have hzs := ba_size l
  have hix := inner_extR l
  have hat0 := ba_at l
  obtain ⟨S, eS⟩ : ∃ S : ByteArray, (⟨l.toArray⟩ : ByteArray) = S := ⟨_, rfl⟩
  rw [eS] at hzs hix ⊢
  rw [eS] at hat0
  clear eS
  by_cases c1 : l.length < 4
  · have HF := Lib.hid (show bracR l = false by unfold bracR; rw [decide_eq_false (by omega)]; rfl)
    have q1 : (S.size : Int) < 4 := by omega
    clear hzs hix hat0
    go_enter Tryd.func38, Tryd.ntmps38
    go_upto_region 1 with fail
    refine sw_lit ?_
    refine sw_pure (v := .string S) (fun W => rfl) rfl ?_
    simp only [nm0, nm1, nm2, nm3]
    refine sw_pure (v := .int .i64 (S.size : Int)) (fun W => by go_simp) rfl ?_
    simp only [nm0, nm1, nm2, nm3]
    refine sw_pure (v := .bool true) (fun W => run_bin_of rfl rfl rfl (by go_simp)) rfl ?_
    simp only [nm0, nm1, nm2, nm3]
    refine sw_pure (v := .bool true) (fun W => rfl) rfl ?_
    simp only [nm0, nm1, nm2, nm3]
    refine sw_skip rfl ?_
    simp only [nm0, nm1, nm2, nm3]
    refine sw_skip rfl ?_
    simp only [nm0, nm1, nm2, nm3]
    refine sw_skip rfl ?_
    simp only [nm0, nm1, nm2, nm3]
    refine sw_pure (v := .bool true) (fun W => rfl) rfl ?_
    simp only [nm0, nm1, nm2, nm3]
    refine sw_pure (v := .bool true) (fun W => rfl) rfl ?_
    simp only [nm0, nm1, nm2, nm3]
    refine sw_skip rfl ?_
    simp only [nm0, nm1, nm2, nm3]
    refine sw_skip rfl ?_
    simp only [nm0, nm1, nm2, nm3]
    refine sw_skip rfl ?_
    simp only [nm0, nm1, nm2, nm3]
    refine sw_skip rfl ?_
    simp only [nm0, nm1, nm2, nm3]
    refine sw_skip rfl ?_
    simp only [nm0, nm1, nm2, nm3]
    refine sw_skip rfl ?_
    simp only [nm0, nm1, nm2, nm3]
    refine sw_pure (v := .bool true) (fun W => rfl) rfl ?_
    simp only [nm0, nm1, nm2, nm3]
    refine sw_nil ?_
    go_wp2_with fail
    go_ret
    exact ⟨ret_bool HF.out.symm, Below.refl _ _⟩
  have q1 : ¬ (S.size : Int) < 4 := by omega
  obtain ⟨d0, hd0, ed0⟩ := hat0 0 (by omega)
  obtain ⟨d1, hd1, ed1⟩ := hat0 (l.length - 1) (by omega)
  have HB0 := Lib.hid (show bracR l = (d0.toNat == 91 && (d1.toNat == 93 && brR (innerR l))) by unfold bracR; rw [decide_eq_true (by omega), ← ed0, ← ed1]; rfl)
  rw [← hzs] at hd1
  have w1 : IntKind.i64.wrap ((S.size : Int) - 1) = ((S.size - 1 : Nat) : Int) := by rw [show ((S.size - 1 : Nat) : Int) = (S.size : Int) - 1 by omega]; exact IntWalk.i64_in _ (by omega)
  have hS1 : 0 < S.size := by omega
  have hix2 := hix (by omega)
  rw [← hzs] at hix2
  have HIX := Lib.hid hix2
  have HL := Lib.hid (show 4 ≤ S.size ∧ S.size ≤ 1000 ∧ S.size = l.length by omega)
  clear hzs hix hix2 hat0 ed0 ed1 c1
  by_cases c2 : d0.toNat = 91
  case neg =>
    have HF := Lib.hid (show bracR l = false by rw [HB0.out, show (d0.toNat == 91) = false by simpa using c2]; rfl)
    have q2 : ((d0.toNat : Int) == 91) = false := by simp; omega
    have q2' : ((d0.toNat : Int) != 91) = true := by simp; omega
    clear c2 w1
    go_enter Tryd.func38, Tryd.ntmps38
    go_upto_region 1 with fail
    refine sw_lit ?_
    refine sw_pure (v := .string S) (fun W => rfl) rfl ?_
    simp only [nm0, nm1, nm2, nm3]
    refine sw_pure (v := .int .i64 (S.size : Int)) (fun W => by go_simp) rfl ?_
    simp only [nm0, nm1, nm2, nm3]
    refine sw_pure (v := .bool false) (fun W => run_bin_of rfl rfl rfl (by go_simp)) rfl ?_
    simp only [nm0, nm1, nm2, nm3]
    refine sw_pure (v := .bool false) (fun W => rfl) rfl ?_
    simp only [nm0, nm1, nm2, nm3]
    refine sw_pure (v := .string S) (fun W => rfl) rfl ?_
    simp only [nm0, nm1, nm2, nm3]
    refine sw_pure (v := .int .u8 (d0.toNat : Int)) (fun W => run_idx_str (i := 0) (c := d0) W rfl rfl rfl Tryd.underlying9 hd0) rfl ?_
    simp only [nm0, nm1, nm2, nm3]
    refine sw_pure (v := .bool true) (fun W => run_bin_of rfl rfl rfl (by go_simp)) rfl ?_
    simp only [nm0, nm1, nm2, nm3]
    refine sw_pure (v := .bool true) (fun W => rfl) rfl ?_
    simp only [nm0, nm1, nm2, nm3]
    refine sw_pure (v := .bool true) (fun W => rfl) rfl ?_
    simp only [nm0, nm1, nm2, nm3]
    refine sw_skip rfl ?_
    simp only [nm0, nm1, nm2, nm3]
    refine sw_skip rfl ?_
    simp only [nm0, nm1, nm2, nm3]
    refine sw_skip rfl ?_
    simp only [nm0, nm1, nm2, nm3]
    refine sw_skip rfl ?_
    simp only [nm0, nm1, nm2, nm3]
    refine sw_skip rfl ?_
    simp only [nm0, nm1, nm2, nm3]
    refine sw_skip rfl ?_
    simp only [nm0, nm1, nm2, nm3]
    refine sw_pure (v := .bool true) (fun W => rfl) rfl ?_
    simp only [nm0, nm1, nm2, nm3]
    refine sw_nil ?_
    go_wp2_with fail
    go_ret
    exact ⟨ret_bool HF.out.symm, Below.refl _ _⟩
  have q2 : ((d0.toNat : Int) == 91) = true := by simp; omega
  have q2' : ((d0.toNat : Int) != 91) = false := by simp; omega
  by_cases c3 : d1.toNat = 93
  case neg =>
    have HF := Lib.hid (show bracR l = false by rw [HB0.out, show (d1.toNat == 93) = false by simpa using c3]; simp)
    have q3 : ((d1.toNat : Int) == 93) = false := by simp; omega
    have q3' : ((d1.toNat : Int) != 93) = true := by simp; omega
    clear c2 c3
    go_enter Tryd.func38, Tryd.ntmps38
    go_upto_region 1 with fail
    refine sw_lit ?_
    refine sw_pure (v := .string S) (fun W => rfl) rfl ?_
    simp only [nm0, nm1, nm2, nm3]
    refine sw_pure (v := .int .i64 (S.size : Int)) (fun W => by go_simp) rfl ?_
    simp only [nm0, nm1, nm2, nm3]
    refine sw_pure (v := .bool false) (fun W => run_bin_of rfl rfl rfl (by go_simp)) rfl ?_
    simp only [nm0, nm1, nm2, nm3]
    refine sw_pure (v := .bool false) (fun W => rfl) rfl ?_
    simp only [nm0, nm1, nm2, nm3]
    refine sw_pure (v := .string S) (fun W => rfl) rfl ?_
    simp only [nm0, nm1, nm2, nm3]
    refine sw_pure (v := .int .u8 (d0.toNat : Int)) (fun W => run_idx_str (i := 0) (c := d0) W rfl rfl rfl Tryd.underlying9 hd0) rfl ?_
    simp only [nm0, nm1, nm2, nm3]
    refine sw_pure (v := .bool false) (fun W => run_bin_of rfl rfl rfl (by go_simp)) rfl ?_
    simp only [nm0, nm1, nm2, nm3]
    refine sw_pure (v := .bool false) (fun W => rfl) rfl ?_
    simp only [nm0, nm1, nm2, nm3]
    refine sw_pure (v := .bool false) (fun W => rfl) rfl ?_
    simp only [nm0, nm1, nm2, nm3]
    refine sw_pure (v := .string S) (fun W => rfl) rfl ?_
    simp only [nm0, nm1, nm2, nm3]
    refine sw_pure (v := .string S) (fun W => rfl) rfl ?_
    simp only [nm0, nm1, nm2, nm3]
    refine sw_pure (v := .int .i64 (S.size : Int)) (fun W => by go_simp) rfl ?_
    simp only [nm0, nm1, nm2, nm3]
    refine sw_pure (v := .int .i64 ((S.size - 1 : Nat) : Int)) (fun W => run_bin_of rfl rfl rfl (by go_simp)) rfl ?_
    simp only [nm0, nm1, nm2, nm3]
    refine sw_pure (v := .int .u8 (d1.toNat : Int)) (fun W => run_idx_str (i := S.size - 1) (c := d1) W rfl rfl rfl Tryd.underlying9 hd1) rfl ?_
    simp only [nm0, nm1, nm2, nm3]
    refine sw_pure (v := .bool true) (fun W => run_bin_of rfl rfl rfl (by go_simp)) rfl ?_
    simp only [nm0, nm1, nm2, nm3]
    refine sw_pure (v := .bool true) (fun W => rfl) rfl ?_
    simp only [nm0, nm1, nm2, nm3]
    refine sw_nil ?_
    go_wp2_with fail
    go_ret
    exact ⟨ret_bool HF.out.symm, Below.refl _ _⟩
  have q3 : ((d1.toNat : Int) == 93) = true := by simp; omega
  have q3' : ((d1.toNat : Int) != 93) = false := by simp; omega
  have HB1 := Lib.hid (show bracR l = brR (innerR l) by rw [HB0.out, c2, c3]; rfl)
  clear c2 c3
  go_enter Tryd.func38, Tryd.ntmps38
  go_upto_region 1 with fail
  refine sw_lit ?_
  refine sw_pure (v := .string S) (fun W => rfl) rfl ?_
  simp only [nm0, nm1, nm2, nm3]
  refine sw_pure (v := .int .i64 (S.size : Int)) (fun W => by go_simp) rfl ?_
  simp only [nm0, nm1, nm2, nm3]
  refine sw_pure (v := .bool false) (fun W => run_bin_of rfl rfl rfl (by go_simp)) rfl ?_
  simp only [nm0, nm1, nm2, nm3]
  refine sw_pure (v := .bool false) (fun W => rfl) rfl ?_
  simp only [nm0, nm1, nm2, nm3]
  refine sw_pure (v := .string S) (fun W => rfl) rfl ?_
  simp only [nm0, nm1, nm2, nm3]
  refine sw_pure (v := .int .u8 (d0.toNat : Int)) (fun W => run_idx_str (i := 0) (c := d0) W rfl rfl rfl Tryd.underlying9 hd0) rfl ?_
  simp only [nm0, nm1, nm2, nm3]
  refine sw_pure (v := .bool false) (fun W => run_bin_of rfl rfl rfl (by go_simp)) rfl ?_
  simp only [nm0, nm1, nm2, nm3]
  refine sw_pure (v := .bool false) (fun W => rfl) rfl ?_
  simp only [nm0, nm1, nm2, nm3]
  refine sw_pure (v := .bool false) (fun W => rfl) rfl ?_
  simp only [nm0, nm1, nm2, nm3]
  refine sw_pure (v := .string S) (fun W => rfl) rfl ?_
  simp only [nm0, nm1, nm2, nm3]
  refine sw_pure (v := .string S) (fun W => rfl) rfl ?_
  simp only [nm0, nm1, nm2, nm3]
  refine sw_pure (v := .int .i64 (S.size : Int)) (fun W => by go_simp) rfl ?_
  simp only [nm0, nm1, nm2, nm3]
  refine sw_pure (v := .int .i64 ((S.size - 1 : Nat) : Int)) (fun W => run_bin_of rfl rfl rfl (by go_simp)) rfl ?_
  simp only [nm0, nm1, nm2, nm3]
  refine sw_pure (v := .int .u8 (d1.toNat : Int)) (fun W => run_idx_str (i := S.size - 1) (c := d1) W rfl rfl rfl Tryd.underlying9 hd1) rfl ?_
  simp only [nm0, nm1, nm2, nm3]
  refine sw_pure (v := .bool false) (fun W => run_bin_of rfl rfl rfl (by go_simp)) rfl ?_
  simp only [nm0, nm1, nm2, nm3]
  refine sw_pure (v := .bool false) (fun W => rfl) rfl ?_
  simp only [nm0, nm1, nm2, nm3]
  refine sw_nil ?_
  clear q1 q2 q2' q3 q3' hd0 hd1
  obtain ⟨t, ht⟩ : ∃ t, innerR l = t := ⟨_, rfl⟩
  have htl : 2 ≤ t.length ∧ t.length ≤ 1000 := by rw [← ht]; unfold innerR; rw [List.length_take, List.length_drop]; have := HL.out; omega
  rw [ht] at HIX HB1
  have hzt := ba_size t
  have hatt := ba_at t
  have KC := Lib.hid (fun w => cutL_any t 58 w htl.2)
  have e1 := ext_take t 2
  have e2 := ext_drop t (t.length - 2)
  obtain ⟨T, eT⟩ : ∃ T : ByteArray, (⟨t.toArray⟩ : ByteArray) = T := ⟨_, rfl⟩
  rw [eT] at HIX hzt KC e1 e2
  rw [eT] at hatt
  rw [← hzt] at e2
  have hpl := prt_len 58 t []
  have hpos := prt_pos 58 t []
  have hLx : ∀ x ∈ prt 58 [] t, x.length ≤ 1000 := fun x hx => by have := prt_mem 58 t [] x hx; simp at this; omega
  have HTL := Lib.hid (show 2 ≤ T.size ∧ T.size ≤ 1000 ∧ T.size = t.length by omega)
  have HATT := Lib.hid hatt
  have HLX := Lib.hid hLx
  have E1 := Lib.hid e1
  have E2 := Lib.hid e2
  have HPL := Lib.hid (And.intro hpl hpos)
  clear eT ht hzt hatt hLx e1 e2 hpl hpos htl
  go_upto_region 3 with fail
  refine sw_lit ?_
  refine sw_pure (v := .string S) (fun W => rfl) rfl ?_
  simp only [nm0, nm1, nm2, nm3]
  refine sw_pure (v := .string S) (fun W => rfl) rfl ?_
  simp only [nm0, nm1, nm2, nm3]
  refine sw_pure (v := .int .i64 (S.size : Int)) (fun W => by go_simp) rfl ?_
  simp only [nm0, nm1, nm2, nm3]
  refine sw_pure (v := .int .i64 ((S.size - 1 : Nat) : Int)) (fun W => run_bin_of rfl rfl rfl (by go_simp)) rfl ?_
  simp only [nm0, nm1, nm2, nm3]
  refine sw_pure (v := .string T) (fun W => by rw [← HIX.out]; refine run_slc_str W rfl rfl ?_; exact slc_str (i := 1) W Tryd.underlying9 (by have := HL.out; omega) (by omega)) rfl ?_
  simp only [nm0, nm1, nm2, nm3]
  refine sw_pure (v := .string T) (fun W => rfl) rfl ?_
  simp only [nm0, nm1, nm2, nm3]
  refine sw_nil ?_
  clear w1 hS1
  go_wp2_with fail
  go_loopw [4, 5] (fun dd p wr => wr = w ∧ ∃ d k : Nat, dd = .int .i64 (d : Int) ∧ p = .int .i64 (k : Int) ∧ k + 1 ≤ t.length ∧ d + dbl (t.drop k) = dbl t)
    (fun _ p _ => t.length - (Go.RowKit.intOf p).toNat)
  case atStart => exact ⟨rfl, 0, 0, rfl, rfl, by have := HTL.out; omega, by simp⟩
  case round =>
    obtain ⟨rfl, d, k, rfl, rfl, hk, hd⟩ := hrel
    have hdle := dbl_le t
    have w2 : IntKind.i64.wrap ((k : Int) + 1) = ((k + 1 : Nat) : Int) := by rw [show ((k + 1 : Nat) : Int) = (k : Int) + 1 by omega]; exact IntWalk.i64_in _ (by have := HTL.out; omega)
    have w2' : IntKind.i64.wrap ((k : Int) + 1) = (k : Int) + 1 := IntWalk.i64_in _ (by have := HTL.out; omega)
    have w3 : IntKind.i64.wrap ((d : Int) + 1) = (d : Int) + 1 := IntWalk.i64_in _ (by have := HTL.out; omega)
    clear hdle
    by_cases hlt : k + 1 < t.length
    · have p1 : (k : Int) + 1 < (T.size : Int) := by have := HTL.out; omega
      have hstep := dbl_drop hlt
      obtain ⟨a0, ha0, ea0⟩ := HATT.out k (by omega)
      obtain ⟨a1, ha1, ea1⟩ := HATT.out (k + 1) hlt
      have f0 : t[k]'(by omega) = a0 := by rw [ea0, List.getD_eq_getElem?_getD, List.getElem?_eq_getElem (by omega)]; rfl
      have f1 : t[k + 1] = a1 := by rw [ea1, List.getD_eq_getElem?_getD, List.getElem?_eq_getElem hlt]; rfl
      rw [f0, f1] at hstep
      clear f0 f1 ea0 ea1
      have hkT : k < T.size ∧ k + 1 < T.size := by have := HTL.out; omega
      by_cases ca : a0 = 58
      · have q0 : ((a0.toNat : Int) == 58) = true := by rw [ca]; rfl
        by_cases cb : a1 = 58
        · have q1 : ((a1.toNat : Int) == 58) = true := by rw [cb]; rfl
          rw [if_pos ⟨ca, cb⟩] at hstep
          have HD := Lib.hid (show d + 1 + dbl (t.drop (k + 1)) = dbl t by omega)
          clear hstep hd ca cb
          go_upto_region 8 with fail
          refine sw_lit ?_
          refine sw_pure (v := .string T) (fun W => rfl) rfl ?_
          simp only [nm0, nm1, nm2, nm3]
          refine sw_pure (v := .int .i64 (k : Int)) (fun W => rfl) rfl ?_
          simp only [nm0, nm1, nm2, nm3]
          refine sw_pure (v := .int .u8 (a0.toNat : Int)) (fun W => run_idx_str (i := k) (c := a0) W rfl rfl rfl Tryd.underlying9 ha0) rfl ?_
          simp only [nm0, nm1, nm2, nm3]
          refine sw_pure (v := .bool true) (fun W => run_bin_of rfl rfl rfl (by go_simp)) rfl ?_
          simp only [nm0, nm1, nm2, nm3]
          refine sw_pure (v := .bool true) (fun W => rfl) rfl ?_
          simp only [nm0, nm1, nm2, nm3]
          refine sw_pure (v := .string T) (fun W => rfl) rfl ?_
          simp only [nm0, nm1, nm2, nm3]
          refine sw_pure (v := .int .i64 (k : Int)) (fun W => rfl) rfl ?_
          simp only [nm0, nm1, nm2, nm3]
          refine sw_pure (v := .int .i64 ((k + 1 : Nat) : Int)) (fun W => run_bin_of rfl rfl rfl (by go_simp)) rfl ?_
          simp only [nm0, nm1, nm2, nm3]
          refine sw_pure (v := .int .u8 (a1.toNat : Int)) (fun W => run_idx_str (i := k + 1) (c := a1) W rfl rfl rfl Tryd.underlying9 ha1) rfl ?_
          simp only [nm0, nm1, nm2, nm3]
          refine sw_pure (v := .bool true) (fun W => run_bin_of rfl rfl rfl (by go_simp)) rfl ?_
          simp only [nm0, nm1, nm2, nm3]
          refine sw_pure (v := .bool true) (fun W => rfl) rfl ?_
          simp only [nm0, nm1, nm2, nm3]
          refine sw_nil ?_
          go_wp2_with fail
          go_roundw
          case rel => exact ⟨trivial, d + 1, k + 1, rfl, rfl, hlt, HD.out⟩
          case measure => simp [Go.RowKit.intOf]; omega
        · have q1 : ((a1.toNat : Int) == 58) = false := by simpa using fun h : (a1.toNat : Int) = 58 => cb (UInt8.toNat_inj.1 (by have : a1.toNat = 58 := (by omega); exact this))
          rw [if_neg fun h => cb h.2] at hstep
          have HD := Lib.hid (show d + dbl (t.drop (k + 1)) = dbl t by omega)
          clear hstep hd ca cb
          go_upto_region 8 with fail
          refine sw_lit ?_
          refine sw_pure (v := .string T) (fun W => rfl) rfl ?_
          simp only [nm0, nm1, nm2, nm3]
          refine sw_pure (v := .int .i64 (k : Int)) (fun W => rfl) rfl ?_
          simp only [nm0, nm1, nm2, nm3]
          refine sw_pure (v := .int .u8 (a0.toNat : Int)) (fun W => run_idx_str (i := k) (c := a0) W rfl rfl rfl Tryd.underlying9 ha0) rfl ?_
          simp only [nm0, nm1, nm2, nm3]
          refine sw_pure (v := .bool true) (fun W => run_bin_of rfl rfl rfl (by go_simp)) rfl ?_
          simp only [nm0, nm1, nm2, nm3]
          refine sw_pure (v := .bool true) (fun W => rfl) rfl ?_
          simp only [nm0, nm1, nm2, nm3]
          refine sw_pure (v := .string T) (fun W => rfl) rfl ?_
          simp only [nm0, nm1, nm2, nm3]
          refine sw_pure (v := .int .i64 (k : Int)) (fun W => rfl) rfl ?_
          simp only [nm0, nm1, nm2, nm3]
          refine sw_pure (v := .int .i64 ((k + 1 : Nat) : Int)) (fun W => run_bin_of rfl rfl rfl (by go_simp)) rfl ?_
          simp only [nm0, nm1, nm2, nm3]
          refine sw_pure (v := .int .u8 (a1.toNat : Int)) (fun W => run_idx_str (i := k + 1) (c := a1) W rfl rfl rfl Tryd.underlying9 ha1) rfl ?_
          simp only [nm0, nm1, nm2, nm3]
          refine sw_pure (v := .bool false) (fun W => run_bin_of rfl rfl rfl (by go_simp)) rfl ?_
          simp only [nm0, nm1, nm2, nm3]
          refine sw_pure (v := .bool false) (fun W => rfl) rfl ?_
          simp only [nm0, nm1, nm2, nm3]
          refine sw_nil ?_
          go_wp2_with fail
          go_roundw
          case rel => exact ⟨trivial, d, k + 1, rfl, rfl, hlt, HD.out⟩
          case measure => simp [Go.RowKit.intOf]; omega
      · have q0 : ((a0.toNat : Int) == 58) = false := by simpa using fun h : (a0.toNat : Int) = 58 => ca (UInt8.toNat_inj.1 (by have : a0.toNat = 58 := (by omega); exact this))
        rw [if_neg fun h => ca h.1] at hstep
        have HD := Lib.hid (show d + dbl (t.drop (k + 1)) = dbl t by omega)
        clear hstep hd ca
        go_upto_region 8 with fail
        refine sw_lit ?_
        refine sw_pure (v := .string T) (fun W => rfl) rfl ?_
        simp only [nm0, nm1, nm2, nm3]
        refine sw_pure (v := .int .i64 (k : Int)) (fun W => rfl) rfl ?_
        simp only [nm0, nm1, nm2, nm3]
        refine sw_pure (v := .int .u8 (a0.toNat : Int)) (fun W => run_idx_str (i := k) (c := a0) W rfl rfl rfl Tryd.underlying9 ha0) rfl ?_
        simp only [nm0, nm1, nm2, nm3]
        refine sw_pure (v := .bool false) (fun W => run_bin_of rfl rfl rfl (by go_simp)) rfl ?_
        simp only [nm0, nm1, nm2, nm3]
        refine sw_pure (v := .bool false) (fun W => rfl) rfl ?_
        simp only [nm0, nm1, nm2, nm3]
        refine sw_skip rfl ?_
        simp only [nm0, nm1, nm2, nm3]
        refine sw_skip rfl ?_
        simp only [nm0, nm1, nm2, nm3]
        refine sw_skip rfl ?_
        simp only [nm0, nm1, nm2, nm3]
        refine sw_skip rfl ?_
        simp only [nm0, nm1, nm2, nm3]
        refine sw_skip rfl ?_
        simp only [nm0, nm1, nm2, nm3]
        refine sw_pure (v := .bool false) (fun W => rfl) rfl ?_
        simp only [nm0, nm1, nm2, nm3]
        refine sw_nil ?_
        go_wp2_with fail
        go_roundw
        case rel => exact ⟨trivial, d, k + 1, rfl, rfl, hlt, HD.out⟩
        case measure => simp [Go.RowKit.intOf]; omega
    · have p1 : ¬ (k : Int) + 1 < (T.size : Int) := by have := HTL.out; omega
      have hdd : d = dbl t := by rw [dbl_last (by omega)] at hd; omega
      have HDD := Lib.hid hdd
      clear hd hdd w3
      go_wp2_with fail
      refine (KC.out _).mono ?_
      rintro e w4 ⟨v, rfl, hown, hbw⟩
      obtain ⟨n, hn⟩ : ∃ n, (prt 58 [] t).length = n := ⟨_, rfl⟩
      obtain ⟨g, cap, cur, rfl, hg, hcur, hat⟩ := hrow_at hown HPL.out.2
      rw [hn]
      have HN2 := Lib.hid (show n ≤ 1001 by have := HPL.out.1; have := HTL.out; omega)
      have HBW := Lib.hid hbw
      have HAT := Lib.hid hat
      have HN := Lib.hid hn
      have HCUR := Lib.hid hcur
      clear hown hbw hat hn hcur hg
      go_wp2_with fail
      go_loopw [7, 8, 9] (fun q1 q2 p wr => wr = w4 ∧ ∃ gg ee k : Nat, q1 = .int .i64 (gg : Int) ∧ q2 = .int .i64 (ee : Int) ∧ p = .int .i64 (k : Int) ∧ k ≤ n ∧ gg = ful ((prt 58 [] t).take k) ∧ ee = emp ((prt 58 [] t).take k) ∧ ((prt 58 [] t).take k).all fineG = true)
        (fun _ _ p _ => n - (Go.RowKit.intOf p).toNat)
      case atStart => exact ⟨rfl, 0, 0, 0, rfl, rfl, rfl, Nat.zero_le _, rfl, rfl, rfl⟩
      case round =>
        obtain ⟨rfl, gg, ee, k, rfl, rfl, rfl, hk, hgg, hee, hall⟩ := hrel
        have hge := emp_ful ((prt 58 [] t).take k)
        rw [← hgg, ← hee, List.length_take] at hge
        have hn2 := HN2.out
        have w2 : IntKind.i64.wrap ((k : Int) + 1) = (k : Int) + 1 := IntWalk.i64_in _ (by omega)
        have w3 : IntKind.i64.wrap ((gg : Int) + 1) = (gg : Int) + 1 := IntWalk.i64_in _ (by omega)
        have w4' : IntKind.i64.wrap ((ee : Int) + 1) = (ee : Int) + 1 := IntWalk.i64_in _ (by omega)
        clear hge hn2
        by_cases hlt : k < n
        · have p1 : (k : Int) < (n : Int) := by omega
          have hkl : k < (prt 58 [] t).length := by rw [HN.out]; exact hlt
          obtain ⟨x, hx⟩ : ∃ x, (prt 58 [] t)[k]? = some x := ⟨_, List.getElem?_eq_getElem hkl⟩
          have hcx := HAT.out k x hx
          have hxm : x ∈ prt 58 [] t := List.mem_of_getElem? hx
          have hxl := HLX.out x hxm
          have htk : (prt 58 [] t).take (k + 1) = (prt 58 [] t).take k ++ [x] := by rw [List.take_add_one, hx]; rfl
          have hB1 : fineG x = false → RowKit.Hid (bracR l = false) := fun h => Lib.hid (by
            rw [HB1.out]
            unfold brR
            rw [show (prt 58 [] t).all fineG = false by
              cases h2 : (prt 58 [] t).all fineG with
              | false => rfl
              | true => rw [List.all_eq_true.1 h2 x hxm] at h; cases h]
            rfl)
          have hA1 : fineG x = true → ((prt 58 [] t).take (k + 1)).all fineG = true := fun h => by rw [htk, List.all_append, hall]; simp [h]
          have hF1 : ful ((prt 58 [] t).take (k + 1)) = gg + ful [x] := by rw [htk, ful_app, ← hgg]
          have hE1 : emp ((prt 58 [] t).take (k + 1)) = ee + emp [x] := by rw [htk, emp_app, ← hee]
          have hML := most_hex x
          have hzx := ba_size x
          obtain ⟨X, eX⟩ : ∃ X : ByteArray, (⟨x.toArray⟩ : ByteArray) = X := ⟨_, rfl⟩
          rw [eX] at hcx hML hzx
          have HCX := Lib.hid hcx
          clear hcx hx hxm hkl htk hall hgg hee
          by_cases c1 : x = []
          · have eX2 : X = ⟨#[]⟩ := by rw [← eX, c1]
            subst eX2
            have HA := Lib.hid (hA1 (by rw [c1]; rfl))
            have HF1 := Lib.hid (show gg = ful ((prt 58 [] t).take (k + 1)) by rw [hF1, c1]; rfl)
            have HE1 := Lib.hid (show ee + 1 = emp ((prt 58 [] t).take (k + 1)) by rw [hE1, c1]; rfl)
            clear hA1 hB1 hF1 hE1 hML hzx eX hxl c1
            go_upto_region 16 with fail
            refine sw_lit ?_
            refine sw_pure (v := .slice (some ⟨g, 0, none⟩) n cap) (fun W => rfl) rfl ?_
            simp only [nm0, nm1, nm2, nm3]
            refine sw_pure (v := .int .i64 (k : Int)) (fun W => rfl) rfl ?_
            simp only [nm0, nm1, nm2, nm3]
            refine sw_pure (v := .pointer (some ⟨g, k, none⟩)) (fun W => run_index_of rfl rfl rfl (hix_Str g n cap k hlt W)) rfl ?_
            simp only [nm0, nm1, nm2, nm3]
            refine sw_val (v := .string ⟨#[]⟩) (run_load_cell rfl rfl HCUR.out HCX.out cellHS) rfl ?_
            simp only [nm0, nm1, nm2, nm3]
            refine sw_pure (v := .bool true) (fun W => run_bin_of rfl rfl rfl (by go_simp)) rfl ?_
            simp only [nm0, nm1, nm2, nm3]
            refine sw_nil ?_
            go_wp2_with fail
            go_roundw
            case rel => exact ⟨trivial, gg, ee + 1, k + 1, rfl, rfl, rfl, hlt, HF1.out, HE1.out, HA.out⟩
            case measure => simp [Go.RowKit.intOf]; omega
          · have hne := txt_ne x c1
            rw [eX] at hne
            have hfx : fineG x = (decide (x.length ≤ 4) && x.all fun c => hex c.toNat) := by
              unfold fineG
              rw [show x.isEmpty = false by cases x with | nil => exact absurd rfl c1 | cons => rfl]
              rfl
            have KM := Lib.hid (fun w => most_any X w (by omega))
            have HF1 := Lib.hid (show gg + 1 = ful ((prt 58 [] t).take (k + 1)) by
              rw [hF1]
              cases x with
              | nil => exact absurd rfl c1
              | cons => rfl)
            have HE1 := Lib.hid (show ee = emp ((prt 58 [] t).take (k + 1)) by
              rw [hE1]
              cases x with
              | nil => exact absurd rfl c1
              | cons => rfl)
            clear hF1 hE1 eX
            by_cases c2 : 4 < x.length
            · have q2 : (4 : Int) < (X.size : Int) := by omega
              have HF := hB1 (by rw [hfx, decide_eq_false (by omega)]; rfl)
              clear hA1 hB1 hML hzx hfx hxl c1 c2
              go_upto_region 16 with fail
              refine sw_lit ?_
              refine sw_pure (v := .slice (some ⟨g, 0, none⟩) n cap) (fun W => rfl) rfl ?_
              simp only [nm0, nm1, nm2, nm3]
              refine sw_pure (v := .int .i64 (k : Int)) (fun W => rfl) rfl ?_
              simp only [nm0, nm1, nm2, nm3]
              refine sw_pure (v := .pointer (some ⟨g, k, none⟩)) (fun W => run_index_of rfl rfl rfl (hix_Str g n cap k hlt W)) rfl ?_
              simp only [nm0, nm1, nm2, nm3]
              refine sw_val (v := .string X) (run_load_cell rfl rfl HCUR.out HCX.out cellHS) rfl ?_
              simp only [nm0, nm1, nm2, nm3]
              refine sw_pure (v := .bool false) (fun W => run_bin_of rfl rfl rfl (by go_simp)) rfl ?_
              simp only [nm0, nm1, nm2, nm3]
              refine sw_nil ?_
              go_upto_region 18 with fail
              refine sw_lit ?_
              refine sw_pure (v := .slice (some ⟨g, 0, none⟩) n cap) (fun W => rfl) rfl ?_
              simp only [nm0, nm1, nm2, nm3]
              refine sw_pure (v := .int .i64 (k : Int)) (fun W => rfl) rfl ?_
              simp only [nm0, nm1, nm2, nm3]
              refine sw_pure (v := .pointer (some ⟨g, k, none⟩)) (fun W => run_index_of rfl rfl rfl (hix_Str g n cap k hlt W)) rfl ?_
              simp only [nm0, nm1, nm2, nm3]
              refine sw_val (v := .string X) (run_load_cell rfl rfl HCUR.out HCX.out cellHS) rfl ?_
              simp only [nm0, nm1, nm2, nm3]
              refine sw_pure (v := .int .i64 (X.size : Int)) (fun W => by go_simp) rfl ?_
              simp only [nm0, nm1, nm2, nm3]
              refine sw_pure (v := .bool true) (fun W => run_bin_of rfl rfl rfl (by go_simp)) rfl ?_
              simp only [nm0, nm1, nm2, nm3]
              refine sw_pure (v := .bool true) (fun W => rfl) rfl ?_
              simp only [nm0, nm1, nm2, nm3]
              refine sw_skip rfl ?_
              simp only [nm0, nm1, nm2, nm3]
              refine sw_skip rfl ?_
              simp only [nm0, nm1, nm2, nm3]
              refine sw_skip rfl ?_
              simp only [nm0, nm1, nm2, nm3]
              refine sw_skip rfl ?_
              simp only [nm0, nm1, nm2, nm3]
              refine sw_skip rfl ?_
              simp only [nm0, nm1, nm2, nm3]
              refine sw_skip rfl ?_
              simp only [nm0, nm1, nm2, nm3]
              refine sw_pure (v := .bool true) (fun W => rfl) rfl ?_
              simp only [nm0, nm1, nm2, nm3]
              refine sw_nil ?_
              go_wp2_with fail
              go_ret
              exact ⟨ret_bool HF.out.symm, HBW.out⟩
            · have q2 : ¬ (4 : Int) < (X.size : Int) := by omega
              obtain ⟨hb, ehb⟩ : ∃ hb, (x.all fun c => hex c.toNat) = hb := ⟨_, rfl⟩
              rw [ehb] at hML hfx
              cases hb with
              | false =>
                have q3 := two_yes hML
                have HF := hB1 (by rw [hfx]; simp)
                clear hA1 hB1 hML hzx hfx hxl c1 c2 ehb
                go_upto_region 16 with fail
                refine sw_lit ?_
                refine sw_pure (v := .slice (some ⟨g, 0, none⟩) n cap) (fun W => rfl) rfl ?_
                simp only [nm0, nm1, nm2, nm3]
                refine sw_pure (v := .int .i64 (k : Int)) (fun W => rfl) rfl ?_
                simp only [nm0, nm1, nm2, nm3]
                refine sw_pure (v := .pointer (some ⟨g, k, none⟩)) (fun W => run_index_of rfl rfl rfl (hix_Str g n cap k hlt W)) rfl ?_
                simp only [nm0, nm1, nm2, nm3]
                refine sw_val (v := .string X) (run_load_cell rfl rfl HCUR.out HCX.out cellHS) rfl ?_
                simp only [nm0, nm1, nm2, nm3]
                refine sw_pure (v := .bool false) (fun W => run_bin_of rfl rfl rfl (by go_simp)) rfl ?_
                simp only [nm0, nm1, nm2, nm3]
                refine sw_nil ?_
                go_upto_region 18 with fail
                refine sw_lit ?_
                refine sw_pure (v := .slice (some ⟨g, 0, none⟩) n cap) (fun W => rfl) rfl ?_
                simp only [nm0, nm1, nm2, nm3]
                refine sw_pure (v := .int .i64 (k : Int)) (fun W => rfl) rfl ?_
                simp only [nm0, nm1, nm2, nm3]
                refine sw_pure (v := .pointer (some ⟨g, k, none⟩)) (fun W => run_index_of rfl rfl rfl (hix_Str g n cap k hlt W)) rfl ?_
                simp only [nm0, nm1, nm2, nm3]
                refine sw_val (v := .string X) (run_load_cell rfl rfl HCUR.out HCX.out cellHS) rfl ?_
                simp only [nm0, nm1, nm2, nm3]
                refine sw_pure (v := .int .i64 (X.size : Int)) (fun W => by go_simp) rfl ?_
                simp only [nm0, nm1, nm2, nm3]
                refine sw_pure (v := .bool false) (fun W => run_bin_of rfl rfl rfl (by go_simp)) rfl ?_
                simp only [nm0, nm1, nm2, nm3]
                refine sw_pure (v := .bool false) (fun W => rfl) rfl ?_
                simp only [nm0, nm1, nm2, nm3]
                refine sw_pure (v := .slice (some ⟨g, 0, none⟩) n cap) (fun W => rfl) rfl ?_
                simp only [nm0, nm1, nm2, nm3]
                refine sw_pure (v := .int .i64 (k : Int)) (fun W => rfl) rfl ?_
                simp only [nm0, nm1, nm2, nm3]
                refine sw_pure (v := .pointer (some ⟨g, k, none⟩)) (fun W => run_index_of rfl rfl rfl (hix_Str g n cap k hlt W)) rfl ?_
                simp only [nm0, nm1, nm2, nm3]
                refine sw_val (v := .string X) (run_load_cell rfl rfl HCUR.out HCX.out cellHS) rfl ?_
                simp only [nm0, nm1, nm2, nm3]
                refine sw_callS (args := #[.string X]) (v := .int .i64 (most X : Int)) (fun W => run_call_fn W (enters_of Tryd.func69 (by kernel_rfl) rfl) rfl (by simp [Act.eval])) (KM.out _) rfl ?_
                simp only [nm0, nm1, nm2, nm3]
                refine sw_pure (v := .bool true) (fun W => run_bin_of rfl rfl rfl (by go_simp)) rfl ?_
                simp only [nm0, nm1, nm2, nm3]
                refine sw_pure (v := .bool true) (fun W => rfl) rfl ?_
                simp only [nm0, nm1, nm2, nm3]
                refine sw_nil ?_
                go_wp2_with fail
                go_ret
                exact ⟨ret_bool HF.out.symm, HBW.out⟩
              | true =>
                have q3 := two_no hML
                have HA := Lib.hid (hA1 (by rw [hfx, decide_eq_true (by omega)]; rfl))
                clear hA1 hB1 hML hzx hfx hxl c1 c2 ehb
                go_upto_region 16 with fail
                refine sw_lit ?_
                refine sw_pure (v := .slice (some ⟨g, 0, none⟩) n cap) (fun W => rfl) rfl ?_
                simp only [nm0, nm1, nm2, nm3]
                refine sw_pure (v := .int .i64 (k : Int)) (fun W => rfl) rfl ?_
                simp only [nm0, nm1, nm2, nm3]
                refine sw_pure (v := .pointer (some ⟨g, k, none⟩)) (fun W => run_index_of rfl rfl rfl (hix_Str g n cap k hlt W)) rfl ?_
                simp only [nm0, nm1, nm2, nm3]
                refine sw_val (v := .string X) (run_load_cell rfl rfl HCUR.out HCX.out cellHS) rfl ?_
                simp only [nm0, nm1, nm2, nm3]
                refine sw_pure (v := .bool false) (fun W => run_bin_of rfl rfl rfl (by go_simp)) rfl ?_
                simp only [nm0, nm1, nm2, nm3]
                refine sw_nil ?_
                go_upto_region 18 with fail
                refine sw_lit ?_
                refine sw_pure (v := .slice (some ⟨g, 0, none⟩) n cap) (fun W => rfl) rfl ?_
                simp only [nm0, nm1, nm2, nm3]
                refine sw_pure (v := .int .i64 (k : Int)) (fun W => rfl) rfl ?_
                simp only [nm0, nm1, nm2, nm3]
                refine sw_pure (v := .pointer (some ⟨g, k, none⟩)) (fun W => run_index_of rfl rfl rfl (hix_Str g n cap k hlt W)) rfl ?_
                simp only [nm0, nm1, nm2, nm3]
                refine sw_val (v := .string X) (run_load_cell rfl rfl HCUR.out HCX.out cellHS) rfl ?_
                simp only [nm0, nm1, nm2, nm3]
                refine sw_pure (v := .int .i64 (X.size : Int)) (fun W => by go_simp) rfl ?_
                simp only [nm0, nm1, nm2, nm3]
                refine sw_pure (v := .bool false) (fun W => run_bin_of rfl rfl rfl (by go_simp)) rfl ?_
                simp only [nm0, nm1, nm2, nm3]
                refine sw_pure (v := .bool false) (fun W => rfl) rfl ?_
                simp only [nm0, nm1, nm2, nm3]
                refine sw_pure (v := .slice (some ⟨g, 0, none⟩) n cap) (fun W => rfl) rfl ?_
                simp only [nm0, nm1, nm2, nm3]
                refine sw_pure (v := .int .i64 (k : Int)) (fun W => rfl) rfl ?_
                simp only [nm0, nm1, nm2, nm3]
                refine sw_pure (v := .pointer (some ⟨g, k, none⟩)) (fun W => run_index_of rfl rfl rfl (hix_Str g n cap k hlt W)) rfl ?_
                simp only [nm0, nm1, nm2, nm3]
                refine sw_val (v := .string X) (run_load_cell rfl rfl HCUR.out HCX.out cellHS) rfl ?_
                simp only [nm0, nm1, nm2, nm3]
                refine sw_callS (args := #[.string X]) (v := .int .i64 (most X : Int)) (fun W => run_call_fn W (enters_of Tryd.func69 (by kernel_rfl) rfl) rfl (by simp [Act.eval])) (KM.out _) rfl ?_
                simp only [nm0, nm1, nm2, nm3]
                refine sw_pure (v := .bool false) (fun W => run_bin_of rfl rfl rfl (by go_simp)) rfl ?_
                simp only [nm0, nm1, nm2, nm3]
                refine sw_pure (v := .bool false) (fun W => rfl) rfl ?_
                simp only [nm0, nm1, nm2, nm3]
                refine sw_nil ?_
                go_wp2_with fail
                go_roundw
                case rel => exact ⟨trivial, gg + 1, ee, k + 1, rfl, rfl, rfl, hlt, HF1.out, HE1.out, HA.out⟩
                case measure => simp [Go.RowKit.intOf]; omega
        · have hkn : k = n := by omega
          have p1 : ¬ (k : Int) < (n : Int) := by omega
          rw [hkn, ← HN.out, List.take_length] at hgg hee hall
          have hR : bracR l = (if d = 0 then decide (gg = 8) && decide (ee = 0) else decide (d = 1) && (decide (ee = wantN t) && decide (gg ≤ 7))) := by
            rw [HB1.out]
            unfold brR
            rw [hall, ← hgg, ← hee, ← HDD.out]
            rfl
          have HR := Lib.hid hR
          clear hR hgg hee hall hkn w2 w3 w4'
          by_cases cd : d = 0
          · subst cd
            rw [if_pos rfl] at HR
            by_cases e8 : gg = 8
            · have q8 : ((gg : Int) == 8) = true := by simp; omega
              by_cases e0 : ee = 0
              · have q0 : ((ee : Int) == 0) = true := by simp; omega
                have HF := Lib.hid (show bracR l = true by rw [HR.out, decide_eq_true e8, decide_eq_true e0]; rfl)
                go_upto_region 22 with fail
                refine sw_lit ?_
                refine sw_pure (v := .int .i64 (gg : Int)) (fun W => rfl) rfl ?_
                simp only [nm0, nm1, nm2, nm3]
                refine sw_pure (v := .bool true) (fun W => run_bin_of rfl rfl rfl (by go_simp)) rfl ?_
                simp only [nm0, nm1, nm2, nm3]
                refine sw_pure (v := .bool true) (fun W => rfl) rfl ?_
                simp only [nm0, nm1, nm2, nm3]
                refine sw_pure (v := .int .i64 (ee : Int)) (fun W => rfl) rfl ?_
                simp only [nm0, nm1, nm2, nm3]
                refine sw_pure (v := .bool true) (fun W => run_bin_of rfl rfl rfl (by go_simp)) rfl ?_
                simp only [nm0, nm1, nm2, nm3]
                refine sw_pure (v := .bool true) (fun W => rfl) rfl ?_
                simp only [nm0, nm1, nm2, nm3]
                refine sw_pure (v := .bool true) (fun W => rfl) rfl ?_
                simp only [nm0, nm1, nm2, nm3]
                refine sw_nil ?_
                go_wp2_with fail
                go_ret
                exact ⟨ret_bool HF.out.symm, HBW.out⟩
              · have q0 : ((ee : Int) == 0) = false := by simp; omega
                have HF := Lib.hid (show bracR l = false by rw [HR.out, decide_eq_true e8, decide_eq_false e0]; rfl)
                go_upto_region 22 with fail
                refine sw_lit ?_
                refine sw_pure (v := .int .i64 (gg : Int)) (fun W => rfl) rfl ?_
                simp only [nm0, nm1, nm2, nm3]
                refine sw_pure (v := .bool true) (fun W => run_bin_of rfl rfl rfl (by go_simp)) rfl ?_
                simp only [nm0, nm1, nm2, nm3]
                refine sw_pure (v := .bool true) (fun W => rfl) rfl ?_
                simp only [nm0, nm1, nm2, nm3]
                refine sw_pure (v := .int .i64 (ee : Int)) (fun W => rfl) rfl ?_
                simp only [nm0, nm1, nm2, nm3]
                refine sw_pure (v := .bool false) (fun W => run_bin_of rfl rfl rfl (by go_simp)) rfl ?_
                simp only [nm0, nm1, nm2, nm3]
                refine sw_pure (v := .bool false) (fun W => rfl) rfl ?_
                simp only [nm0, nm1, nm2, nm3]
                refine sw_pure (v := .bool false) (fun W => rfl) rfl ?_
                simp only [nm0, nm1, nm2, nm3]
                refine sw_nil ?_
                go_wp2_with fail
                go_ret
                exact ⟨ret_bool HF.out.symm, HBW.out⟩
            · have q8 : ((gg : Int) == 8) = false := by simp; omega
              by_cases e0 : ee = 0
              · have q0 : ((ee : Int) == 0) = true := by simp; omega
                have HF := Lib.hid (show bracR l = false by rw [HR.out, decide_eq_false e8, decide_eq_true e0]; rfl)
                go_upto_region 22 with fail
                refine sw_lit ?_
                refine sw_pure (v := .int .i64 (gg : Int)) (fun W => rfl) rfl ?_
                simp only [nm0, nm1, nm2, nm3]
                refine sw_pure (v := .bool false) (fun W => run_bin_of rfl rfl rfl (by go_simp)) rfl ?_
                simp only [nm0, nm1, nm2, nm3]
                refine sw_pure (v := .bool false) (fun W => rfl) rfl ?_
                simp only [nm0, nm1, nm2, nm3]
                refine sw_skip rfl ?_
                simp only [nm0, nm1, nm2, nm3]
                refine sw_skip rfl ?_
                simp only [nm0, nm1, nm2, nm3]
                refine sw_pure (v := .bool false) (fun W => rfl) rfl ?_
                simp only [nm0, nm1, nm2, nm3]
                refine sw_pure (v := .bool false) (fun W => rfl) rfl ?_
                simp only [nm0, nm1, nm2, nm3]
                refine sw_nil ?_
                go_wp2_with fail
                go_ret
                exact ⟨ret_bool HF.out.symm, HBW.out⟩
              · have q0 : ((ee : Int) == 0) = false := by simp; omega
                have HF := Lib.hid (show bracR l = false by rw [HR.out, decide_eq_false e8, decide_eq_false e0]; rfl)
                go_upto_region 22 with fail
                refine sw_lit ?_
                refine sw_pure (v := .int .i64 (gg : Int)) (fun W => rfl) rfl ?_
                simp only [nm0, nm1, nm2, nm3]
                refine sw_pure (v := .bool false) (fun W => run_bin_of rfl rfl rfl (by go_simp)) rfl ?_
                simp only [nm0, nm1, nm2, nm3]
                refine sw_pure (v := .bool false) (fun W => rfl) rfl ?_
                simp only [nm0, nm1, nm2, nm3]
                refine sw_skip rfl ?_
                simp only [nm0, nm1, nm2, nm3]
                refine sw_skip rfl ?_
                simp only [nm0, nm1, nm2, nm3]
                refine sw_pure (v := .bool false) (fun W => rfl) rfl ?_
                simp only [nm0, nm1, nm2, nm3]
                refine sw_pure (v := .bool false) (fun W => rfl) rfl ?_
                simp only [nm0, nm1, nm2, nm3]
                refine sw_nil ?_
                go_wp2_with fail
                go_ret
                exact ⟨ret_bool HF.out.symm, HBW.out⟩
          · rw [if_neg cd] at HR
            have qd : ((d : Int) == 0) = false := by simp; omega
            have qd2 : ¬ (d : Int) = 0 := by omega
            have w5 : IntKind.i64.wrap ((T.size : Int) - 2) = ((T.size - 2 : Nat) : Int) := by rw [show ((T.size - 2 : Nat) : Int) = (T.size : Int) - 2 by have := HTL.out; omega]; exact IntWalk.i64_in _ (by have := HTL.out; omega)
            have hzt : T.size = t.length := HTL.out.2.2
            by_cases wa : t.take 2 = [58, 58]
            · have HT1 := Lib.hid (show T.extract 0 2 = ⟨#[58, 58]⟩ by rw [E1.out, wa])
              by_cases wb : t.drop (t.length - 2) = [58, 58]
              · have HT2 := Lib.hid (show T.extract (T.size - 2) T.size = ⟨#[58, 58]⟩ by rw [E2.out, hzt, wb])
                have HWN := Lib.hid (show wantN t = 3 by unfold wantN; rw [if_pos wa, if_pos wb])
                clear wa wb hzt
                go_upto_region 24 with fail
                refine sw_lit ?_
                refine sw_pure (v := .string T) (fun W => rfl) rfl ?_
                simp only [nm0, nm1, nm2, nm3]
                refine sw_pure (v := .string ⟨#[58, 58]⟩) (fun W => by rw [← HT1.out]; refine run_slc_str W rfl rfl ?_; exact slc_str_hi (j := 2) W Tryd.underlying9 (by have := HTL.out; omega)) rfl ?_
                simp only [nm0, nm1, nm2, nm3]
                refine sw_pure (v := .bool true) (fun W => run_bin_of rfl rfl rfl (by go_simp)) rfl ?_
                simp only [nm0, nm1, nm2, nm3]
                refine sw_nil ?_
                go_upto_region 26 with fail
                refine sw_lit ?_
                refine sw_pure (v := .string T) (fun W => rfl) rfl ?_
                simp only [nm0, nm1, nm2, nm3]
                refine sw_pure (v := .string T) (fun W => rfl) rfl ?_
                simp only [nm0, nm1, nm2, nm3]
                refine sw_pure (v := .int .i64 (T.size : Int)) (fun W => by go_simp) rfl ?_
                simp only [nm0, nm1, nm2, nm3]
                refine sw_pure (v := .int .i64 ((T.size - 2 : Nat) : Int)) (fun W => run_bin_of rfl rfl rfl (by go_simp)) rfl ?_
                simp only [nm0, nm1, nm2, nm3]
                refine sw_pure (v := .string ⟨#[58, 58]⟩) (fun W => by rw [← HT2.out]; refine run_slc_str W rfl rfl ?_; exact slc_str_lo W Tryd.underlying9 (by omega)) rfl ?_
                simp only [nm0, nm1, nm2, nm3]
                refine sw_pure (v := .bool true) (fun W => run_bin_of rfl rfl rfl (by go_simp)) rfl ?_
                simp only [nm0, nm1, nm2, nm3]
                refine sw_nil ?_
                by_cases f1 : d = 1
                · have g1 : ((d : Int) == 1) = true := by simp; omega
                  by_cases f2 : ee = 3
                  · have g2 : ((ee : Int) == 3) = true := by simp; omega
                    by_cases f3 : gg ≤ 7
                    · have g3 : (gg : Int) ≤ 7 := by omega
                      have HF := Lib.hid (show bracR l = true by rw [HR.out, HWN.out, decide_eq_true f1, decide_eq_true f2, decide_eq_true f3]; rfl)
                      go_upto_region 28 with fail
                      refine sw_lit ?_
                      refine sw_pure (v := .int .i64 (d : Int)) (fun W => rfl) rfl ?_
                      simp only [nm0, nm1, nm2, nm3]
                      refine sw_pure (v := .bool true) (fun W => run_bin_of rfl rfl rfl (by go_simp)) rfl ?_
                      simp only [nm0, nm1, nm2, nm3]
                      refine sw_pure (v := .bool true) (fun W => rfl) rfl ?_
                      simp only [nm0, nm1, nm2, nm3]
                      refine sw_pure (v := .int .i64 (ee : Int)) (fun W => rfl) rfl ?_
                      simp only [nm0, nm1, nm2, nm3]
                      refine sw_pure (v := .int .i64 3) (fun W => rfl) rfl ?_
                      simp only [nm0, nm1, nm2, nm3]
                      refine sw_pure (v := .bool true) (fun W => run_bin_of rfl rfl rfl (by go_simp)) rfl ?_
                      simp only [nm0, nm1, nm2, nm3]
                      refine sw_pure (v := .bool true) (fun W => rfl) rfl ?_
                      simp only [nm0, nm1, nm2, nm3]
                      refine sw_pure (v := .bool true) (fun W => rfl) rfl ?_
                      simp only [nm0, nm1, nm2, nm3]
                      refine sw_pure (v := .int .i64 (gg : Int)) (fun W => rfl) rfl ?_
                      simp only [nm0, nm1, nm2, nm3]
                      refine sw_pure (v := .bool true) (fun W => run_bin_of rfl rfl rfl (by go_simp)) rfl ?_
                      simp only [nm0, nm1, nm2, nm3]
                      refine sw_pure (v := .bool true) (fun W => rfl) rfl ?_
                      simp only [nm0, nm1, nm2, nm3]
                      refine sw_pure (v := .bool true) (fun W => rfl) rfl ?_
                      simp only [nm0, nm1, nm2, nm3]
                      refine sw_nil ?_
                      go_wp2_with fail
                      go_ret
                      exact ⟨ret_bool HF.out.symm, HBW.out⟩
                    · have g3 : ¬ (gg : Int) ≤ 7 := by omega
                      have HF := Lib.hid (show bracR l = false by rw [HR.out, HWN.out, decide_eq_true f1, decide_eq_true f2, decide_eq_false f3]; rfl)
                      go_upto_region 28 with fail
                      refine sw_lit ?_
                      refine sw_pure (v := .int .i64 (d : Int)) (fun W => rfl) rfl ?_
                      simp only [nm0, nm1, nm2, nm3]
                      refine sw_pure (v := .bool true) (fun W => run_bin_of rfl rfl rfl (by go_simp)) rfl ?_
                      simp only [nm0, nm1, nm2, nm3]
                      refine sw_pure (v := .bool true) (fun W => rfl) rfl ?_
                      simp only [nm0, nm1, nm2, nm3]
                      refine sw_pure (v := .int .i64 (ee : Int)) (fun W => rfl) rfl ?_
                      simp only [nm0, nm1, nm2, nm3]
                      refine sw_pure (v := .int .i64 3) (fun W => rfl) rfl ?_
                      simp only [nm0, nm1, nm2, nm3]
                      refine sw_pure (v := .bool true) (fun W => run_bin_of rfl rfl rfl (by go_simp)) rfl ?_
                      simp only [nm0, nm1, nm2, nm3]
                      refine sw_pure (v := .bool true) (fun W => rfl) rfl ?_
                      simp only [nm0, nm1, nm2, nm3]
                      refine sw_pure (v := .bool true) (fun W => rfl) rfl ?_
                      simp only [nm0, nm1, nm2, nm3]
                      refine sw_pure (v := .int .i64 (gg : Int)) (fun W => rfl) rfl ?_
                      simp only [nm0, nm1, nm2, nm3]
                      refine sw_pure (v := .bool false) (fun W => run_bin_of rfl rfl rfl (by go_simp)) rfl ?_
                      simp only [nm0, nm1, nm2, nm3]
                      refine sw_pure (v := .bool false) (fun W => rfl) rfl ?_
                      simp only [nm0, nm1, nm2, nm3]
                      refine sw_pure (v := .bool false) (fun W => rfl) rfl ?_
                      simp only [nm0, nm1, nm2, nm3]
                      refine sw_nil ?_
                      go_wp2_with fail
                      go_ret
                      exact ⟨ret_bool HF.out.symm, HBW.out⟩
                  · have g2 : ((ee : Int) == 3) = false := by simp; omega
                    have HF := Lib.hid (show bracR l = false by rw [HR.out, HWN.out, decide_eq_true f1, decide_eq_false f2]; rfl)
                    go_upto_region 28 with fail
                    refine sw_lit ?_
                    refine sw_pure (v := .int .i64 (d : Int)) (fun W => rfl) rfl ?_
                    simp only [nm0, nm1, nm2, nm3]
                    refine sw_pure (v := .bool true) (fun W => run_bin_of rfl rfl rfl (by go_simp)) rfl ?_
                    simp only [nm0, nm1, nm2, nm3]
                    refine sw_pure (v := .bool true) (fun W => rfl) rfl ?_
                    simp only [nm0, nm1, nm2, nm3]
                    refine sw_pure (v := .int .i64 (ee : Int)) (fun W => rfl) rfl ?_
                    simp only [nm0, nm1, nm2, nm3]
                    refine sw_pure (v := .int .i64 3) (fun W => rfl) rfl ?_
                    simp only [nm0, nm1, nm2, nm3]
                    refine sw_pure (v := .bool false) (fun W => run_bin_of rfl rfl rfl (by go_simp)) rfl ?_
                    simp only [nm0, nm1, nm2, nm3]
                    refine sw_pure (v := .bool false) (fun W => rfl) rfl ?_
                    simp only [nm0, nm1, nm2, nm3]
                    refine sw_pure (v := .bool false) (fun W => rfl) rfl ?_
                    simp only [nm0, nm1, nm2, nm3]
                    refine sw_skip rfl ?_
                    simp only [nm0, nm1, nm2, nm3]
                    refine sw_skip rfl ?_
                    simp only [nm0, nm1, nm2, nm3]
                    refine sw_pure (v := .bool false) (fun W => rfl) rfl ?_
                    simp only [nm0, nm1, nm2, nm3]
                    refine sw_pure (v := .bool false) (fun W => rfl) rfl ?_
                    simp only [nm0, nm1, nm2, nm3]
                    refine sw_nil ?_
                    go_wp2_with fail
                    go_ret
                    exact ⟨ret_bool HF.out.symm, HBW.out⟩
                · have g1 : ((d : Int) == 1) = false := by simp; omega
                  have HF := Lib.hid (show bracR l = false by rw [HR.out, decide_eq_false f1]; rfl)
                  go_upto_region 28 with fail
                  refine sw_lit ?_
                  refine sw_pure (v := .int .i64 (d : Int)) (fun W => rfl) rfl ?_
                  simp only [nm0, nm1, nm2, nm3]
                  refine sw_pure (v := .bool false) (fun W => run_bin_of rfl rfl rfl (by go_simp)) rfl ?_
                  simp only [nm0, nm1, nm2, nm3]
                  refine sw_pure (v := .bool false) (fun W => rfl) rfl ?_
                  simp only [nm0, nm1, nm2, nm3]
                  refine sw_skip rfl ?_
                  simp only [nm0, nm1, nm2, nm3]
                  refine sw_skip rfl ?_
                  simp only [nm0, nm1, nm2, nm3]
                  refine sw_skip rfl ?_
                  simp only [nm0, nm1, nm2, nm3]
                  refine sw_pure (v := .bool false) (fun W => rfl) rfl ?_
                  simp only [nm0, nm1, nm2, nm3]
                  refine sw_pure (v := .bool false) (fun W => rfl) rfl ?_
                  simp only [nm0, nm1, nm2, nm3]
                  refine sw_skip rfl ?_
                  simp only [nm0, nm1, nm2, nm3]
                  refine sw_skip rfl ?_
                  simp only [nm0, nm1, nm2, nm3]
                  refine sw_pure (v := .bool false) (fun W => rfl) rfl ?_
                  simp only [nm0, nm1, nm2, nm3]
                  refine sw_pure (v := .bool false) (fun W => rfl) rfl ?_
                  simp only [nm0, nm1, nm2, nm3]
                  refine sw_nil ?_
                  go_wp2_with fail
                  go_ret
                  exact ⟨ret_bool HF.out.symm, HBW.out⟩
              · obtain ⟨T2, eT2⟩ : ∃ X : ByteArray, (⟨(t.drop (t.length - 2)).toArray⟩ : ByteArray) = X := ⟨_, rfl⟩
                have qb := txt_two _ wb
                rw [eT2] at qb
                have HT2 := Lib.hid (show T.extract (T.size - 2) T.size = T2 by rw [E2.out, hzt, eT2])
                clear eT2
                have HWN := Lib.hid (show wantN t = 2 by unfold wantN; rw [if_pos wa, if_neg wb])
                clear wa wb hzt
                go_upto_region 24 with fail
                refine sw_lit ?_
                refine sw_pure (v := .string T) (fun W => rfl) rfl ?_
                simp only [nm0, nm1, nm2, nm3]
                refine sw_pure (v := .string ⟨#[58, 58]⟩) (fun W => by rw [← HT1.out]; refine run_slc_str W rfl rfl ?_; exact slc_str_hi (j := 2) W Tryd.underlying9 (by have := HTL.out; omega)) rfl ?_
                simp only [nm0, nm1, nm2, nm3]
                refine sw_pure (v := .bool true) (fun W => run_bin_of rfl rfl rfl (by go_simp)) rfl ?_
                simp only [nm0, nm1, nm2, nm3]
                refine sw_nil ?_
                go_upto_region 26 with fail
                refine sw_lit ?_
                refine sw_pure (v := .string T) (fun W => rfl) rfl ?_
                simp only [nm0, nm1, nm2, nm3]
                refine sw_pure (v := .string T) (fun W => rfl) rfl ?_
                simp only [nm0, nm1, nm2, nm3]
                refine sw_pure (v := .int .i64 (T.size : Int)) (fun W => by go_simp) rfl ?_
                simp only [nm0, nm1, nm2, nm3]
                refine sw_pure (v := .int .i64 ((T.size - 2 : Nat) : Int)) (fun W => run_bin_of rfl rfl rfl (by go_simp)) rfl ?_
                simp only [nm0, nm1, nm2, nm3]
                refine sw_pure (v := .string T2) (fun W => by rw [← HT2.out]; refine run_slc_str W rfl rfl ?_; exact slc_str_lo W Tryd.underlying9 (by omega)) rfl ?_
                simp only [nm0, nm1, nm2, nm3]
                refine sw_pure (v := .bool false) (fun W => run_bin_of rfl rfl rfl (by go_simp)) rfl ?_
                simp only [nm0, nm1, nm2, nm3]
                refine sw_nil ?_
                by_cases f1 : d = 1
                · have g1 : ((d : Int) == 1) = true := by simp; omega
                  by_cases f2 : ee = 2
                  · have g2 : ((ee : Int) == 2) = true := by simp; omega
                    by_cases f3 : gg ≤ 7
                    · have g3 : (gg : Int) ≤ 7 := by omega
                      have HF := Lib.hid (show bracR l = true by rw [HR.out, HWN.out, decide_eq_true f1, decide_eq_true f2, decide_eq_true f3]; rfl)
                      go_upto_region 28 with fail
                      refine sw_lit ?_
                      refine sw_pure (v := .int .i64 (d : Int)) (fun W => rfl) rfl ?_
                      simp only [nm0, nm1, nm2, nm3]
                      refine sw_pure (v := .bool true) (fun W => run_bin_of rfl rfl rfl (by go_simp)) rfl ?_
                      simp only [nm0, nm1, nm2, nm3]
                      refine sw_pure (v := .bool true) (fun W => rfl) rfl ?_
                      simp only [nm0, nm1, nm2, nm3]
                      refine sw_pure (v := .int .i64 (ee : Int)) (fun W => rfl) rfl ?_
                      simp only [nm0, nm1, nm2, nm3]
                      refine sw_pure (v := .int .i64 2) (fun W => rfl) rfl ?_
                      simp only [nm0, nm1, nm2, nm3]
                      refine sw_pure (v := .bool true) (fun W => run_bin_of rfl rfl rfl (by go_simp)) rfl ?_
                      simp only [nm0, nm1, nm2, nm3]
                      refine sw_pure (v := .bool true) (fun W => rfl) rfl ?_
                      simp only [nm0, nm1, nm2, nm3]
                      refine sw_pure (v := .bool true) (fun W => rfl) rfl ?_
                      simp only [nm0, nm1, nm2, nm3]
                      refine sw_pure (v := .int .i64 (gg : Int)) (fun W => rfl) rfl ?_
                      simp only [nm0, nm1, nm2, nm3]
                      refine sw_pure (v := .bool true) (fun W => run_bin_of rfl rfl rfl (by go_simp)) rfl ?_
                      simp only [nm0, nm1, nm2, nm3]
                      refine sw_pure (v := .bool true) (fun W => rfl) rfl ?_
                      simp only [nm0, nm1, nm2, nm3]
                      refine sw_pure (v := .bool true) (fun W => rfl) rfl ?_
                      simp only [nm0, nm1, nm2, nm3]
                      refine sw_nil ?_
                      go_wp2_with fail
                      go_ret
                      exact ⟨ret_bool HF.out.symm, HBW.out⟩
                    · have g3 : ¬ (gg : Int) ≤ 7 := by omega
                      have HF := Lib.hid (show bracR l = false by rw [HR.out, HWN.out, decide_eq_true f1, decide_eq_true f2, decide_eq_false f3]; rfl)
                      go_upto_region 28 with fail
                      refine sw_lit ?_
                      refine sw_pure (v := .int .i64 (d : Int)) (fun W => rfl) rfl ?_
                      simp only [nm0, nm1, nm2, nm3]
                      refine sw_pure (v := .bool true) (fun W => run_bin_of rfl rfl rfl (by go_simp)) rfl ?_
                      simp only [nm0, nm1, nm2, nm3]
                      refine sw_pure (v := .bool true) (fun W => rfl) rfl ?_
                      simp only [nm0, nm1, nm2, nm3]
                      refine sw_pure (v := .int .i64 (ee : Int)) (fun W => rfl) rfl ?_
                      simp only [nm0, nm1, nm2, nm3]
                      refine sw_pure (v := .int .i64 2) (fun W => rfl) rfl ?_
                      simp only [nm0, nm1, nm2, nm3]
                      refine sw_pure (v := .bool true) (fun W => run_bin_of rfl rfl rfl (by go_simp)) rfl ?_
                      simp only [nm0, nm1, nm2, nm3]
                      refine sw_pure (v := .bool true) (fun W => rfl) rfl ?_
                      simp only [nm0, nm1, nm2, nm3]
                      refine sw_pure (v := .bool true) (fun W => rfl) rfl ?_
                      simp only [nm0, nm1, nm2, nm3]
                      refine sw_pure (v := .int .i64 (gg : Int)) (fun W => rfl) rfl ?_
                      simp only [nm0, nm1, nm2, nm3]
                      refine sw_pure (v := .bool false) (fun W => run_bin_of rfl rfl rfl (by go_simp)) rfl ?_
                      simp only [nm0, nm1, nm2, nm3]
                      refine sw_pure (v := .bool false) (fun W => rfl) rfl ?_
                      simp only [nm0, nm1, nm2, nm3]
                      refine sw_pure (v := .bool false) (fun W => rfl) rfl ?_
                      simp only [nm0, nm1, nm2, nm3]
                      refine sw_nil ?_
                      go_wp2_with fail
                      go_ret
                      exact ⟨ret_bool HF.out.symm, HBW.out⟩
                  · have g2 : ((ee : Int) == 2) = false := by simp; omega
                    have HF := Lib.hid (show bracR l = false by rw [HR.out, HWN.out, decide_eq_true f1, decide_eq_false f2]; rfl)
                    go_upto_region 28 with fail
                    refine sw_lit ?_
                    refine sw_pure (v := .int .i64 (d : Int)) (fun W => rfl) rfl ?_
                    simp only [nm0, nm1, nm2, nm3]
                    refine sw_pure (v := .bool true) (fun W => run_bin_of rfl rfl rfl (by go_simp)) rfl ?_
                    simp only [nm0, nm1, nm2, nm3]
                    refine sw_pure (v := .bool true) (fun W => rfl) rfl ?_
                    simp only [nm0, nm1, nm2, nm3]
                    refine sw_pure (v := .int .i64 (ee : Int)) (fun W => rfl) rfl ?_
                    simp only [nm0, nm1, nm2, nm3]
                    refine sw_pure (v := .int .i64 2) (fun W => rfl) rfl ?_
                    simp only [nm0, nm1, nm2, nm3]
                    refine sw_pure (v := .bool false) (fun W => run_bin_of rfl rfl rfl (by go_simp)) rfl ?_
                    simp only [nm0, nm1, nm2, nm3]
                    refine sw_pure (v := .bool false) (fun W => rfl) rfl ?_
                    simp only [nm0, nm1, nm2, nm3]
                    refine sw_pure (v := .bool false) (fun W => rfl) rfl ?_
                    simp only [nm0, nm1, nm2, nm3]
                    refine sw_skip rfl ?_
                    simp only [nm0, nm1, nm2, nm3]
                    refine sw_skip rfl ?_
                    simp only [nm0, nm1, nm2, nm3]
                    refine sw_pure (v := .bool false) (fun W => rfl) rfl ?_
                    simp only [nm0, nm1, nm2, nm3]
                    refine sw_pure (v := .bool false) (fun W => rfl) rfl ?_
                    simp only [nm0, nm1, nm2, nm3]
                    refine sw_nil ?_
                    go_wp2_with fail
                    go_ret
                    exact ⟨ret_bool HF.out.symm, HBW.out⟩
                · have g1 : ((d : Int) == 1) = false := by simp; omega
                  have HF := Lib.hid (show bracR l = false by rw [HR.out, decide_eq_false f1]; rfl)
                  go_upto_region 28 with fail
                  refine sw_lit ?_
                  refine sw_pure (v := .int .i64 (d : Int)) (fun W => rfl) rfl ?_
                  simp only [nm0, nm1, nm2, nm3]
                  refine sw_pure (v := .bool false) (fun W => run_bin_of rfl rfl rfl (by go_simp)) rfl ?_
                  simp only [nm0, nm1, nm2, nm3]
                  refine sw_pure (v := .bool false) (fun W => rfl) rfl ?_
                  simp only [nm0, nm1, nm2, nm3]
                  refine sw_skip rfl ?_
                  simp only [nm0, nm1, nm2, nm3]
                  refine sw_skip rfl ?_
                  simp only [nm0, nm1, nm2, nm3]
                  refine sw_skip rfl ?_
                  simp only [nm0, nm1, nm2, nm3]
                  refine sw_pure (v := .bool false) (fun W => rfl) rfl ?_
                  simp only [nm0, nm1, nm2, nm3]
                  refine sw_pure (v := .bool false) (fun W => rfl) rfl ?_
                  simp only [nm0, nm1, nm2, nm3]
                  refine sw_skip rfl ?_
                  simp only [nm0, nm1, nm2, nm3]
                  refine sw_skip rfl ?_
                  simp only [nm0, nm1, nm2, nm3]
                  refine sw_pure (v := .bool false) (fun W => rfl) rfl ?_
                  simp only [nm0, nm1, nm2, nm3]
                  refine sw_pure (v := .bool false) (fun W => rfl) rfl ?_
                  simp only [nm0, nm1, nm2, nm3]
                  refine sw_nil ?_
                  go_wp2_with fail
                  go_ret
                  exact ⟨ret_bool HF.out.symm, HBW.out⟩
            · obtain ⟨T1, eT1⟩ : ∃ X : ByteArray, (⟨(t.take 2).toArray⟩ : ByteArray) = X := ⟨_, rfl⟩
              have qa := txt_two _ wa
              rw [eT1] at qa
              have HT1 := Lib.hid (show T.extract 0 2 = T1 by rw [E1.out, eT1])
              clear eT1
              by_cases wb : t.drop (t.length - 2) = [58, 58]
              · have HT2 := Lib.hid (show T.extract (T.size - 2) T.size = ⟨#[58, 58]⟩ by rw [E2.out, hzt, wb])
                have HWN := Lib.hid (show wantN t = 2 by unfold wantN; rw [if_neg wa, if_pos wb])
                clear wa wb hzt
                go_upto_region 24 with fail
                refine sw_lit ?_
                refine sw_pure (v := .string T) (fun W => rfl) rfl ?_
                simp only [nm0, nm1, nm2, nm3]
                refine sw_pure (v := .string T1) (fun W => by rw [← HT1.out]; refine run_slc_str W rfl rfl ?_; exact slc_str_hi (j := 2) W Tryd.underlying9 (by have := HTL.out; omega)) rfl ?_
                simp only [nm0, nm1, nm2, nm3]
                refine sw_pure (v := .bool false) (fun W => run_bin_of rfl rfl rfl (by go_simp)) rfl ?_
                simp only [nm0, nm1, nm2, nm3]
                refine sw_nil ?_
                go_upto_region 26 with fail
                refine sw_lit ?_
                refine sw_pure (v := .string T) (fun W => rfl) rfl ?_
                simp only [nm0, nm1, nm2, nm3]
                refine sw_pure (v := .string T) (fun W => rfl) rfl ?_
                simp only [nm0, nm1, nm2, nm3]
                refine sw_pure (v := .int .i64 (T.size : Int)) (fun W => by go_simp) rfl ?_
                simp only [nm0, nm1, nm2, nm3]
                refine sw_pure (v := .int .i64 ((T.size - 2 : Nat) : Int)) (fun W => run_bin_of rfl rfl rfl (by go_simp)) rfl ?_
                simp only [nm0, nm1, nm2, nm3]
                refine sw_pure (v := .string ⟨#[58, 58]⟩) (fun W => by rw [← HT2.out]; refine run_slc_str W rfl rfl ?_; exact slc_str_lo W Tryd.underlying9 (by omega)) rfl ?_
                simp only [nm0, nm1, nm2, nm3]
                refine sw_pure (v := .bool true) (fun W => run_bin_of rfl rfl rfl (by go_simp)) rfl ?_
                simp only [nm0, nm1, nm2, nm3]
                refine sw_nil ?_
                by_cases f1 : d = 1
                · have g1 : ((d : Int) == 1) = true := by simp; omega
                  by_cases f2 : ee = 2
                  · have g2 : ((ee : Int) == 2) = true := by simp; omega
                    by_cases f3 : gg ≤ 7
                    · have g3 : (gg : Int) ≤ 7 := by omega
                      have HF := Lib.hid (show bracR l = true by rw [HR.out, HWN.out, decide_eq_true f1, decide_eq_true f2, decide_eq_true f3]; rfl)
                      go_upto_region 28 with fail
                      refine sw_lit ?_
                      refine sw_pure (v := .int .i64 (d : Int)) (fun W => rfl) rfl ?_
                      simp only [nm0, nm1, nm2, nm3]
                      refine sw_pure (v := .bool true) (fun W => run_bin_of rfl rfl rfl (by go_simp)) rfl ?_
                      simp only [nm0, nm1, nm2, nm3]
                      refine sw_pure (v := .bool true) (fun W => rfl) rfl ?_
                      simp only [nm0, nm1, nm2, nm3]
                      refine sw_pure (v := .int .i64 (ee : Int)) (fun W => rfl) rfl ?_
                      simp only [nm0, nm1, nm2, nm3]
                      refine sw_pure (v := .int .i64 2) (fun W => rfl) rfl ?_
                      simp only [nm0, nm1, nm2, nm3]
                      refine sw_pure (v := .bool true) (fun W => run_bin_of rfl rfl rfl (by go_simp)) rfl ?_
                      simp only [nm0, nm1, nm2, nm3]
                      refine sw_pure (v := .bool true) (fun W => rfl) rfl ?_
                      simp only [nm0, nm1, nm2, nm3]
                      refine sw_pure (v := .bool true) (fun W => rfl) rfl ?_
                      simp only [nm0, nm1, nm2, nm3]
                      refine sw_pure (v := .int .i64 (gg : Int)) (fun W => rfl) rfl ?_
                      simp only [nm0, nm1, nm2, nm3]
                      refine sw_pure (v := .bool true) (fun W => run_bin_of rfl rfl rfl (by go_simp)) rfl ?_
                      simp only [nm0, nm1, nm2, nm3]
                      refine sw_pure (v := .bool true) (fun W => rfl) rfl ?_
                      simp only [nm0, nm1, nm2, nm3]
                      refine sw_pure (v := .bool true) (fun W => rfl) rfl ?_
                      simp only [nm0, nm1, nm2, nm3]
                      refine sw_nil ?_
                      go_wp2_with fail
                      go_ret
                      exact ⟨ret_bool HF.out.symm, HBW.out⟩
                    · have g3 : ¬ (gg : Int) ≤ 7 := by omega
                      have HF := Lib.hid (show bracR l = false by rw [HR.out, HWN.out, decide_eq_true f1, decide_eq_true f2, decide_eq_false f3]; rfl)
                      go_upto_region 28 with fail
                      refine sw_lit ?_
                      refine sw_pure (v := .int .i64 (d : Int)) (fun W => rfl) rfl ?_
                      simp only [nm0, nm1, nm2, nm3]
                      refine sw_pure (v := .bool true) (fun W => run_bin_of rfl rfl rfl (by go_simp)) rfl ?_
                      simp only [nm0, nm1, nm2, nm3]
                      refine sw_pure (v := .bool true) (fun W => rfl) rfl ?_
                      simp only [nm0, nm1, nm2, nm3]
                      refine sw_pure (v := .int .i64 (ee : Int)) (fun W => rfl) rfl ?_
                      simp only [nm0, nm1, nm2, nm3]
                      refine sw_pure (v := .int .i64 2) (fun W => rfl) rfl ?_
                      simp only [nm0, nm1, nm2, nm3]
                      refine sw_pure (v := .bool true) (fun W => run_bin_of rfl rfl rfl (by go_simp)) rfl ?_
                      simp only [nm0, nm1, nm2, nm3]
                      refine sw_pure (v := .bool true) (fun W => rfl) rfl ?_
                      simp only [nm0, nm1, nm2, nm3]
                      refine sw_pure (v := .bool true) (fun W => rfl) rfl ?_
                      simp only [nm0, nm1, nm2, nm3]
                      refine sw_pure (v := .int .i64 (gg : Int)) (fun W => rfl) rfl ?_
                      simp only [nm0, nm1, nm2, nm3]
                      refine sw_pure (v := .bool false) (fun W => run_bin_of rfl rfl rfl (by go_simp)) rfl ?_
                      simp only [nm0, nm1, nm2, nm3]
                      refine sw_pure (v := .bool false) (fun W => rfl) rfl ?_
                      simp only [nm0, nm1, nm2, nm3]
                      refine sw_pure (v := .bool false) (fun W => rfl) rfl ?_
                      simp only [nm0, nm1, nm2, nm3]
                      refine sw_nil ?_
                      go_wp2_with fail
                      go_ret
                      exact ⟨ret_bool HF.out.symm, HBW.out⟩
                  · have g2 : ((ee : Int) == 2) = false := by simp; omega
                    have HF := Lib.hid (show bracR l = false by rw [HR.out, HWN.out, decide_eq_true f1, decide_eq_false f2]; rfl)
                    go_upto_region 28 with fail
                    refine sw_lit ?_
                    refine sw_pure (v := .int .i64 (d : Int)) (fun W => rfl) rfl ?_
                    simp only [nm0, nm1, nm2, nm3]
                    refine sw_pure (v := .bool true) (fun W => run_bin_of rfl rfl rfl (by go_simp)) rfl ?_
                    simp only [nm0, nm1, nm2, nm3]
                    refine sw_pure (v := .bool true) (fun W => rfl) rfl ?_
                    simp only [nm0, nm1, nm2, nm3]
                    refine sw_pure (v := .int .i64 (ee : Int)) (fun W => rfl) rfl ?_
                    simp only [nm0, nm1, nm2, nm3]
                    refine sw_pure (v := .int .i64 2) (fun W => rfl) rfl ?_
                    simp only [nm0, nm1, nm2, nm3]
                    refine sw_pure (v := .bool false) (fun W => run_bin_of rfl rfl rfl (by go_simp)) rfl ?_
                    simp only [nm0, nm1, nm2, nm3]
                    refine sw_pure (v := .bool false) (fun W => rfl) rfl ?_
                    simp only [nm0, nm1, nm2, nm3]
                    refine sw_pure (v := .bool false) (fun W => rfl) rfl ?_
                    simp only [nm0, nm1, nm2, nm3]
                    refine sw_skip rfl ?_
                    simp only [nm0, nm1, nm2, nm3]
                    refine sw_skip rfl ?_
                    simp only [nm0, nm1, nm2, nm3]
                    refine sw_pure (v := .bool false) (fun W => rfl) rfl ?_
                    simp only [nm0, nm1, nm2, nm3]
                    refine sw_pure (v := .bool false) (fun W => rfl) rfl ?_
                    simp only [nm0, nm1, nm2, nm3]
                    refine sw_nil ?_
                    go_wp2_with fail
                    go_ret
                    exact ⟨ret_bool HF.out.symm, HBW.out⟩
                · have g1 : ((d : Int) == 1) = false := by simp; omega
                  have HF := Lib.hid (show bracR l = false by rw [HR.out, decide_eq_false f1]; rfl)
                  go_upto_region 28 with fail
                  refine sw_lit ?_
                  refine sw_pure (v := .int .i64 (d : Int)) (fun W => rfl) rfl ?_
                  simp only [nm0, nm1, nm2, nm3]
                  refine sw_pure (v := .bool false) (fun W => run_bin_of rfl rfl rfl (by go_simp)) rfl ?_
                  simp only [nm0, nm1, nm2, nm3]
                  refine sw_pure (v := .bool false) (fun W => rfl) rfl ?_
                  simp only [nm0, nm1, nm2, nm3]
                  refine sw_skip rfl ?_
                  simp only [nm0, nm1, nm2, nm3]
                  refine sw_skip rfl ?_
                  simp only [nm0, nm1, nm2, nm3]
                  refine sw_skip rfl ?_
                  simp only [nm0, nm1, nm2, nm3]
                  refine sw_pure (v := .bool false) (fun W => rfl) rfl ?_
                  simp only [nm0, nm1, nm2, nm3]
                  refine sw_pure (v := .bool false) (fun W => rfl) rfl ?_
                  simp only [nm0, nm1, nm2, nm3]
                  refine sw_skip rfl ?_
                  simp only [nm0, nm1, nm2, nm3]
                  refine sw_skip rfl ?_
                  simp only [nm0, nm1, nm2, nm3]
                  refine sw_pure (v := .bool false) (fun W => rfl) rfl ?_
                  simp only [nm0, nm1, nm2, nm3]
                  refine sw_pure (v := .bool false) (fun W => rfl) rfl ?_
                  simp only [nm0, nm1, nm2, nm3]
                  refine sw_nil ?_
                  go_wp2_with fail
                  go_ret
                  exact ⟨ret_bool HF.out.symm, HBW.out⟩
              · obtain ⟨T2, eT2⟩ : ∃ X : ByteArray, (⟨(t.drop (t.length - 2)).toArray⟩ : ByteArray) = X := ⟨_, rfl⟩
                have qb := txt_two _ wb
                rw [eT2] at qb
                have HT2 := Lib.hid (show T.extract (T.size - 2) T.size = T2 by rw [E2.out, hzt, eT2])
                clear eT2
                have HWN := Lib.hid (show wantN t = 1 by unfold wantN; rw [if_neg wa, if_neg wb])
                clear wa wb hzt
                go_upto_region 24 with fail
                refine sw_lit ?_
                refine sw_pure (v := .string T) (fun W => rfl) rfl ?_
                simp only [nm0, nm1, nm2, nm3]
                refine sw_pure (v := .string T1) (fun W => by rw [← HT1.out]; refine run_slc_str W rfl rfl ?_; exact slc_str_hi (j := 2) W Tryd.underlying9 (by have := HTL.out; omega)) rfl ?_
                simp only [nm0, nm1, nm2, nm3]
                refine sw_pure (v := .bool false) (fun W => run_bin_of rfl rfl rfl (by go_simp)) rfl ?_
                simp only [nm0, nm1, nm2, nm3]
                refine sw_nil ?_
                go_upto_region 26 with fail
                refine sw_lit ?_
                refine sw_pure (v := .string T) (fun W => rfl) rfl ?_
                simp only [nm0, nm1, nm2, nm3]
                refine sw_pure (v := .string T) (fun W => rfl) rfl ?_
                simp only [nm0, nm1, nm2, nm3]
                refine sw_pure (v := .int .i64 (T.size : Int)) (fun W => by go_simp) rfl ?_
                simp only [nm0, nm1, nm2, nm3]
                refine sw_pure (v := .int .i64 ((T.size - 2 : Nat) : Int)) (fun W => run_bin_of rfl rfl rfl (by go_simp)) rfl ?_
                simp only [nm0, nm1, nm2, nm3]
                refine sw_pure (v := .string T2) (fun W => by rw [← HT2.out]; refine run_slc_str W rfl rfl ?_; exact slc_str_lo W Tryd.underlying9 (by omega)) rfl ?_
                simp only [nm0, nm1, nm2, nm3]
                refine sw_pure (v := .bool false) (fun W => run_bin_of rfl rfl rfl (by go_simp)) rfl ?_
                simp only [nm0, nm1, nm2, nm3]
                refine sw_nil ?_
                by_cases f1 : d = 1
                · have g1 : ((d : Int) == 1) = true := by simp; omega
                  by_cases f2 : ee = 1
                  · have g2 : ((ee : Int) == 1) = true := by simp; omega
                    by_cases f3 : gg ≤ 7
                    · have g3 : (gg : Int) ≤ 7 := by omega
                      have HF := Lib.hid (show bracR l = true by rw [HR.out, HWN.out, decide_eq_true f1, decide_eq_true f2, decide_eq_true f3]; rfl)
                      go_upto_region 28 with fail
                      refine sw_lit ?_
                      refine sw_pure (v := .int .i64 (d : Int)) (fun W => rfl) rfl ?_
                      simp only [nm0, nm1, nm2, nm3]
                      refine sw_pure (v := .bool true) (fun W => run_bin_of rfl rfl rfl (by go_simp)) rfl ?_
                      simp only [nm0, nm1, nm2, nm3]
                      refine sw_pure (v := .bool true) (fun W => rfl) rfl ?_
                      simp only [nm0, nm1, nm2, nm3]
                      refine sw_pure (v := .int .i64 (ee : Int)) (fun W => rfl) rfl ?_
                      simp only [nm0, nm1, nm2, nm3]
                      refine sw_pure (v := .int .i64 1) (fun W => rfl) rfl ?_
                      simp only [nm0, nm1, nm2, nm3]
                      refine sw_pure (v := .bool true) (fun W => run_bin_of rfl rfl rfl (by go_simp)) rfl ?_
                      simp only [nm0, nm1, nm2, nm3]
                      refine sw_pure (v := .bool true) (fun W => rfl) rfl ?_
                      simp only [nm0, nm1, nm2, nm3]
                      refine sw_pure (v := .bool true) (fun W => rfl) rfl ?_
                      simp only [nm0, nm1, nm2, nm3]
                      refine sw_pure (v := .int .i64 (gg : Int)) (fun W => rfl) rfl ?_
                      simp only [nm0, nm1, nm2, nm3]
                      refine sw_pure (v := .bool true) (fun W => run_bin_of rfl rfl rfl (by go_simp)) rfl ?_
                      simp only [nm0, nm1, nm2, nm3]
                      refine sw_pure (v := .bool true) (fun W => rfl) rfl ?_
                      simp only [nm0, nm1, nm2, nm3]
                      refine sw_pure (v := .bool true) (fun W => rfl) rfl ?_
                      simp only [nm0, nm1, nm2, nm3]
                      refine sw_nil ?_
                      go_wp2_with fail
                      go_ret
                      exact ⟨ret_bool HF.out.symm, HBW.out⟩
                    · have g3 : ¬ (gg : Int) ≤ 7 := by omega
                      have HF := Lib.hid (show bracR l = false by rw [HR.out, HWN.out, decide_eq_true f1, decide_eq_true f2, decide_eq_false f3]; rfl)
                      go_upto_region 28 with fail
                      refine sw_lit ?_
                      refine sw_pure (v := .int .i64 (d : Int)) (fun W => rfl) rfl ?_
                      simp only [nm0, nm1, nm2, nm3]
                      refine sw_pure (v := .bool true) (fun W => run_bin_of rfl rfl rfl (by go_simp)) rfl ?_
                      simp only [nm0, nm1, nm2, nm3]
                      refine sw_pure (v := .bool true) (fun W => rfl) rfl ?_
                      simp only [nm0, nm1, nm2, nm3]
                      refine sw_pure (v := .int .i64 (ee : Int)) (fun W => rfl) rfl ?_
                      simp only [nm0, nm1, nm2, nm3]
                      refine sw_pure (v := .int .i64 1) (fun W => rfl) rfl ?_
                      simp only [nm0, nm1, nm2, nm3]
                      refine sw_pure (v := .bool true) (fun W => run_bin_of rfl rfl rfl (by go_simp)) rfl ?_
                      simp only [nm0, nm1, nm2, nm3]
                      refine sw_pure (v := .bool true) (fun W => rfl) rfl ?_
                      simp only [nm0, nm1, nm2, nm3]
                      refine sw_pure (v := .bool true) (fun W => rfl) rfl ?_
                      simp only [nm0, nm1, nm2, nm3]
                      refine sw_pure (v := .int .i64 (gg : Int)) (fun W => rfl) rfl ?_
                      simp only [nm0, nm1, nm2, nm3]
                      refine sw_pure (v := .bool false) (fun W => run_bin_of rfl rfl rfl (by go_simp)) rfl ?_
                      simp only [nm0, nm1, nm2, nm3]
                      refine sw_pure (v := .bool false) (fun W => rfl) rfl ?_
                      simp only [nm0, nm1, nm2, nm3]
                      refine sw_pure (v := .bool false) (fun W => rfl) rfl ?_
                      simp only [nm0, nm1, nm2, nm3]
                      refine sw_nil ?_
                      go_wp2_with fail
                      go_ret
                      exact ⟨ret_bool HF.out.symm, HBW.out⟩
                  · have g2 : ((ee : Int) == 1) = false := by simp; omega
                    have HF := Lib.hid (show bracR l = false by rw [HR.out, HWN.out, decide_eq_true f1, decide_eq_false f2]; rfl)
                    go_upto_region 28 with fail
                    refine sw_lit ?_
                    refine sw_pure (v := .int .i64 (d : Int)) (fun W => rfl) rfl ?_
                    simp only [nm0, nm1, nm2, nm3]
                    refine sw_pure (v := .bool true) (fun W => run_bin_of rfl rfl rfl (by go_simp)) rfl ?_
                    simp only [nm0, nm1, nm2, nm3]
                    refine sw_pure (v := .bool true) (fun W => rfl) rfl ?_
                    simp only [nm0, nm1, nm2, nm3]
                    refine sw_pure (v := .int .i64 (ee : Int)) (fun W => rfl) rfl ?_
                    simp only [nm0, nm1, nm2, nm3]
                    refine sw_pure (v := .int .i64 1) (fun W => rfl) rfl ?_
                    simp only [nm0, nm1, nm2, nm3]
                    refine sw_pure (v := .bool false) (fun W => run_bin_of rfl rfl rfl (by go_simp)) rfl ?_
                    simp only [nm0, nm1, nm2, nm3]
                    refine sw_pure (v := .bool false) (fun W => rfl) rfl ?_
                    simp only [nm0, nm1, nm2, nm3]
                    refine sw_pure (v := .bool false) (fun W => rfl) rfl ?_
                    simp only [nm0, nm1, nm2, nm3]
                    refine sw_skip rfl ?_
                    simp only [nm0, nm1, nm2, nm3]
                    refine sw_skip rfl ?_
                    simp only [nm0, nm1, nm2, nm3]
                    refine sw_pure (v := .bool false) (fun W => rfl) rfl ?_
                    simp only [nm0, nm1, nm2, nm3]
                    refine sw_pure (v := .bool false) (fun W => rfl) rfl ?_
                    simp only [nm0, nm1, nm2, nm3]
                    refine sw_nil ?_
                    go_wp2_with fail
                    go_ret
                    exact ⟨ret_bool HF.out.symm, HBW.out⟩
                · have g1 : ((d : Int) == 1) = false := by simp; omega
                  have HF := Lib.hid (show bracR l = false by rw [HR.out, decide_eq_false f1]; rfl)
                  go_upto_region 28 with fail
                  refine sw_lit ?_
                  refine sw_pure (v := .int .i64 (d : Int)) (fun W => rfl) rfl ?_
                  simp only [nm0, nm1, nm2, nm3]
                  refine sw_pure (v := .bool false) (fun W => run_bin_of rfl rfl rfl (by go_simp)) rfl ?_
                  simp only [nm0, nm1, nm2, nm3]
                  refine sw_pure (v := .bool false) (fun W => rfl) rfl ?_
                  simp only [nm0, nm1, nm2, nm3]
                  refine sw_skip rfl ?_
                  simp only [nm0, nm1, nm2, nm3]
                  refine sw_skip rfl ?_
                  simp only [nm0, nm1, nm2, nm3]
                  refine sw_skip rfl ?_
                  simp only [nm0, nm1, nm2, nm3]
                  refine sw_pure (v := .bool false) (fun W => rfl) rfl ?_
                  simp only [nm0, nm1, nm2, nm3]
                  refine sw_pure (v := .bool false) (fun W => rfl) rfl ?_
                  simp only [nm0, nm1, nm2, nm3]
                  refine sw_skip rfl ?_
                  simp only [nm0, nm1, nm2, nm3]
                  refine sw_skip rfl ?_
                  simp only [nm0, nm1, nm2, nm3]
                  refine sw_pure (v := .bool false) (fun W => rfl) rfl ?_
                  simp only [nm0, nm1, nm2, nm3]
                  refine sw_pure (v := .bool false) (fun W => rfl) rfl ?_
                  simp only [nm0, nm1, nm2, nm3]
                  refine sw_nil ?_
                  go_wp2_with fail
                  go_ret
                  exact ⟨ret_bool HF.out.symm, HBW.out⟩
end Go.Proofs.YtdnkpclpcelbaaaDoor
