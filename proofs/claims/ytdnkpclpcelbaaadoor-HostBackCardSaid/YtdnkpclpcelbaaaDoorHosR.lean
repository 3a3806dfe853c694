/- host (layer 27): Parts, by the program and by the reference. -/
import Derived.Test.YtdnkpclpcelbaaaDoorHosQ
namespace Go.Proofs.YtdnkpclpcelbaaaDoor
set_option maxRecDepth 20000
set_option linter.unusedSimpArgs false
set_option linter.unusedVariables false
open Go.RowKit Go.Lib Go.Shelf Go.Sort
attribute [local go_sem] Oper.semAt_some
abbrev atI (l : List UInt8) : Int := Lib.lastIndexByte ⟨l.toArray⟩ 58
def numV (l : List UInt8) : Int × Bool := numI ⟨l.toArray⟩ 1 65535
def partsV (l : List UInt8) : List UInt8 × Int × Int :=
  if 230 < l.length then ([], 0, 4) else if kindI l ≠ 0 then (l, 0, 0) else if atI l < 0 then ([], 0, 25) else if kindI (l.take (atI l).toNat) = 0 then ([], 0, 25) else if (numV (l.drop ((atI l).toNat + 1))).2 then (l.take (atI l).toNat, (numV (l.drop ((atI l).toNat + 1))).1, 0) else ([], 0, 25)
abbrev retHP (x : List UInt8 × Int × Int) : Ending := .returned (.tuple #[.string ⟨x.1.toArray⟩, .int .i64 x.2.1, .int .i64 x.2.2])
theorem atI_cases (l : List UInt8) : atI l = -1 ∨ ∃ i : Nat, atI l = i ∧ i < l.length := by
  rcases Lib.lastIndexByte_spec ⟨l.toArray⟩ 58 with ⟨h, -⟩ | ⟨i, h1, h2, -⟩
  · exact .inl h
  · rw [ba_size] at h1
    exact .inr ⟨i, h2, h1⟩
theorem last_step (l : List UInt8) (k : Nat) (h : k < l.length) : Lib.lastIdx ⟨l.toArray⟩ 58 (k + 1) = if (l.getD k 0).toNat = 58 then (k : Int) else Lib.lastIdx ⟨l.toArray⟩ 58 k := by
  rw [Lib.lastIdx]
  have e : ((⟨l.toArray⟩ : ByteArray).data[k]!) = l.getD k 0 := by
    show (l.toArray)[k]! = _
    rw [getElem!_pos l.toArray k (by simpa using h), List.getD_eq_getElem?_getD, List.getElem?_eq_getElem h]
    simp
  rw [e]
  by_cases c : (l.getD k 0).toNat = 58
  · rw [if_pos c, if_pos (by omega)]
  · rw [if_neg c, if_neg (by omega)]
theorem kindI_nn (l : List UInt8) : 0 ≤ kindI l := by
  unfold kindI
  split
  · decide
  split
  · decide
  split
  · decide
  · decide
set_option maxRecDepth 100000 in
set_option maxHeartbeats 8000000 in
theorem hparts_any (l : List UInt8) (hl : l.length ≤ 100000) (m : Int) (w : World) (hm : w.cell? ⟨gMaxH, 0, none⟩ = some (.int .i64 m)) :
    Calls Tryd.prog 8 #[.string ⟨l.toArray⟩] w fun e w' => e = retHP (partsV l) ∧ Below w.heap.size w w' := by
  have hzs := ba_size l
  by_cases c1 : 230 < l.length
  · have HV := Lib.hid (show partsV l = ([], 0, 4) from if_pos c1)
    obtain ⟨S, eS⟩ : ∃ S : ByteArray, (⟨l.toArray⟩ : ByteArray) = S := ⟨_, rfl⟩
    rw [eS] at hzs ⊢
    have q1 : (230 : Int) < (S.size : Int) := by omega
    clear eS hzs
    go_enter Tryd.func8, Tryd.ntmps8
    go_wp2_with fail
    go_ret3
    exact ⟨by first | (rw [HV.out]; rfl) | exact Eq.trans (b := retHP ([], 0, 25)) rfl (congrArg retHP HV.out.symm), Below.refl _ _⟩
  have K1 := Lib.hid (kind_any l (by omega) m w hm)
  have hpv : partsV l = if kindI l ≠ 0 then (l, 0, 0) else if atI l < 0 then ([], 0, 25) else if kindI (l.take (atI l).toNat) = 0 then ([], 0, 25) else if (numV (l.drop ((atI l).toNat + 1))).2 then (l.take (atI l).toNat, (numV (l.drop ((atI l).toNat + 1))).1, 0) else ([], 0, 25) := if_neg c1
  have hat := atI_cases l
  have KL := Lib.hid (fun w => Tryd.strings_LastIndexByte ⟨l.toArray⟩ 58 (by rw [ba_size]; omega) w)
  have lgm := blk_of_cellH hm
  simp only at lgm
  have HM := Lib.hid hm
  clear hm
  have htk := ext_take l
  have hdp := ext_drop l
  obtain ⟨S, eS⟩ : ∃ S : ByteArray, (⟨l.toArray⟩ : ByteArray) = S := ⟨_, rfl⟩
  rw [eS] at hzs K1 KL ⊢
  rw [eS] at htk hdp
  have q1 : ¬ (230 : Int) < (S.size : Int) := by omega
  obtain ⟨k1, ek1⟩ : ∃ k1, kindI l = k1 := ⟨_, rfl⟩
  rw [ek1] at K1 hpv
  by_cases c2 : k1 = 0
  case neg =>
    have HV := Lib.hid (show partsV l = (l, 0, 0) by rw [hpv, if_pos c2])
    have HS := Lib.hid eS
    have q2 : (k1 == 0) = false := by simpa using c2
    have q3 : (k1 != 0) = true := by simpa using c2
    clear hpv hat hzs htk hdp eS ek1
    go_enter Tryd.func8, Tryd.ntmps8
    go_wp2_with fail
    refine K1.out.mono ?_
    rintro e w1 ⟨rfl, hb⟩
    go_wp2_with fail
    go_ret3
    exact ⟨by rw [HV.out, ← HS.out]; rfl, hb⟩
  subst c2
  rw [if_neg (fun h => h rfl)] at hpv
  rcases hat with h | ⟨i, h, hi⟩
  · have HV := Lib.hid (show partsV l = ([], 0, 25) by rw [hpv, if_pos (by omega)])
    rw [show Lib.lastIndexByte S 58 = -1 by rw [← eS]; exact h] at KL
    clear hpv hzs htk hdp eS ek1 h
    go_enter Tryd.func8, Tryd.ntmps8
    go_wp2_with fail
    refine K1.out.mono ?_
    rintro e w1 ⟨rfl, hb⟩
    go_wp2_with fail
    refine (KL.out _).mono ?_
    rintro e w2 ⟨rfl, rfl⟩
    go_wp2_with fail
    go_ret3
    exact ⟨by first | (rw [HV.out]; rfl) | exact Eq.trans (b := retHP ([], 0, 25)) rfl (congrArg retHP HV.out.symm), hb⟩
  rw [h, if_neg (by omega), Int.toNat_natCast] at hpv
  rw [show Lib.lastIndexByte S 58 = (i : Int) by rw [← eS]; exact h] at KL
  have hiS : i < S.size := by omega
  have w5 : IntKind.i64.wrap ((i : Int) + 1) = ((i + 1 : Nat) : Int) := by rw [show ((i + 1 : Nat) : Int) = (i : Int) + 1 by omega]; exact IntWalk.i64_in _ (by omega)
  have K2 := Lib.hid (fun w hm => kind_any (l.take i) (by rw [List.length_take]; omega) m w hm)
  have K3 := Lib.hid (fun w => number_any ⟨(l.drop (i + 1)).toArray⟩ 1 65535 w (by rw [ba_size, List.length_drop]; omega))
  obtain ⟨A, eA⟩ : ∃ A : ByteArray, (⟨(l.take i).toArray⟩ : ByteArray) = A := ⟨_, rfl⟩
  obtain ⟨B, eB⟩ : ∃ A : ByteArray, (⟨(l.drop (i + 1)).toArray⟩ : ByteArray) = A := ⟨_, rfl⟩
  have HA := Lib.hid ((htk i).trans eA)
  have HB := Lib.hid ((hdp (i + 1)).trans eB)
  have EA := Lib.hid eA
  rw [eA] at K2
  rw [eB] at K3
  obtain ⟨k2, ek2⟩ : ∃ k2, kindI (l.take i) = k2 := ⟨_, rfl⟩
  rw [ek2] at K2 hpv
  have hsv : numV (l.drop (i + 1)) = numI B 1 65535 := by unfold numV; rw [eB]
  rw [hsv] at hpv
  obtain ⟨⟨pn, pb⟩, epb⟩ : ∃ r, numI B 1 65535 = r := ⟨_, rfl⟩
  rw [epb] at hpv K3
  simp only [retNB] at hpv K3
  clear hsv epb
  clear htk hdp hzs eA eB eS ek1 ek2 h hi
  go_enter Tryd.func8, Tryd.ntmps8
  go_wp2_with fail
  refine K1.out.mono ?_
  rintro e w1 ⟨rfl, hb⟩
  have HMX := Lib.hid (((bcell hb).1 _ 0 lgm).trans HM.out)
  go_wp2_with fail
  refine (KL.out _).mono ?_
  rintro e w2 ⟨rfl, rfl⟩
  by_cases c3 : k2 = 0
  · subst c3
    have HV := Lib.hid (show partsV l = ([], 0, 25) by rw [hpv, if_pos rfl])
    go_upto_region 6 with fail
    refine sw_lit ?_
    refine sw_pure (v := .int .i64 (i : Int)) (fun W => rfl) rfl ?_
    simp only [nm0, nm1, nm2, nm3]
    refine sw_pure (v := .bool false) (fun W => run_bin_of rfl rfl rfl (by go_simp)) rfl ?_
    simp only [nm0, nm1, nm2, nm3]
    refine sw_pure (v := .bool false) (fun W => rfl) rfl ?_
    simp only [nm0, nm1, nm2, nm3]
    refine sw_pure (v := .string S) (fun W => rfl) rfl ?_
    simp only [nm0, nm1, nm2, nm3]
    refine sw_pure (v := .int .i64 (i : Int)) (fun W => rfl) rfl ?_
    simp only [nm0, nm1, nm2, nm3]
    refine sw_pure (v := .string A) (fun W => by rw [← HA.out]; refine run_slc_str W rfl rfl ?_; exact slc_str_hi W Tryd.underlying9 (by omega)) rfl ?_
    simp only [nm0, nm1, nm2, nm3]
    refine sw_callE (args := #[.string A]) (fun W => run_call_fn W (enters_of Tryd.func10 (by kernel_rfl) rfl) rfl (by simp [Act.eval])) (K2.out _ HMX.out) rfl ?_
    rintro e w2 ⟨rfl, hb2⟩
    refine ⟨_, rfl, ?_⟩
    simp only [nm0, nm1, nm2, nm3]
    refine sw_pure (v := .bool true) (fun W => run_bin_of rfl rfl rfl (by go_simp)) rfl ?_
    simp only [nm0, nm1, nm2, nm3]
    refine sw_pure (v := .bool true) (fun W => rfl) rfl ?_
    simp only [nm0, nm1, nm2, nm3]
    refine sw_nil ?_
    go_wp2_with fail
    go_ret3
    exact ⟨by first | rfl | (rw [HV.out]; rfl) | exact Eq.trans (b := retHP ([], 0, 25)) rfl (congrArg retHP HV.out.symm), gr_step hb hb2⟩
  have q3 : (k2 == 0) = false := by simpa using c3
  rw [if_neg c3] at hpv
  go_upto_region 6 with fail
  refine sw_lit ?_
  refine sw_pure (v := .int .i64 (i : Int)) (fun W => rfl) rfl ?_
  simp only [nm0, nm1, nm2, nm3]
  refine sw_pure (v := .bool false) (fun W => run_bin_of rfl rfl rfl (by go_simp)) rfl ?_
  simp only [nm0, nm1, nm2, nm3]
  refine sw_pure (v := .bool false) (fun W => rfl) rfl ?_
  simp only [nm0, nm1, nm2, nm3]
  refine sw_pure (v := .string S) (fun W => rfl) rfl ?_
  simp only [nm0, nm1, nm2, nm3]
  refine sw_pure (v := .int .i64 (i : Int)) (fun W => rfl) rfl ?_
  simp only [nm0, nm1, nm2, nm3]
  refine sw_pure (v := .string A) (fun W => by rw [← HA.out]; refine run_slc_str W rfl rfl ?_; exact slc_str_hi W Tryd.underlying9 (by omega)) rfl ?_
  simp only [nm0, nm1, nm2, nm3]
  refine sw_callE (args := #[.string A]) (fun W => run_call_fn W (enters_of Tryd.func10 (by kernel_rfl) rfl) rfl (by simp [Act.eval])) (K2.out _ HMX.out) rfl ?_
  rintro e w2 ⟨rfl, hb2⟩
  refine ⟨_, rfl, ?_⟩
  simp only [nm0, nm1, nm2, nm3]
  refine sw_pure (v := .bool false) (fun W => run_bin_of rfl rfl rfl (by go_simp)) rfl ?_
  simp only [nm0, nm1, nm2, nm3]
  refine sw_pure (v := .bool false) (fun W => rfl) rfl ?_
  simp only [nm0, nm1, nm2, nm3]
  refine sw_nil ?_
  cases pb with
  | false =>
    have HV := Lib.hid (show partsV l = ([], 0, 25) by rw [hpv]; rfl)
    clear hpv
    go_upto_region 8 with fail
    refine sw_lit ?_
    refine sw_pure (v := .string S) (fun W => rfl) rfl ?_
    simp only [nm0, nm1, nm2, nm3]
    refine sw_pure (v := .int .i64 (i : Int)) (fun W => rfl) rfl ?_
    simp only [nm0, nm1, nm2, nm3]
    refine sw_pure (v := .int .i64 ((i + 1 : Nat) : Int)) (fun W => run_bin_of rfl rfl rfl (by go_simp)) rfl ?_
    simp only [nm0, nm1, nm2, nm3]
    refine sw_pure (v := .string B) (fun W => by rw [← HB.out]; refine run_slc_str W rfl rfl ?_; exact slc_str_lo W Tryd.underlying9 (by omega)) rfl ?_
    simp only [nm0, nm1, nm2, nm3]
    refine sw_callE (args := #[.string B, .int .i64 1, .int .i64 65535]) (fun W => run_call_fn W (enters_of Tryd.func31 (by kernel_rfl) rfl) rfl (by simp [Act.eval])) (K3.out _) rfl ?_
    rintro e w3 ⟨rfl, hb3⟩
    refine ⟨_, rfl, ?_⟩
    simp only [nm0, nm1, nm2, nm3]
    refine sw_pure (v := .tuple #[.int .i64 pn, .bool false]) (fun W => rfl) rfl ?_
    simp only [nm0, nm1, nm2, nm3]
    refine sw_pure (v := .int .i64 pn) (fun W => rfl) rfl ?_
    simp only [nm0, nm1, nm2, nm3]
    refine sw_pure (v := .bool false) (fun W => rfl) rfl ?_
    simp only [nm0, nm1, nm2, nm3]
    refine sw_pure (v := .int .i64 pn) (fun W => rfl) rfl ?_
    simp only [nm0, nm1, nm2, nm3]
    refine sw_pure (v := .bool false) (fun W => rfl) rfl ?_
    simp only [nm0, nm1, nm2, nm3]
    refine sw_nil ?_
    go_wp2_with fail
    go_ret3
    exact ⟨by first | rfl | (rw [HV.out]; rfl) | exact Eq.trans (b := retHP ([], 0, 25)) rfl (congrArg retHP HV.out.symm), gr_step (gr_step hb hb2) hb3⟩
  | true =>
    have HV := Lib.hid (show partsV l = (l.take i, pn, 0) by rw [hpv]; rfl)
    clear hpv
    go_upto_region 8 with fail
    refine sw_lit ?_
    refine sw_pure (v := .string S) (fun W => rfl) rfl ?_
    simp only [nm0, nm1, nm2, nm3]
    refine sw_pure (v := .int .i64 (i : Int)) (fun W => rfl) rfl ?_
    simp only [nm0, nm1, nm2, nm3]
    refine sw_pure (v := .int .i64 ((i + 1 : Nat) : Int)) (fun W => run_bin_of rfl rfl rfl (by go_simp)) rfl ?_
    simp only [nm0, nm1, nm2, nm3]
    refine sw_pure (v := .string B) (fun W => by rw [← HB.out]; refine run_slc_str W rfl rfl ?_; exact slc_str_lo W Tryd.underlying9 (by omega)) rfl ?_
    simp only [nm0, nm1, nm2, nm3]
    refine sw_callE (args := #[.string B, .int .i64 1, .int .i64 65535]) (fun W => run_call_fn W (enters_of Tryd.func31 (by kernel_rfl) rfl) rfl (by simp [Act.eval])) (K3.out _) rfl ?_
    rintro e w3 ⟨rfl, hb3⟩
    refine ⟨_, rfl, ?_⟩
    simp only [nm0, nm1, nm2, nm3]
    refine sw_pure (v := .tuple #[.int .i64 pn, .bool true]) (fun W => rfl) rfl ?_
    simp only [nm0, nm1, nm2, nm3]
    refine sw_pure (v := .int .i64 pn) (fun W => rfl) rfl ?_
    simp only [nm0, nm1, nm2, nm3]
    refine sw_pure (v := .bool true) (fun W => rfl) rfl ?_
    simp only [nm0, nm1, nm2, nm3]
    refine sw_pure (v := .int .i64 pn) (fun W => rfl) rfl ?_
    simp only [nm0, nm1, nm2, nm3]
    refine sw_pure (v := .bool true) (fun W => rfl) rfl ?_
    simp only [nm0, nm1, nm2, nm3]
    refine sw_nil ?_
    go_upto_region 11 with fail
    refine sw_lit ?_
    refine sw_pure (v := .string S) (fun W => rfl) rfl ?_
    simp only [nm0, nm1, nm2, nm3]
    refine sw_pure (v := .int .i64 (i : Int)) (fun W => rfl) rfl ?_
    simp only [nm0, nm1, nm2, nm3]
    refine sw_pure (v := .string A) (fun W => by rw [← HA.out]; refine run_slc_str W rfl rfl ?_; exact slc_str_hi W Tryd.underlying9 (by omega)) rfl ?_
    simp only [nm0, nm1, nm2, nm3]
    refine sw_pure (v := .int .i64 pn) (fun W => rfl) rfl ?_
    simp only [nm0, nm1, nm2, nm3]
    refine sw_pure (v := .string A) (fun W => rfl) rfl ?_
    simp only [nm0, nm1, nm2, nm3]
    refine sw_pure (v := .int .i64 pn) (fun W => rfl) rfl ?_
    simp only [nm0, nm1, nm2, nm3]
    refine sw_pure (v := .int .i64 0) (fun W => rfl) rfl ?_
    simp only [nm0, nm1, nm2, nm3]
    refine sw_nil ?_
    go_wp2_with fail
    go_ret3
    exact ⟨by first | (rw [HV.out, ← EA.out]; rfl) | (refine Eq.trans (b := retHP (l.take i, _, 0)) ?_ (congrArg retHP HV.out.symm); show _ = Ending.returned (.tuple #[.string ⟨(l.take i).toArray⟩, _, _]); rw [EA.out]; rfl), gr_step (gr_step hb hb2) hb3⟩
set_option maxRecDepth 100000 in
set_option maxHeartbeats 8000000 in
theorem rhparts_any (l : List UInt8) (hl : l.length ≤ 100000) (w : World) :
    Calls Tryd.prog 9 #[.string ⟨l.toArray⟩] w fun e w' => e = retHP (partsV l) ∧ Below w.heap.size w w' := by
  have hzs := ba_size l
  by_cases c1 : 230 < l.length
  · have HV := Lib.hid (show partsV l = ([], 0, 4) from if_pos c1)
    obtain ⟨S, eS⟩ : ∃ S : ByteArray, (⟨l.toArray⟩ : ByteArray) = S := ⟨_, rfl⟩
    rw [eS] at hzs ⊢
    have q1 : (230 : Int) < (S.size : Int) := by omega
    clear eS hzs
    go_enter Tryd.func9, Tryd.ntmps9
    go_wp2_with fail
    go_ret3
    exact ⟨by first | (rw [HV.out]; rfl) | exact Eq.trans (b := retHP ([], 0, 25)) rfl (congrArg retHP HV.out.symm), Below.refl _ _⟩
  have K1 := Lib.hid (rkind_any l (by omega) w)
  have hpv : partsV l = if kindI l ≠ 0 then (l, 0, 0) else if atI l < 0 then ([], 0, 25) else if kindI (l.take (atI l).toNat) = 0 then ([], 0, 25) else if (numV (l.drop ((atI l).toNat + 1))).2 then (l.take (atI l).toNat, (numV (l.drop ((atI l).toNat + 1))).1, 0) else ([], 0, 25) := if_neg c1
  have hat := atI_cases l
  have htk := ext_take l
  have hdp := ext_drop l
  obtain ⟨S, eS⟩ : ∃ S : ByteArray, (⟨l.toArray⟩ : ByteArray) = S := ⟨_, rfl⟩
  rw [eS] at hzs K1 ⊢
  rw [eS] at htk hdp
  have q1 : ¬ (230 : Int) < (S.size : Int) := by omega
  obtain ⟨k1, ek1⟩ : ∃ k1, kindI l = k1 := ⟨_, rfl⟩
  rw [ek1] at K1 hpv
  have hk1 : 0 ≤ k1 := by rw [← ek1]; exact kindI_nn l
  by_cases c2 : k1 = 0
  case neg =>
    have HV := Lib.hid (show partsV l = (l, 0, 0) by rw [hpv, if_pos c2])
    have HS := Lib.hid eS
    have q2 : (k1 == 0) = false := by simpa using c2
    have q3 : (k1 != 0) = true := by simpa using c2
    have q4 : 0 < k1 := by omega
    clear hpv hat hzs htk hdp eS ek1
    go_enter Tryd.func9, Tryd.ntmps9
    go_wp2_with fail
    refine K1.out.mono ?_
    rintro e w1 ⟨rfl, hb⟩
    go_wp2_with fail
    go_ret3
    exact ⟨by rw [HV.out, ← HS.out]; rfl, hb⟩
  subst c2
  rw [if_neg (fun h => h rfl)] at hpv
  go_enter Tryd.func9, Tryd.ntmps9
  go_wp2_with fail
  refine K1.out.mono ?_
  rintro e w1 ⟨rfl, hb⟩
  go_wp2_with fail
  have hat2 := ba_at l
  rw [eS] at hat2
  go_loopw [5, 6] (fun q p wr => wr = w1 ∧ ∃ k : Nat, p = .int .i64 (k : Int) ∧ k ≤ l.length ∧ q = .int .i64 (Lib.lastIdx ⟨l.toArray⟩ 58 k)) (fun _ p _ => l.length - (Go.RowKit.intOf p).toNat)
  case atStart => exact ⟨rfl, 0, rfl, Nat.zero_le _, rfl⟩
  case round =>
    obtain ⟨rfl, k, rfl, hk, rfl⟩ := hrel
    by_cases hlt : k < l.length
    · have p1 : (k : Int) < (S.size : Int) := by omega
      have w2 : IntKind.i64.wrap ((k : Int) + 1) = (k : Int) + 1 := IntWalk.i64_in _ (by omega)
      obtain ⟨d, hd, ed⟩ := hat2 k hlt
      have hst := last_step l k hlt
      rw [← ed] at hst
      obtain ⟨z, ez⟩ : ∃ z, Lib.lastIdx ⟨l.toArray⟩ 58 k = z := ⟨_, rfl⟩
      rw [ez] at hst ⊢
      have hkS : k < S.size := by omega
      have hgd : S[k] = d := by rw [getElem?_pos S k hkS] at hd; exact Option.some.inj hd
      by_cases cd : d.toNat = 58
      · have q2 : ((d.toNat : Int) == 58) = true := by simp; omega
        have q2' : (d.toNat : Int) = 58 := by omega
        rw [if_pos cd] at hst
        have HST := Lib.hid hst
        clear hst ed ez hat2 htk hdp hzs hat hpv hd cd
        go_wp2_with fail
        go_roundw
        case rel => exact ⟨trivial, k + 1, rfl, hlt, congrArg (Value.int .i64) HST.out.symm⟩
        case measure => simp [Go.RowKit.intOf]; omega
      · have q2 : ((d.toNat : Int) == 58) = false := by simp; omega
        have q2' : ¬ (d.toNat : Int) = 58 := by omega
        rw [if_neg cd] at hst
        have HST := Lib.hid hst
        clear hst ed ez hat2 htk hdp hzs hat hpv hd cd
        go_wp2_with fail
        go_roundw
        case rel => exact ⟨trivial, k + 1, rfl, hlt, congrArg (Value.int .i64) HST.out.symm⟩
        case measure => simp [Go.RowKit.intOf]; omega
    · have p1 : ¬ (k : Int) < (S.size : Int) := by omega
      have hkl : Lib.lastIdx ⟨l.toArray⟩ 58 k = atI l := by
        unfold atI Lib.lastIndexByte
        rw [ba_size, show k = l.length by omega]
      rw [hkl]
      clear hat2 hkl hlt hk
      rcases hat with h | ⟨i, h, hi⟩
      · have HV := Lib.hid (show partsV l = ([], 0, 25) by rw [hpv, if_pos (by omega)])
        rw [h]
        clear hpv hzs htk hdp eS ek1 h
        go_wp2_with fail
        go_ret3
        exact ⟨by first | (rw [HV.out]; rfl) | exact Eq.trans (b := retHP ([], 0, 25)) rfl (congrArg retHP HV.out.symm), hb⟩
      rw [h, if_neg (by omega), Int.toNat_natCast] at hpv
      rw [h]
      have hiS : i < S.size := by omega
      have w5 : IntKind.i64.wrap ((i : Int) + 1) = ((i + 1 : Nat) : Int) := by rw [show ((i + 1 : Nat) : Int) = (i : Int) + 1 by omega]; exact IntWalk.i64_in _ (by omega)
      have K2 := Lib.hid (fun w => rkind_any (l.take i) (by rw [List.length_take]; omega) w)
      have K3 := Lib.hid (fun w => shown_any ⟨(l.drop (i + 1)).toArray⟩ 1 65535 (by decide) (by decide) (by rw [ba_size, List.length_drop]; omega) w)
      obtain ⟨A, eA⟩ : ∃ A : ByteArray, (⟨(l.take i).toArray⟩ : ByteArray) = A := ⟨_, rfl⟩
      obtain ⟨B, eB⟩ : ∃ A : ByteArray, (⟨(l.drop (i + 1)).toArray⟩ : ByteArray) = A := ⟨_, rfl⟩
      have HA := Lib.hid ((htk i).trans eA)
      have HB := Lib.hid ((hdp (i + 1)).trans eB)
      have EA := Lib.hid eA
      rw [eA] at K2
      rw [eB] at K3
      obtain ⟨k2, ek2⟩ : ∃ k2, kindI (l.take i) = k2 := ⟨_, rfl⟩
      rw [ek2] at K2 hpv
      have hsv : numV (l.drop (i + 1)) = numI B 1 65535 := by unfold numV; rw [eB]
      rw [hsv] at hpv
      have hyes := @numI_yes B 1 65535
      obtain ⟨⟨pn, pb⟩, epb⟩ : ∃ r, numI B 1 65535 = r := ⟨_, rfl⟩
      obtain ⟨sv, esv⟩ : ∃ sv, shownV B ((1 : Nat) : Int) ((65535 : Nat) : Int) = sv := ⟨_, rfl⟩
      have hsv2 : sv = if pb then pn else -1 := by rw [← esv]; unfold shownV; rw [show numI B ((1 : Nat) : Int) ((65535 : Nat) : Int) = (pn, pb) from epb]
      rw [esv] at K3
      have K3 : RowKit.Hid (∀ w, Calls Tryd.prog 32 #[.string B, .int .i64 1, .int .i64 65535] w fun e w' => e = .returned (.int .i64 sv) ∧ Below w.heap.size w w') := K3
      rw [epb] at hpv hyes
      simp only at hpv hyes
      clear hsv epb esv
      clear htk hdp hzs eA eB eS ek1 ek2 h hi
      by_cases c3 : k2 = 0
      · subst c3
        have HV := Lib.hid (show partsV l = ([], 0, 25) by rw [hpv, if_pos rfl])
        go_upto_region 11 with fail
        refine sw_lit ?_
        refine sw_pure (v := .int .i64 (i : Int)) (fun W => rfl) rfl ?_
        simp only [nm0, nm1, nm2, nm3]
        refine sw_pure (v := .bool false) (fun W => run_bin_of rfl rfl rfl (by go_simp)) rfl ?_
        simp only [nm0, nm1, nm2, nm3]
        refine sw_pure (v := .bool false) (fun W => rfl) rfl ?_
        simp only [nm0, nm1, nm2, nm3]
        refine sw_pure (v := .string S) (fun W => rfl) rfl ?_
        simp only [nm0, nm1, nm2, nm3]
        refine sw_pure (v := .int .i64 (i : Int)) (fun W => rfl) rfl ?_
        simp only [nm0, nm1, nm2, nm3]
        refine sw_pure (v := .string A) (fun W => by rw [← HA.out]; refine run_slc_str W rfl rfl ?_; exact slc_str_hi W Tryd.underlying9 (by omega)) rfl ?_
        simp only [nm0, nm1, nm2, nm3]
        refine sw_callE (args := #[.string A]) (fun W => run_call_fn W (enters_of Tryd.func11 (by kernel_rfl) rfl) rfl (by simp [Act.eval])) (K2.out _) rfl ?_
        rintro e w2 ⟨rfl, hb2⟩
        refine ⟨_, rfl, ?_⟩
        simp only [nm0, nm1, nm2, nm3]
        refine sw_pure (v := .bool true) (fun W => run_bin_of rfl rfl rfl (by go_simp)) rfl ?_
        simp only [nm0, nm1, nm2, nm3]
        refine sw_pure (v := .bool true) (fun W => rfl) rfl ?_
        simp only [nm0, nm1, nm2, nm3]
        refine sw_nil ?_
        go_wp2_with fail
        go_ret3
        exact ⟨by first | rfl | (rw [HV.out]; rfl) | exact Eq.trans (b := retHP ([], 0, 25)) rfl (congrArg retHP HV.out.symm), gr_step hb hb2⟩
      have q3 : (k2 == 0) = false := by simpa using c3
      rw [if_neg c3] at hpv
      go_upto_region 11 with fail
      refine sw_lit ?_
      refine sw_pure (v := .int .i64 (i : Int)) (fun W => rfl) rfl ?_
      simp only [nm0, nm1, nm2, nm3]
      refine sw_pure (v := .bool false) (fun W => run_bin_of rfl rfl rfl (by go_simp)) rfl ?_
      simp only [nm0, nm1, nm2, nm3]
      refine sw_pure (v := .bool false) (fun W => rfl) rfl ?_
      simp only [nm0, nm1, nm2, nm3]
      refine sw_pure (v := .string S) (fun W => rfl) rfl ?_
      simp only [nm0, nm1, nm2, nm3]
      refine sw_pure (v := .int .i64 (i : Int)) (fun W => rfl) rfl ?_
      simp only [nm0, nm1, nm2, nm3]
      refine sw_pure (v := .string A) (fun W => by rw [← HA.out]; refine run_slc_str W rfl rfl ?_; exact slc_str_hi W Tryd.underlying9 (by omega)) rfl ?_
      simp only [nm0, nm1, nm2, nm3]
      refine sw_callE (args := #[.string A]) (fun W => run_call_fn W (enters_of Tryd.func11 (by kernel_rfl) rfl) rfl (by simp [Act.eval])) (K2.out _) rfl ?_
      rintro e w2 ⟨rfl, hb2⟩
      refine ⟨_, rfl, ?_⟩
      simp only [nm0, nm1, nm2, nm3]
      refine sw_pure (v := .bool false) (fun W => run_bin_of rfl rfl rfl (by go_simp)) rfl ?_
      simp only [nm0, nm1, nm2, nm3]
      refine sw_pure (v := .bool false) (fun W => rfl) rfl ?_
      simp only [nm0, nm1, nm2, nm3]
      refine sw_nil ?_
      cases pb with
      | false =>
        have HV := Lib.hid (show partsV l = ([], 0, 25) by rw [hpv]; rfl)
        have hsn : sv = -1 := hsv2
        subst hsn
        clear hpv hyes hsv2
        go_upto_region 13 with fail
        refine sw_lit ?_
        refine sw_pure (v := .string S) (fun W => rfl) rfl ?_
        simp only [nm0, nm1, nm2, nm3]
        refine sw_pure (v := .int .i64 (i : Int)) (fun W => rfl) rfl ?_
        simp only [nm0, nm1, nm2, nm3]
        refine sw_pure (v := .int .i64 ((i + 1 : Nat) : Int)) (fun W => run_bin_of rfl rfl rfl (by go_simp)) rfl ?_
        simp only [nm0, nm1, nm2, nm3]
        refine sw_pure (v := .string B) (fun W => by rw [← HB.out]; refine run_slc_str W rfl rfl ?_; exact slc_str_lo W Tryd.underlying9 (by omega)) rfl ?_
        simp only [nm0, nm1, nm2, nm3]
        refine sw_callE (args := #[.string B, .int .i64 1, .int .i64 65535]) (fun W => run_call_fn W (enters_of Tryd.func32 (by kernel_rfl) rfl) rfl (by simp [Act.eval])) (K3.out _) rfl ?_
        rintro e w3 ⟨rfl, hb3⟩
        refine ⟨_, rfl, ?_⟩
        simp only [nm0, nm1, nm2, nm3]
        refine sw_pure (v := .int .i64 (-1)) (fun W => rfl) rfl ?_
        simp only [nm0, nm1, nm2, nm3]
        refine sw_nil ?_
        go_upto_region 14 with fail
        refine sw_lit ?_
        refine sw_pure (v := .int .i64 (-1)) (fun W => rfl) rfl ?_
        simp only [nm0, nm1, nm2, nm3]
        refine sw_pure (v := .bool true) (fun W => run_bin_of rfl rfl rfl (by go_simp)) rfl ?_
        simp only [nm0, nm1, nm2, nm3]
        refine sw_nil ?_
        go_wp2_with fail
        go_ret3
        exact ⟨by first | rfl | (rw [HV.out]; rfl) | exact Eq.trans (b := retHP ([], 0, 25)) rfl (congrArg retHP HV.out.symm), gr_step (gr_step hb hb2) hb3⟩
      | true =>
        have HV := Lib.hid (show partsV l = (l.take i, pn, 0) by rw [hpv]; rfl)
        have hsn : sv = pn := hsv2
        subst hsn
        have hp1 := (hyes rfl).1
        have q5 : ¬ sv < 0 := by omega
        clear hpv hyes hsv2
        go_upto_region 13 with fail
        refine sw_lit ?_
        refine sw_pure (v := .string S) (fun W => rfl) rfl ?_
        simp only [nm0, nm1, nm2, nm3]
        refine sw_pure (v := .int .i64 (i : Int)) (fun W => rfl) rfl ?_
        simp only [nm0, nm1, nm2, nm3]
        refine sw_pure (v := .int .i64 ((i + 1 : Nat) : Int)) (fun W => run_bin_of rfl rfl rfl (by go_simp)) rfl ?_
        simp only [nm0, nm1, nm2, nm3]
        refine sw_pure (v := .string B) (fun W => by rw [← HB.out]; refine run_slc_str W rfl rfl ?_; exact slc_str_lo W Tryd.underlying9 (by omega)) rfl ?_
        simp only [nm0, nm1, nm2, nm3]
        refine sw_callE (args := #[.string B, .int .i64 1, .int .i64 65535]) (fun W => run_call_fn W (enters_of Tryd.func32 (by kernel_rfl) rfl) rfl (by simp [Act.eval])) (K3.out _) rfl ?_
        rintro e w3 ⟨rfl, hb3⟩
        refine ⟨_, rfl, ?_⟩
        simp only [nm0, nm1, nm2, nm3]
        refine sw_pure (v := .int .i64 sv) (fun W => rfl) rfl ?_
        simp only [nm0, nm1, nm2, nm3]
        refine sw_nil ?_
        go_upto_region 14 with fail
        refine sw_lit ?_
        refine sw_pure (v := .int .i64 sv) (fun W => rfl) rfl ?_
        simp only [nm0, nm1, nm2, nm3]
        refine sw_pure (v := .bool false) (fun W => run_bin_of rfl rfl rfl (by go_simp)) rfl ?_
        simp only [nm0, nm1, nm2, nm3]
        refine sw_nil ?_
        go_upto_region 16 with fail
        refine sw_lit ?_
        refine sw_pure (v := .string S) (fun W => rfl) rfl ?_
        simp only [nm0, nm1, nm2, nm3]
        refine sw_pure (v := .int .i64 (i : Int)) (fun W => rfl) rfl ?_
        simp only [nm0, nm1, nm2, nm3]
        refine sw_pure (v := .string A) (fun W => by rw [← HA.out]; refine run_slc_str W rfl rfl ?_; exact slc_str_hi W Tryd.underlying9 (by omega)) rfl ?_
        simp only [nm0, nm1, nm2, nm3]
        refine sw_pure (v := .int .i64 sv) (fun W => rfl) rfl ?_
        simp only [nm0, nm1, nm2, nm3]
        refine sw_pure (v := .string A) (fun W => rfl) rfl ?_
        simp only [nm0, nm1, nm2, nm3]
        refine sw_pure (v := .int .i64 sv) (fun W => rfl) rfl ?_
        simp only [nm0, nm1, nm2, nm3]
        refine sw_pure (v := .int .i64 0) (fun W => rfl) rfl ?_
        simp only [nm0, nm1, nm2, nm3]
        refine sw_nil ?_
        go_wp2_with fail
        go_ret3
        exact ⟨by first | (rw [HV.out, ← EA.out]; rfl) | (refine Eq.trans (b := retHP (l.take i, _, 0)) ?_ (congrArg retHP HV.out.symm); show _ = Ending.returned (.tuple #[.string ⟨(l.take i).toArray⟩, _, _]); rw [EA.out]; rfl), gr_step (gr_step hb hb2) hb3⟩
end Go.Proofs.YtdnkpclpcelbaaaDoor
