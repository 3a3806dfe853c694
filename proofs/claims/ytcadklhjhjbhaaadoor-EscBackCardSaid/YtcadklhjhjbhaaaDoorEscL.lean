/- The reference of layer 4: Unquote. -/
import Derived.Test.YtcadklhjhjbhaaaDoorEscK
import Derived.Test.YtcadklhjhjbhaaaDoorEscH
namespace Go.Proofs.YtcadklhjhjbhaaaDoor
set_option maxRecDepth 20000
set_option linter.unusedSimpArgs false
set_option linter.unusedVariables false
open Go.RowKit Go.Lib Go.Shelf
attribute [local go_sem] Oper.semAt_some
theorem cat_bytes (a b : List UInt8) : (⟨a.toArray⟩ : ByteArray) ++ ⟨b.toArray⟩ = ⟨(a ++ b).toArray⟩ := by
  apply ByteArray.ext
  rw [ByteArray.data_append]
  simp
theorem size_bytes (a : List UInt8) : (⟨a.toArray⟩ : ByteArray).size = a.length := by rw [Lib.size_eq]
theorem num_no0 {L : List UInt8} {a : Nat} : numV L a ≠ .error 0 := by
  intro h
  unfold numV at h
  split at h
  · rename_i m hm
    cases h
    exact four_no0 _ _ _ _ hm
  split at h
  · cases h
  split at h
  · cases h
  split at h
  · cases h
  split at h
  · cases h
  split at h
  · cases h
  split at h
  · cases h
  split at h
  · rename_i m hm
    cases h
    exact four_no0 _ _ _ _ hm
  split at h <;> cases h
theorem esc_no0 {L : List UInt8} {a : Nat} : escV L a ≠ .error 0 := by
  intro h
  unfold escV at h
  split at h
  · cases h
  split at h
  · exact num_no0 h
  split at h <;> cases h
theorem num_cp {L : List UInt8} {a n a' : Nat} (h : numV L a = .ok (n, a')) : isCp n := by
  unfold numV at h
  split at h
  · cases h
  rename_i x hx
  have hx2 := four_lt _ _ _ _ _ hx
  split at h
  · rename_i hc
    cases h
    exact ⟨by omega, by omega⟩
  split at h
  · cases h
  split at h
  · cases h
  split at h
  · cases h
  split at h
  · cases h
  split at h
  · cases h
  split at h
  · cases h
  rename_i y hy
  have hy2 := four_lt _ _ _ _ _ hy
  split at h
  · cases h
  have := (Prod.mk.inj (Except.ok.inj h)).1
  exact ⟨by omega, by omega⟩
theorem esc_cp {L : List UInt8} {a n a' : Nat} (h : escV L a = .ok (n, a')) : isCp n := by
  unfold escV at h
  split at h
  · cases h
  split at h
  · exact num_cp h
  split at h
  · cases h
  rename_i hm
  cases h
  exact mean_cp hm
theorem nx_ascii {L : List UInt8} {i : Nat} (h : i < L.length) (hc : at_ L i < 128) : nx (L.drop i) = some (at_ L i, 1) := by
  obtain ⟨c, hcc⟩ : ∃ c, at_ L i = c := ⟨_, rfl⟩
  rw [hcc] at hc ⊢
  have hcp : isCp c := ⟨by omega, by omega⟩
  have hf : form c = [UInt8.ofNat c] := by
    rcases form_cases hcp with ⟨-, hm⟩ | ⟨h1, -⟩ | ⟨h1, -⟩ | ⟨h1, -⟩
    · have := form_of hm
      rw [← this]
      rfl
    · omega
    · omega
    · omega
  refine nx_iff.2 ⟨hcp, ?_, by rw [hf]; rfl⟩
  rw [hf, List.drop_eq_getElem_cons h]
  have : L[i] = UInt8.ofNat c := by
    rw [← hcc]
    unfold at_
    rw [List.getD_eq_getElem?_getD, List.getElem?_eq_getElem h]
    simp
  rw [this]
  exact ⟨_, rfl⟩
set_option maxRecDepth 100000 in
set_option maxHeartbeats 8000000 in
theorem runquote_any (t : ByteArray) (a : Int) (w : World) (ht : t.size ≤ 10000) :
    Calls Tryd.prog 14 #[.string t, .int .i64 a] w fun e w' => e = retU (ansU (unquoteV t.data.toList a)) ∧ Below w.heap.size w w' := by
  obtain ⟨R, hR⟩ : ∃ R, unquoteV t.data.toList a = R := ⟨_, rfl⟩
  rw [hR]
  have HR := Lib.hid hR
  clear hR
  have hlen := len_of t
  by_cases c1 : a < 0
  · have hRe : R = .error 1 := by rw [← HR.out]; unfold unquoteV; rw [if_pos (.inl c1)]
    have HRe := Lib.hid hRe
    clear hRe
    go_enter Tryd.func14, Tryd.ntmps14
    go_wp2_with fail
    go_ret3
    rw [HRe.out]
    exact ⟨rfl, Below.refl _ _⟩
  by_cases c2 : (t.size : Int) < a
  · have hRe : R = .error 1 := by rw [← HR.out]; unfold unquoteV; rw [if_pos (.inr (by omega))]
    have HRe := Lib.hid hRe
    clear hRe
    go_enter Tryd.func14, Tryd.ntmps14
    go_wp2_with fail
    go_ret3
    rw [HRe.out]
    exact ⟨rfl, Below.refl _ _⟩
  obtain ⟨i0, hi0⟩ : ∃ i : Nat, a = (i : Int) := ⟨a.toNat, by omega⟩
  subst hi0
  have hRv : R = if t.size ≤ i0 then .error 5 else if at_ t.data.toList i0 ≠ 34 then .error 6 else unq t.data.toList (i0 + 1) := by
    rw [← HR.out]
    unfold unquoteV
    rw [if_neg (by omega), hlen]
    rfl
  clear HR
  by_cases c3 : i0 < t.size
  · have p3 : ((i0 : Int) == (t.size : Int)) = false := by simp; omega
    have r3 : (i0 : Int) < (t.size : Int) := by omega
    have g3 := at_get c3
    rw [if_neg (by omega)] at hRv
    obtain ⟨C, hC⟩ : ∃ C, at_ t.data.toList i0 = C := ⟨_, rfl⟩
    rw [hC] at g3 hRv
    clear hC
    by_cases c4 : C = 34
    · have e4 : ((C : Int) != 34) = false := by simp [c4]
      rw [if_neg (by simp [c4])] at hRv
      have q1 : IntKind.i64.wrap ((i0 : Int) + 1) = ((i0 + 1 : Nat) : Int) := by rw [IntWalk.i64_in _ (by omega)]; omega
      obtain ⟨i1, hi1⟩ : ∃ x, i0 + 1 = x := ⟨_, rfl⟩
      rw [hi1] at q1 hRv
      have hi1s : i1 ≤ t.size := by omega
      have HRv := Lib.hid hRv
      clear hRv c4 hi1
      have KN := Lib.hid (fun (i : Nat) w => rnext_any t (i : Int) w (by omega))
      have KE := Lib.hid (fun a w ha => rescape_any t a w (by omega) ha)
      have KF := Lib.hid (fun n w hn => form_any n w hn)
      go_enter Tryd.func14, Tryd.ntmps14
      go_wp2_with fail
      go_loopw [7, 8] (fun s i wr => ∃ (k : Nat) (S : ByteArray) (acc : List UInt8), k ≤ t.size ∧ i = .int .i64 (k : Int) ∧ s = .string S ∧ S = ⟨acc.toArray⟩ ∧ acc.length ≤ 4 * k ∧ R = pre acc (unq t.data.toList k) ∧ Below w.heap.size w wr) (fun _ i _ => t.size - (RowKit.intOf i).toNat)
      case atStart => exact ⟨i1, _, [], hi1s, rfl, rfl, rfl, by simp, by rw [pre_nil]; exact HRv.out, Below.refl _ _⟩
      case round =>
        obtain ⟨k, S, acc, hk, rfl, rfl, hS, hfew, hU, hb⟩ := hrel
        have hSz : S.size = acc.length := by rw [hS, size_bytes]
        have hSs : (S.size : Int) ≤ 40000 := by omega
        by_cases hks : k < t.size
        · have pk : (k : Int) < (t.size : Int) := by omega
          have gk := at_get hks
          have hkl : k < t.data.toList.length := by omega
          obtain ⟨D, hD⟩ : ∃ D, at_ t.data.toList k = D := ⟨_, rfl⟩
          have hD2 : D < 256 := by rw [← hD]; exact at_lt _ _
          rw [hD] at gk
          have HU := Lib.hid hU
          have HB := Lib.hid hb
          have HS := Lib.hid hS
          clear hU hb hS hSz g3
          by_cases d34 : D = 34
          · have e34 : ((D : Int) != 34) = false := by simp [d34]
            have hun := unq_quote hkl (by rw [hD]; exact d34)
            have HN := Lib.hid hun
            have pk2 : ¬ (t.size : Int) ≤ (k : Int) := by omega
            have q9 : IntKind.i64.wrap ((k : Int) + 1) = ((k + 1 : Nat) : Int) := by rw [IntWalk.i64_in _ (by omega)]; omega
            clear hun d34 hD
            go_wp2_with fail
            go_ret3
            refine ⟨?_, HB.out⟩
            rw [HU.out, HN.out, HS.out]
            show _ = retU (acc ++ [], k + 1, 0)
            rw [List.append_nil]
            rfl
          · have e34 : ((D : Int) != 34) = true := by simp; omega
            by_cases d32 : 32 ≤ D
            · have p32 : ¬ (D : Int) < 32 := by omega
              have KNk := KN.out k
              rw [nextV_nat] at KNk
              by_cases d92 : D = 92
              · have e92 : ((D : Int) == 92) = true := by simp [d92]
                have hun := unq_esc hkl (by rw [hD]; exact d92)
                have hnx : nx (t.data.toList.drop k) = some (92, 1) := by have := nx_ascii hkl (by rw [hD]; omega); rw [hD, d92] at this; exact this
                rw [hnx] at KNk
                simp only [retR] at KNk
                have KN2 := Lib.hid KNk
                have q9 : IntKind.i64.wrap ((k : Int) + 1) = ((k + 1 : Nat) : Int) := by rw [IntWalk.i64_in _ (by omega)]; omega
                obtain ⟨k1, hk1⟩ : ∃ x, k + 1 = x := ⟨_, rfl⟩
                rw [hk1] at q9 hun
                have KE1 := KE.out k1
                obtain ⟨R2, hR2⟩ : ∃ R2, escV t.data.toList k1 = R2 := ⟨_, rfl⟩
                rw [hR2] at KE1 hun
                clear KNk hnx d92 hD d34 d32
                cases R2 with
                | error m =>
                  have hm : m ≠ 0 := fun h => esc_no0 (by rw [hR2, h])
                  have em : ((m : Int) != 0) = true := by simp; omega
                  have HN := Lib.hid hun
                  simp only [ans3, ret3] at KE1
                  have KE2 := Lib.hid (fun w => KE1 w (by omega))
                  have q10 : IntKind.i64.wrap ((0 : Int) + 1) = 1 := by decide
                  clear hun hR2 KE1
                  go_wp2_with fail
                  refine (KN2.out _).mono ?_
                  rintro e w1 ⟨rfl, hb1⟩
                  go_wp2_with fail
                  refine (KE2.out _).mono ?_
                  rintro e w2 ⟨rfl, rfl⟩
                  go_wp2_with fail
                  go_ret3
                  refine ⟨?_, HB.out.trans (hb1.mono HB.out.size)⟩
                  rw [HU.out, HN.out]
                  rfl
                | ok r =>
                  obtain ⟨n, a'⟩ := r
                  have hcp := esc_cp hR2
                  have hlt := esc_lt hR2
                  have hle := esc_le hR2
                  have HN := Lib.hid hun
                  simp only [ans3, ret3] at KE1
                  have KE2 := Lib.hid (fun w => KE1 w (by omega))
                  obtain ⟨y, hy⟩ : ∃ y, a' - k1 = y := ⟨_, rfl⟩
                  rw [hy] at KE2
                  have q10 : IntKind.i64.wrap ((y : Int) + 1) = ((y + 1 : Nat) : Int) := by rw [IntWalk.i64_in _ (by omega)]; omega
                  obtain ⟨z, hz⟩ : ∃ z, y + 1 = z := ⟨_, rfl⟩
                  rw [hz] at q10
                  have q11 : IntKind.i64.wrap ((k : Int) + (z : Int)) = ((k + z : Nat) : Int) := by rw [IntWalk.i64_in _ (by omega)]; omega
                  have ez : ((z : Int) == 0) = false := by simp; omega
                  have hfn := form_few n
                  have KF2 := Lib.hid (fun w => KF.out n w hcp)
                  obtain ⟨F, hF⟩ : ∃ F : ByteArray, F = ⟨(form n).toArray⟩ := ⟨_, rfl⟩
                  have hFz : F.size = (form n).length := by rw [hF, size_bytes]
                  have hFs : (F.size : Int) ≤ 4 := by omega
                  have hFv : strV (form n) = .string F := by rw [hF]; rfl
                  rw [hFv] at KF2
                  have HF := Lib.hid hF
                  have hcat : S ++ F = ⟨(acc ++ form n).toArray⟩ := by rw [HS.out, hF, cat_bytes]
                  have HC := Lib.hid hcat
                  clear hF hFv hcat
                  have hkz : k + z = a' := by omega
                  rw [hkz] at q11
                  clear hun hR2 KE1 hy hz hkz
                  go_wp2_with fail
                  refine (KN2.out _).mono ?_
                  rintro e w1 ⟨rfl, hb1⟩
                  go_wp2_with fail
                  refine (KE2.out _).mono ?_
                  rintro e w2 ⟨rfl, rfl⟩
                  go_wp2_with fail
                  refine (KF2.out _).mono ?_
                  rintro e w3 ⟨rfl, hb3⟩
                  have hb13 := (HB.out.trans (hb1.mono HB.out.size))
                  have hbb := hb13.trans (hb3.mono hb13.size)
                  have HBB := Lib.hid hbb
                  clear hb13 hbb hb1 hb3
                  go_wp2_with fail
                  go_roundw
                  case rel => exact ⟨a', _, acc ++ form n, by omega, rfl, rfl, HC.out, by rw [List.length_append]; omega, by rw [HU.out, HN.out]; exact pre_pre _ _ _, HBB.out⟩
                  case measure => simp [RowKit.intOf]; omega
              · have e92 : ((D : Int) == 92) = false := by simp; omega
                have hun := unq_cp hkl (by rw [hD]; exact d34) (by rw [hD]; exact d32) (by rw [hD]; exact d92)
                clear hD d34 d32 d92
                cases hx : nx (t.data.toList.drop k) with
                | none =>
                  rw [hx] at KNk hun
                  simp only [retR] at KNk
                  have KN2 := Lib.hid KNk
                  have HN := Lib.hid hun
                  clear KNk hun hx
                  go_wp2_with fail
                  refine (KN2.out _).mono ?_
                  rintro e w1 ⟨rfl, hb1⟩
                  go_wp2_with fail
                  go_ret3
                  refine ⟨?_, HB.out.trans (hb1.mono HB.out.size)⟩
                  rw [HU.out, HN.out]
                  rfl
                | some r =>
                  obtain ⟨n, z⟩ := r
                  rw [hx] at KNk hun
                  simp only [retR] at KNk
                  have KN2 := Lib.hid KNk
                  obtain ⟨hcp, hpre, hzf⟩ := nx_iff.1 hx
                  have htk : (t.data.toList.drop k).take z = form n := by rw [hzf]; exact (List.prefix_iff_eq_take.1 hpre).symm
                  simp only at hun
                  rw [htk] at hun
                  have HN := Lib.hid hun
                  have hz2 := (nx_lt hx)
                  have q11 : IntKind.i64.wrap ((k : Int) + (z : Int)) = ((k + z : Nat) : Int) := by rw [IntWalk.i64_in _ (by omega)]; omega
                  have ez : ((z : Int) == 0) = false := by simp; omega
                  have hfn := form_few n
                  have KF2 := Lib.hid (fun w => KF.out n w hcp)
                  obtain ⟨F, hF⟩ : ∃ F : ByteArray, F = ⟨(form n).toArray⟩ := ⟨_, rfl⟩
                  have hFz : F.size = (form n).length := by rw [hF, size_bytes]
                  have hFs : (F.size : Int) ≤ 4 := by omega
                  have hFv : strV (form n) = .string F := by rw [hF]; rfl
                  rw [hFv] at KF2
                  have HF := Lib.hid hF
                  have hcat : S ++ F = ⟨(acc ++ form n).toArray⟩ := by rw [HS.out, hF, cat_bytes]
                  have HC := Lib.hid hcat
                  clear hF hFv hcat
                  clear KNk hun hx htk hpre hzf
                  go_wp2_with fail
                  refine (KN2.out _).mono ?_
                  rintro e w1 ⟨rfl, hb1⟩
                  go_wp2_with fail
                  refine (KF2.out _).mono ?_
                  rintro e w3 ⟨rfl, hb3⟩
                  have hb13 := (HB.out.trans (hb1.mono HB.out.size))
                  have hbb := hb13.trans (hb3.mono hb13.size)
                  have HBB := Lib.hid hbb
                  clear hb13 hbb hb1 hb3
                  go_wp2_with fail
                  go_roundw
                  case rel => exact ⟨k + z, _, acc ++ form n, by omega, rfl, rfl, HC.out, by rw [List.length_append]; omega, by rw [HU.out, HN.out]; exact pre_pre _ _ _, HBB.out⟩
                  case measure => simp [RowKit.intOf]; omega
            · have p32 : (D : Int) < 32 := by omega
              have hun := unq_low hkl (by rw [hD]; omega)
              have HN := Lib.hid hun
              clear hun hD d34
              go_wp2_with fail
              go_ret3
              refine ⟨?_, HB.out⟩
              rw [HU.out, HN.out]
              rfl
        · obtain rfl : k = t.size := by omega
          have hun := unq_end (L := t.data.toList) (i := t.size) (by omega)
          have HU := Lib.hid (hU.trans (by rw [hun]))
          have pk : ¬ (t.size : Int) < (t.size : Int) := by omega
          have pk2 : (t.size : Int) ≤ (t.size : Int) := by omega
          clear hU hun
          go_wp2_with fail
          go_ret3
          refine ⟨?_, hb⟩
          rw [HU.out]
          rfl
    · have e4 : ((C : Int) != 34) = true := by simp; omega
      rw [if_pos c4] at hRv
      have HRv := Lib.hid hRv
      clear hRv c4
      go_enter Tryd.func14, Tryd.ntmps14
      go_wp2_with fail
      go_ret3
      rw [HRv.out]
      exact ⟨rfl, Below.refl _ _⟩
  · have p3 : ((i0 : Int) == (t.size : Int)) = true := by simp; omega
    rw [if_pos (by omega)] at hRv
    have HRv := Lib.hid hRv
    clear hRv
    go_enter Tryd.func14, Tryd.ntmps14
    go_wp2_with fail
    go_ret3
    rw [HRv.out]
    exact ⟨rfl, Below.refl _ _⟩
end Go.Proofs.YtcadklhjhjbhaaaDoor
