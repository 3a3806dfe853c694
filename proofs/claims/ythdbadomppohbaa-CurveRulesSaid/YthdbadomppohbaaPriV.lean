/- The reference's Inv and Root (layer 19): contracts. -/
import Derived.Test.YthdbadomppohbaaPriU
namespace Go.Proofs.Ythdbadomppohbaa
set_option maxRecDepth 20000
set_option linter.unusedSimpArgs false
set_option linter.unusedVariables false
open Go.RowKit
def E2 : Nat := (PN - 1) / 2
theorem E2_B : E2 < B64 ^ 4 := by decide +kernel
theorem part_P2 (w : World) : Calls Try.prog 72 #[.int .i64 (-2), .int .i64 0] w fun e w' => e = .returned (numV P2) ∧ Below w.heap.size w w' := by
  have h := part_m2 w
  rw [show 57896044618658097711785492504343953926634992332820282019728792003956564819947 = P2 by decide +kernel] at h
  exact h
theorem part_E2 (w : World) : Calls Try.prog 72 #[.int .i64 (-1), .int .i64 1] w fun e w' => e = .returned (numV E2) ∧ Below w.heap.size w w' := by
  have h := part_m1_1 w
  rw [show 28948022309329048855892746252171976963317496166410141009864396001978282409974 = E2 by decide +kernel] at h
  exact h
theorem part_P3 (w : World) : Calls Try.prog 72 #[.int .i64 3, .int .i64 3] w fun e w' => e = .returned (numV P3) ∧ Below w.heap.size w w' := by
  have h := part_3_3 w
  rw [show 7237005577332262213973186563042994240829374041602535252466099000494570602494 = P3 by decide +kernel] at h
  exact h
theorem part_P4 (w : World) : Calls Try.prog 72 #[.int .i64 (-1), .int .i64 2] w fun e w' => e = .returned (numV P4) ∧ Below w.heap.size w w' := by
  have h := part_m1_2 w
  rw [show 14474011154664524427946373126085988481658748083205070504932198000989141204987 = P4 by decide +kernel] at h
  exact h
theorem rpow_iV (w : World) : Calls Try.prog 71 #[numV 2, numV P4] w fun e w' => e = .returned (numV iV) ∧ Below w.heap.size w w' := by
  have h := rpow_any 2 P4 w (by decide +kernel) P4_B
  rw [pow_is 2 P4 iV p4_lt (by decide +kernel)] at h
  exact h
set_option maxHeartbeats 4000000 in
theorem rinv_any (a : Nat) (w : World) (ha : a < PN) : Calls Try.prog 48 #[numV a] w fun e w' => e = .returned (numV (a ^ P2 % PN)) ∧ Below w.heap.size w w' := by
  have KT := Lib.hid part_P2
  have KP := Lib.hid (fun w => rpow_any a P2 w ha P2_B)
  obtain ⟨R, hR⟩ : ∃ R, a ^ P2 % PN = R := ⟨_, rfl⟩
  rw [hR] at KP ⊢
  obtain ⟨q, hq⟩ : ∃ q, P2 = q := ⟨_, rfl⟩
  rw [hq] at KT KP
  obtain ⟨xa, xr, xz, xB⟩ := a2_at a 23 23 w
  simp only [numV_agg] at KT KP ⊢
  clear hR hq ha
  go_enter Try.func48, Try.ntmps48
  go_wp2_with fail
  change Code.wp _ _ _ _ (A2 a 23 23 w)
  generalize A2 a 23 23 w = X at *
  have hC : C4 X w.heap.size a := cells4 xa
  have hCd : C4 X.drew w.heap.size a := hC
  have XR := Lib.hid xr
  have XBl := xB
  have hne1 : w.heap.size ≠ w.heap.size + 1 := by omega
  clear xa xr xz xB
  go_region_held3 (fun w' => w'.cell? ⟨w.heap.size, 0, none⟩ = some (.int .u64 (wd a 0 : Int)) ∧ w'.cell? ⟨w.heap.size, 1, none⟩ = some (.int .u64 (wd a 1 : Int)) ∧ w'.cell? ⟨w.heap.size, 2, none⟩ = some (.int .u64 (wd a 2 : Int)) ∧ w'.cell? ⟨w.heap.size, 3, none⟩ = some (.int .u64 (wd a 3 : Int))) (first | (with_reducible exact hCd) | (focus ((repeat (first | (with_reducible assumption) | (with_reducible apply C4.alloc) | (with_reducible apply C4.drew) | (with_reducible apply C4.far) | (with_reducible apply C4.calls) | exact Nat.le_refl _ | omega | (simp; done))); done))) (first
    | (go_at_call 72; go_must (refine (KT.out _).mono ?_); rintro e w3 ⟨rfl, hb3⟩)
    | (go_at_call 71; go_must (refine (KP.out _).mono ?_); rintro e w4 ⟨rfl, hb4⟩
       have hbX : Below X.heap.size X w4 := b_callsS hb4 (b_callsS hb3 (b_drew (Below.refl _ _)) (Nat.le_refl _)) (Nat.le_refl _)
       have xr4 := isA_zero' (isA_calls hbX XR.out (Nat.le_refl _))
       obtain ⟨⟨d0, d1, d2, d3⟩, e0, e1, e2, e3⟩ := fourV xr4))
  rename_i hH
  clear hH hC hCd
  have KL := Lib.hid (load_arr (isA_set (n := R) xr4))
  have BR := Lib.hid (b_set4 (b_callsS hbX XBl (Nat.le_refl _)) (v0 := .int .u64 (wd R 0 : Int)) (v1 := .int .u64 (wd R 1 : Int)) (v2 := .int .u64 (wd R 2 : Int)) (v3 := .int .u64 (wd R 3 : Int)) (b := w.heap.size + 1) (by omega))
  go_wp2_with fail
  exact bodyPost_ret (results_arr Try.results48 (by rfl) KL.out) rfl ⟨rfl, BR.out⟩
end Go.Proofs.Ythdbadomppohbaa
