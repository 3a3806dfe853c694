/- prime.P, prime.Small, prime.Num, prime.Bytes, prime.Odd (layer 19): contracts. -/
import Derived.Test.YthdbadomppohbaaWidVe
import Derived.Test.YthdbadomppohbaaWidO
import Derived.Test.YthdbadomppohbaaPrm
namespace Go.Proofs.Ythdbadomppohbaa
set_option maxRecDepth 20000
set_option linter.unusedSimpArgs false
set_option linter.unusedVariables false
open Go.RowKit
theorem PN_B : PN < B64 ^ 4 := by decide +kernel
theorem num_PN : numV PN = .agg #[.int .u64 18446744073709551597, .int .u64 18446744073709551615, .int .u64 18446744073709551615, .int .u64 9223372036854775807] := by
  unfold numV
  rw [show wd PN 0 = 18446744073709551597 by decide +kernel, show wd PN 1 = 18446744073709551615 by decide +kernel, show wd PN 2 = 18446744073709551615 by decide +kernel, show wd PN 3 = 9223372036854775807 by decide +kernel]
  rfl
theorem load_num {W : World} {b n : Nat} (h : IsA W b n 26) : (loadVar 26 ⟨b, 0, none⟩).run Try.prog W = .ok (numV n) W :=
  run_loadVar_row (P := Try.prog) W b 26 26 _ (0, 0) _ h Try.underlying26 rfl (by kernel_rfl)
theorem load_arr {W : World} {b n : Nat} (h : IsA W b n 23) : (loadVar 23 ⟨b, 0, none⟩).run Try.prog W = .ok (numV n) W :=
  run_loadVar_row (P := Try.prog) W b 23 23 _ (0, 0) _ h Try.underlying23 rfl (by kernel_rfl)
theorem load_el {W : World} {b n : Nat} (h : IsA W b n 28) : (loadVar 28 ⟨b, 0, none⟩).run Try.prog W = .ok (numV n) W :=
  run_loadVar_row (P := Try.prog) W b 28 28 _ (0, 0) _ h Try.underlying28 rfl (by kernel_rfl)
theorem numV_agg (n : Nat) : numV n = .agg #[.int .u64 (wd n 0 : Int), .int .u64 (wd n 1 : Int), .int .u64 (wd n 2 : Int), .int .u64 (wd n 3 : Int)] := rfl
theorem num_zero : numV 0 = .agg #[.int .u64 0, .int .u64 0, .int .u64 0, .int .u64 0] := by kernel_rfl
theorem isA_zero {W : World} {b : Nat} {t : TypeId} (h : W.heap[b]? = some (.cells #[.int .u64 0, .int .u64 0, .int .u64 0, .int .u64 0] t (0, 0))) : IsA W b 0 t := by
  unfold IsA
  rw [show wd 0 0 = 0 by decide +kernel, show wd 0 1 = 0 by decide +kernel, show wd 0 2 = 0 by decide +kernel, show wd 0 3 = 0 by decide +kernel]
  exact h
theorem isA_zero' {W : World} {b : Nat} {t : TypeId} (h : IsA W b 0 t) : W.heap[b]? = some (.cells #[.int .u64 0, .int .u64 0, .int .u64 0, .int .u64 0] t (0, 0)) := by
  unfold IsA at h
  rw [show wd 0 0 = 0 by decide +kernel, show wd 0 1 = 0 by decide +kernel, show wd 0 2 = 0 by decide +kernel, show wd 0 3 = 0 by decide +kernel] at h
  exact h
theorem cells4 {w : World} {b1 x : Nat} {t1 : TypeId} (h1 : IsA w b1 x t1) :
    w.cell? ⟨b1, 0, none⟩ = some (.int .u64 (wd x 0 : Int)) ∧ w.cell? ⟨b1, 1, none⟩ = some (.int .u64 (wd x 1 : Int)) ∧ w.cell? ⟨b1, 2, none⟩ = some (.int .u64 (wd x 2 : Int)) ∧ w.cell? ⟨b1, 3, none⟩ = some (.int .u64 (wd x 3 : Int)) := (fourV h1).1
theorem cells8 {w : World} {b1 b2 x y : Nat} {t1 t2 : TypeId} (h1 : IsA w b1 x t1) (h2 : IsA w b2 y t2) :
    w.cell? ⟨b1, 0, none⟩ = some (.int .u64 (wd x 0 : Int)) ∧ w.cell? ⟨b1, 1, none⟩ = some (.int .u64 (wd x 1 : Int)) ∧ w.cell? ⟨b1, 2, none⟩ = some (.int .u64 (wd x 2 : Int)) ∧ w.cell? ⟨b1, 3, none⟩ = some (.int .u64 (wd x 3 : Int)) ∧ w.cell? ⟨b2, 0, none⟩ = some (.int .u64 (wd y 0 : Int)) ∧ w.cell? ⟨b2, 1, none⟩ = some (.int .u64 (wd y 1 : Int)) ∧ w.cell? ⟨b2, 2, none⟩ = some (.int .u64 (wd y 2 : Int)) ∧ w.cell? ⟨b2, 3, none⟩ = some (.int .u64 (wd y 3 : Int)) := by
  obtain ⟨⟨p0, p1, p2, p3⟩, _⟩ := fourV h1
  obtain ⟨⟨q0, q1, q2, q3⟩, _⟩ := fourV h2
  exact ⟨p0, p1, p2, p3, q0, q1, q2, q3⟩
theorem p_any (w : World) : Calls Try.prog 65 #[] w fun e w' => e = .returned (numV PN) ∧ Below w.heap.size w w' := by
  have kl := load_num (W := w.alloc (.cells (numL PN).toArray 26)) (b := w.heap.size) (n := PN) (alloc_new _ _)
  have e1 : (numL PN).toArray = #[.int .u64 18446744073709551597, .int .u64 18446744073709551615, .int .u64 18446744073709551615, .int .u64 9223372036854775807] := by
    have h := num_PN
    unfold numV at h
    unfold numL
    injection h
  rw [e1, num_PN] at kl
  rw [num_PN]
  have KL := Lib.hid kl
  clear kl e1
  go_enter Try.func65, Try.ntmps65
  go_wp2_with fail
  exact bodyPost_ret (results_arr Try.results65 (by rfl) KL.out) rfl ⟨rfl, gr_alloc (Below.refl _ _) _⟩
def Z1 (t : TypeId) (w : World) : World := w.alloc (.cells #[.int .u64 0, .int .u64 0, .int .u64 0, .int .u64 0] t)
theorem z1_at (t : TypeId) (w : World) : IsA (Z1 t w) w.heap.size 0 t ∧ (Z1 t w).heap.size = w.heap.size + 1 ∧ Below w.heap.size w (Z1 t w) := ⟨isA_zero (alloc_new w _), by unfold Z1; simp, gr_alloc (Below.refl _ _) _⟩
theorem psmall_any (a : Nat) (w : World) (ha : a < 18446744073709551616) : Calls Try.prog 33 #[.int .u64 (a : Int)] w fun e w' => e = .returned (numV a) ∧ Below w.heap.size w w' := by
  obtain ⟨xr, xz, xB⟩ := z1_at 28 w
  have K := Lib.hid (fun w => small_any a w ha)
  simp only [numV_agg] at K ⊢
  go_enter Try.func33, Try.ntmps33
  go_wp2_with fail
  change Calls _ _ _ (Z1 28 w) _
  generalize Z1 28 w = X at *
  refine (K.out X).mono ?_
  rintro e w1 ⟨rfl, hb1⟩
  have xr1 := isA_zero' (xr.keep hb1)
  obtain ⟨⟨d0, d1, d2, d3⟩, e0, e1, e2, e3⟩ := fourV xr1
  have KL := Lib.hid (load_el (isA_set (n := a) xr1))
  have BR := Lib.hid (set4_below (v0 := .int .u64 (wd a 0 : Int)) (v1 := .int .u64 (wd a 1 : Int)) (v2 := .int .u64 (wd a 2 : Int)) (v3 := .int .u64 (wd a 3 : Int)) (xB.trans (hb1.mono (by omega))) (b := w.heap.size) (Nat.le_refl _))
  clear xr xr1 xB hb1
  go_wp2_with fail
  exact bodyPost_ret (results_arr Try.results33 (by rfl) KL.out) rfl ⟨rfl, BR.out⟩
def A1 (n : Nat) (t : TypeId) (w : World) : World := w.alloc (.cells #[.int .u64 (wd n 0 : Int), .int .u64 (wd n 1 : Int), .int .u64 (wd n 2 : Int), .int .u64 (wd n 3 : Int)] t)
theorem a1_at (n : Nat) (t : TypeId) (w : World) : IsA (A1 n t w) w.heap.size n t ∧ (A1 n t w).heap.size = w.heap.size + 1 ∧ Below w.heap.size w (A1 n t w) := ⟨alloc_new w _, by unfold A1; simp, gr_alloc (Below.refl _ _) _⟩
def A2 (n : Nat) (t u : TypeId) (w : World) : World := (w.alloc (.cells #[.int .u64 (wd n 0 : Int), .int .u64 (wd n 1 : Int), .int .u64 (wd n 2 : Int), .int .u64 (wd n 3 : Int)] t)).alloc (.cells #[.int .u64 0, .int .u64 0, .int .u64 0, .int .u64 0] u)
theorem a2_at (n : Nat) (t u : TypeId) (w : World) : IsA (A2 n t u w) w.heap.size n t ∧ IsA (A2 n t u w) (w.heap.size + 1) 0 u ∧ (A2 n t u w).heap.size = w.heap.size + 2 ∧ Below w.heap.size w (A2 n t u w) :=
  ⟨isA_a1 w n t _, isA_zero (alloc_new1 w _ _), by unfold A2; simp, gr_alloc (gr_alloc (Below.refl _ _) _) _⟩
theorem pnum_any (n : Nat) (w : World) : Calls Try.prog 18 #[numV n] w fun e w' => e = .returned (numV n) ∧ Below w.heap.size w w' := by
  have KL := Lib.hid (load_num (W := A1 n 26 (A1 n 28 w)) (b := w.heap.size + 1) (n := n) (alloc_new1 w _ _))
  simp only [numV_agg] at KL ⊢
  go_enter Try.func18, Try.ntmps18
  go_wp2_with fail
  exact bodyPost_ret (results_arr Try.results18 (by rfl) KL.out) rfl ⟨rfl, gr_alloc (gr_alloc (Below.refl _ _) _) _⟩
theorem podd_any (n : Nat) (w : World) : Calls Try.prog 70 #[numV n] w fun e w' => e = .returned (.bool (decide (n % 2 = 1))) ∧ Below w.heap.size w w' := by
  have K := Lib.hid (fun w => bit_any n 0 w (by omega))
  have hB : bitN n 0 = n % 2 := by unfold bitN; rw [Nat.pow_zero, Nat.div_one]
  rw [hB] at K
  have hq : (((n % 2 : Nat) : Int) == 1) = decide (n % 2 = 1) := by
    have h2 := Nat.mod_lt n (show 0 < 2 by decide)
    have h3 : n % 2 = 0 ∨ n % 2 = 1 := by omega
    rcases h3 with h | h <;> rw [h] <;> rfl
  obtain ⟨B, hb⟩ : ∃ B, n % 2 = B := ⟨_, rfl⟩
  rw [hb] at K hq ⊢
  clear hb hB
  simp only [numV_agg] at K ⊢
  go_enter Try.func70, Try.ntmps70
  go_wp2_with fail
  refine (K.out _).mono ?_
  rintro e w1 ⟨rfl, hb1⟩
  go_wp2_with fail
  go_ret
  exact ⟨ret_bool rfl, (gr_alloc (Below.refl _ _) _).trans (hb1.mono (by rw [alloc_size1]; omega))⟩
end Go.Proofs.Ythdbadomppohbaa
