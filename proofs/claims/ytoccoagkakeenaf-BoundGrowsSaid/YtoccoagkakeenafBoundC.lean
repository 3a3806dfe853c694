/- The laws of layer 12 run: they return true. -/
import Derived.Test.YtoccoagkakeenafBoundB
namespace Go.Proofs.Ytoccoagkakeenaf
open Go.RowKit
theorem boundTells_walk (n : Int) (w : World) (wn : (Lit.int .i64 n).wf = true) :
    Calls Try.prog 3 #[.int .i64 n] w fun e w' => e = .returned (.bool true) ∧ Below w.heap.size w w' := by
  have hx : -9223372036854775808 ≤ n ∧ n ≤ 9223372036854775807 := by simpa [Lit.wf, IntKind.min, IntKind.max, IntKind.signed, IntKind.bits] using wn
  have h2 := hx.2
  clear hx wn
  have hr1 : (lgi n == lgi n) = true := by simp
  go_enter Try.func3, Try.ntmps3
  go_wp2_with (first
    | (go_at_call 6; refine (log_any _ _ (by omega)).mono ?_; rintro e w' ⟨rfl, hb⟩)
    | (go_at_call 8; refine (steps_any _ _ (by omega)).mono ?_; rintro e w' ⟨rfl, hb⟩)
    | (go_at_call 7; refine (rlog_any (n + 1).toNat _ _ (by omega) (by omega)).mono ?_; rintro e w' ⟨rfl, rfl⟩)
    | (go_at_call 9; refine (rsteps_any _ _ (by omega)).mono ?_; rintro e w' ⟨rfl, rfl⟩)
    | (go_at_call 10; refine (lives_any _).mono ?_; rintro e w' ⟨rfl, hb⟩))
  go_ret
  refine ⟨rfl, ?_⟩
  repeat (first | exact Below.refl _ _ | refine gr_step ?_ (by assumption))

theorem lgi_le_of (a b : Int) (h : a ≤ b) : lgi a ≤ lgi b := by
  by_cases h1 : 1 < a
  · obtain ⟨d, hd⟩ : ∃ d : Nat, a < d := ⟨(a + 1).toNat, by omega⟩
    induction d generalizing a b with
    | zero => omega
    | succ d ih =>
      rw [lgi_half a h1, lgi_half b (by omega)]
      by_cases h2 : 1 < a / 2
      · have := ih (a / 2) (b / 2) (by omega) h2 (by omega); omega
      · rw [lgi_small _ h2]; have := lgi_nn (b / 2); omega
  · rw [lgi_small a h1]; exact lgi_nn b
theorem stepsI_mono (x y : Int) (hx : 0 ≤ x) (hy : 0 ≤ y) (h : x + y ≤ 1099511627776) : stepsI x ≤ stepsI (x + y) := by
  rw [stepsI_in x hx (by omega), stepsI_in (x + y) (by omega) h]
  have h1 := lgi_le_of (x + 1) (x + y + 1) (by omega)
  have h0 := lgi_nn (x + 1)
  exact Int.mul_le_mul (by omega) (by omega) (by omega) (by omega)
theorem stepsI_twice (x : Int) (hx : 0 ≤ x) (h : x ≤ 1073741824) : stepsI (2 * x + 1) = 2 * stepsI x + 8 * (x + 1) := by
  rw [stepsI_in x hx (by omega), stepsI_in (2 * x + 1) (by omega) (by omega), lgi_half (2 * x + 1 + 1) (by omega)]
  have e : (2 * x + 1 + 1) / 2 = x + 1 := by omega
  rw [e]; grind
theorem stepsI_least (x : Int) (hx : 0 ≤ x) (h : x ≤ 1073741824) : 4 * (x + 1) ≤ stepsI x := by
  rw [stepsI_in x hx (by omega)]
  have h0 := lgi_nn (x + 1)
  have := Int.mul_le_mul_of_nonneg_left (by omega : (1 : Int) ≤ 1 + lgi (x + 1)) (by omega : 0 ≤ 4 * (x + 1))
  omega
theorem stepsI_bd (x : Int) (h : x ≤ 4294967296) : 0 ≤ stepsI x ∧ stepsI x ≤ 180319906955428 := by
  by_cases hx : x < 0
  · rw [stepsI_out x (by omega)]; omega
  · rw [stepsI_in x (by omega) (by omega)]
    exact prod_bd _ _ (by omega) (by omega) (by have := lgi_nn (x + 1); omega) (by have := lgi_40 (x + 1) (by omega); omega)
theorem boundGrows_walk (a b : Int) (w : World) (wa : (Lit.int .u32 a).wf = true) (wb : (Lit.int .u32 b).wf = true) :
    Calls Try.prog 4 #[.int .u32 a, .int .u32 b] w fun e w' => e = .returned (.bool true) ∧ Below w.heap.size w w' := by
  have ha : 0 ≤ a ∧ a ≤ 4294967295 := by simpa [Lit.wf, IntKind.min, IntKind.max, IntKind.signed, IntKind.bits] using wa
  have hb : 0 ≤ b ∧ b ≤ 4294967295 := by simpa [Lit.wf, IntKind.min, IntKind.max, IntKind.signed, IntKind.bits] using wb
  obtain ⟨a0, a1⟩ := ha
  obtain ⟨b0, b1⟩ := hb
  clear wa wb
  have x0 : 0 ≤ a % 1073741824 := by omega
  have x1 : a % 1073741824 < 1073741824 := by omega
  have y0 : 0 ≤ b % 1073741824 := by omega
  have y1 : b % 1073741824 < 1073741824 := by omega
  have s1 := stepsI_mono (a % 1073741824) (b % 1073741824) x0 y0 (by omega)
  have s2 : (stepsI (2 * (a % 1073741824) + 1) == 2 * stepsI (a % 1073741824) + 8 * (a % 1073741824 + 1)) = true := beq_iff_eq.2 (stepsI_twice (a % 1073741824) x0 (by omega))
  have s3 := stepsI_least (a % 1073741824) x0 (by omega)
  obtain ⟨t0, t1⟩ := stepsI_bd (a % 1073741824) (by omega)
  go_enter Try.func4, Try.ntmps4
  go_wp2_with (first
    | (go_at_call 8; refine (steps_any _ _ (by omega)).mono ?_; rintro e w' ⟨rfl, hb⟩)
    | (go_at_call 10; refine (lives_any _).mono ?_; rintro e w' ⟨rfl, hb⟩))
  go_ret
  refine ⟨rfl, ?_⟩
  repeat (first | exact Below.refl _ _ | refine gr_step ?_ (by assumption))
end Go.Proofs.Ytoccoagkakeenaf
