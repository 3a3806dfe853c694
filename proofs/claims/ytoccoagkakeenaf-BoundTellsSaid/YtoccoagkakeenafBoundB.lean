/- How many steps bound.Steps and the reference's Steps allow, and the laws of layer 12: walks. -/
import Derived.Test.YtoccoagkakeenafBoundA
namespace Go.Proofs.Ytoccoagkakeenaf
open Go.RowKit
/-- How many steps a text of so many bytes may take. -/
def stepsI (n : Int) : Int := if n < 0 ∨ 1099511627776 < n then 0 else 4 * (n + 1) * (1 + lgi (n + 1))
theorem stepsI_in (n : Int) (h : 0 ≤ n) (h' : n ≤ 1099511627776) : stepsI n = 4 * (n + 1) * (1 + lgi (n + 1)) := by unfold stepsI; rw [if_neg (by omega)]
theorem stepsI_out (n : Int) (h : n < 0 ∨ 1099511627776 < n) : stepsI n = 0 := by unfold stepsI; rw [if_pos h]
theorem prod_bd (a b : Int) (h0 : 0 ≤ a) (h1 : a ≤ 4398046511108) (h2 : 0 ≤ b) (h3 : b ≤ 41) : 0 ≤ a * b ∧ a * b ≤ 180319906955428 := by
  refine ⟨Int.mul_nonneg h0 h2, ?_⟩
  have := Int.mul_le_mul h1 h3 h2 (by omega : (0 : Int) ≤ 4398046511108)
  omega
theorem steps_any (n : Int) (w : World) (hn : n ≤ 9223372036854775807) :
    Calls Try.prog 8 #[.int .i64 n] w fun e w' => e = .returned (.int .i64 (stepsI n)) ∧ Below w.heap.size w w' := by
  by_cases h : n < 0
  · have e1 := Lib.hid (stepsI_out n (by omega))
    go_enter Try.func8, Try.ntmps8
    go_wp2
    go_ret
    exact ⟨ret_int e1.out.symm, Below.refl _ _⟩
  by_cases h' : 1099511627776 < n
  · have e1 := Lib.hid (stepsI_out n (by omega))
    go_enter Try.func8, Try.ntmps8
    go_wp2
    go_ret
    exact ⟨ret_int e1.out.symm, Below.refl _ _⟩
  · have e1 := Lib.hid (stepsI_in n (by omega) (by omega))
    have b0 := lgi_nn (n + 1)
    have b1 := lgi_40 (n + 1) (by omega)
    obtain ⟨b2, b3⟩ := prod_bd (4 * (n + 1)) (1 + lgi (n + 1)) (by omega) (by omega) (by omega) (by omega)
    go_enter Try.func8, Try.ntmps8
    go_wp2_with (go_at_call 6; refine (log_any _ _ (by omega)).mono ?_; rintro e w' ⟨rfl, hb⟩)
    go_ret
    exact ⟨ret_int e1.out.symm, by assumption⟩
theorem rsteps_any (n : Int) (w : World) (hn : n ≤ 9223372036854775807) :
    Calls Try.prog 9 #[.int .i64 n] w fun e w' => e = .returned (.int .i64 (stepsI n)) ∧ w = w' := by
  by_cases h : n < 0
  · have e1 := Lib.hid (stepsI_out n (by omega))
    go_enter Try.func9, Try.ntmps9
    go_wp2
    go_ret
    exact ⟨ret_int e1.out.symm, rfl⟩
  by_cases h' : 1099511627776 < n
  · have e1 := Lib.hid (stepsI_out n (by omega))
    go_enter Try.func9, Try.ntmps9
    go_wp2
    go_ret
    exact ⟨ret_int e1.out.symm, rfl⟩
  · have e0 : (n + 1) * (4 + 4 * lgi (n + 1)) = 4 * (n + 1) * (1 + lgi (n + 1)) := by
      generalize lgi (n + 1) = x
      grind
    have e1 := Lib.hid ((stepsI_in n (by omega) (by omega)).trans e0.symm)
    have b0 := lgi_nn (n + 1)
    have b1 := lgi_40 (n + 1) (by omega)
    obtain ⟨b2, b3⟩ := prod_bd (4 * (n + 1)) (1 + lgi (n + 1)) (by omega) (by omega) (by omega) (by omega)
    rw [← e0] at b2 b3
    clear e0
    go_enter Try.func9, Try.ntmps9
    go_wp2_with (go_at_call 7; refine (rlog_any (n + 2).toNat _ _ (by omega) (by omega)).mono ?_; rintro e w' ⟨rfl, rfl⟩)
    go_ret
    exact ⟨ret_int e1.out.symm, rfl⟩
theorem lgi_8 : lgi 8 = 3 := by decide +kernel
theorem lgi_9 : lgi 9 = 3 := by decide +kernel
theorem stepsI_0 : stepsI 0 = 4 := by decide +kernel
theorem stepsI_7 : stepsI 7 = 128 := by decide +kernel
theorem lives_any (w : World) :
    Calls Try.prog 10 #[] w fun e w' => e = .returned (.bool true) ∧ Below w.heap.size w w' := by
  have e1 := lgi_8
  have e2 := lgi_9
  have e3 := stepsI_0
  have e4 := stepsI_7
  go_enter Try.func10, Try.ntmps10
  go_wp2_with (first | (go_at_call 6; refine (log_any _ _ (by decide)).mono ?_; rintro e w' ⟨rfl, hb⟩) | (go_at_call 8; refine (steps_any _ _ (by decide)).mono ?_; rintro e w' ⟨rfl, hb⟩))
  go_ret
  refine ⟨rfl, ?_⟩
  repeat (first | exact Below.refl _ _ | refine gr_step ?_ (by assumption))
end Go.Proofs.Ytoccoagkakeenaf
