/- roots.Square and roots.Cube: what they answer. -/
import Derived.Test.YtmjbhmpogpagjaaRooC
namespace Go.Proofs.Ytmjbhmpogpagjaa
set_option maxRecDepth 20000
set_option linter.unusedSimpArgs false
set_option linter.unusedVariables false
open Go.RowKit
theorem isIn_any (n : Int) (w : World) :
    Calls Try.prog 43 #[.int .i64 n] w fun e w' => e = .returned (.bool (decide (1 ≤ n) && decide (n ≤ 65535))) ∧ w = w' := by
  go_enter Try.func43, Try.ntmps43
  go_wp2_with fail
  all_goals
    go_ret
    refine ⟨ret_bool ?_, rfl⟩
    first | (simp_all; done) | (simp_all; intro; omega)
theorem sq_whole (n : Nat) (h : n < 18446744073709551616) : (numL (n * B64 ^ 2)).toArray = #[.int .u64 0, .int .u64 0, .int .u64 (n : Int), .int .u64 0] := by
  have e : ∀ k, wd (n * B64 ^ 2) k = if k = 2 then n else 0 := fun k => by
    unfold wd
    by_cases h0 : k < 2
    · obtain ⟨d, hd⟩ : ∃ d, 2 = k + 1 + d := ⟨1 - k, by omega⟩
      rw [if_neg (by omega), hd, show k + 1 + d = d + 1 + k by omega, Nat.pow_add, ← Nat.mul_assoc, Nat.mul_div_cancel _ (Nat.pow_pos B64_pos), Nat.pow_succ, ← Nat.mul_assoc, Nat.mul_mod_left]
    · obtain ⟨d, rfl⟩ : ∃ d, k = 2 + d := ⟨k - 2, by omega⟩
      rw [Nat.pow_add, ← Nat.div_div_eq_div_mul, Nat.mul_div_cancel _ (Nat.pow_pos B64_pos)]
      by_cases hd : d = 0
      · subst hd
        rw [if_pos rfl, Nat.pow_zero, Nat.div_one]
        exact Nat.mod_eq_of_lt h
      · obtain ⟨c, rfl⟩ : ∃ c, d = c + 1 := ⟨d - 1, by omega⟩
        have : n < B64 ^ (c + 1) := Nat.lt_of_lt_of_le h (by rw [Nat.pow_succ]; exact Nat.le_mul_of_pos_left _ (Nat.pow_pos B64_pos))
        rw [if_neg (by omega), Nat.div_eq_of_lt this]
        rfl
  unfold numL
  rw [e, e, e, e]
  rfl
theorem cu_whole (n : Nat) (h : n < 18446744073709551616) : (numL (n * B64 ^ 3)).toArray = #[.int .u64 0, .int .u64 0, .int .u64 0, .int .u64 (n : Int)] := by
  have e : ∀ k, k < 4 → wd (n * B64 ^ 3) k = if k = 3 then n else 0 := fun k hk => by
    unfold wd
    by_cases h0 : k < 3
    · obtain ⟨d, hd⟩ : ∃ d, 3 = k + 1 + d := ⟨2 - k, by omega⟩
      rw [if_neg (by omega), hd, show k + 1 + d = d + 1 + k by omega, Nat.pow_add, ← Nat.mul_assoc, Nat.mul_div_cancel _ (Nat.pow_pos B64_pos), Nat.pow_succ, ← Nat.mul_assoc, Nat.mul_mod_left]
    · obtain rfl : k = 3 := by omega
      rw [Nat.mul_div_cancel _ (Nat.pow_pos B64_pos), if_pos rfl]
      exact Nat.mod_eq_of_lt h
  unfold numL
  rw [e 0 (by omega), e 1 (by omega), e 2 (by omega), e 3 (by omega)]
  rfl
theorem square_out (n : Int) (w : World) (h : n < 1 ∨ 65535 < n) :
    Calls Try.prog 24 #[.int .i64 n] w fun e w' => e = .returned (.int .u64 0) ∧ w = w' := by
  have hi := fun w => isIn_any n w
  rw [show (decide (1 ≤ n) && decide (n ≤ 65535)) = false by simp; omega] at hi
  go_enter Try.func24, Try.ntmps24
  go_wp2_with (go_at_call 43; refine (hi _).mono ?_; rintro e w' ⟨rfl, rfl⟩)
  go_ret
  exact ⟨rfl, rfl⟩
theorem cube_out (n : Int) (w : World) (h : n < 1 ∨ 65535 < n) :
    Calls Try.prog 26 #[.int .i64 n] w fun e w' => e = .returned (.int .u64 0) ∧ w = w' := by
  have hi := fun w => isIn_any n w
  rw [show (decide (1 ≤ n) && decide (n ≤ 65535)) = false by simp; omega] at hi
  go_enter Try.func26, Try.ntmps26
  go_wp2_with (go_at_call 43; refine (hi _).mono ?_; rintro e w' ⟨rfl, rfl⟩)
  go_ret
  exact ⟨rfl, rfl⟩
theorem pow_lt4 (n k : Nat) (h : n < 65536) (hk : k ≤ 3) : n * B64 ^ k < B64 ^ 4 := by
  have h1 : n * B64 ^ k < B64 * B64 ^ k := Nat.mul_lt_mul_of_pos_right (Nat.lt_of_lt_of_le h (by decide)) (Nat.pow_pos B64_pos)
  rw [Nat.mul_comm B64, ← Nat.pow_succ] at h1
  exact Nat.lt_of_lt_of_le h1 (Nat.pow_le_pow_right B64_pos (by omega))
set_option maxHeartbeats 1000000 in
theorem square_in (n : Nat) (w : World) (h1 : 1 ≤ n) (h2 : n < 65536) :
    Calls Try.prog 24 #[.int .i64 (n : Int)] w fun e w' => ∃ x, top (fun y => y * y ≤ n * B64 ^ 2) x ∧ e = .returned (.int .u64 (wd x 0 : Int)) ∧ Below w.heap.size w w' := by
  have hi := fun w => isIn_any (n : Int) w
  rw [show (decide (1 ≤ (n : Int)) && decide ((n : Int) ≤ 65535)) = true by simp; omega] at hi
  have RO := root_sq (n * B64 ^ 2) w.heap.size (w.alloc (.cells (numL (n * B64 ^ 2)).toArray 73)) (pow_lt4 n 2 h2 (by omega)) (alloc_new _ _)
  rw [sq_whole n (by omega)] at RO
  have RH := Lib.hid RO
  have n6 : (n : Int) < 65536 := by omega
  clear RO
  go_enter Try.func24, Try.ntmps24
  go_wp2_with (go_at_call 43; refine (hi _).mono ?_; rintro e w' ⟨rfl, rfl⟩)
  go_at_call 44
  refine RH.out.mono ?_
  rintro e w' ⟨x, hx, rfl, hb⟩
  go_wp2_with fail
  go_ret
  exact ⟨x, hx, rfl, (gr_alloc (Below.refl _ _) _).trans (hb.mono (by rw [alloc_size1]; omega))⟩
set_option maxHeartbeats 1000000 in
theorem cube_in (n : Nat) (w : World) (h1 : 1 ≤ n) (h2 : n < 65536) :
    Calls Try.prog 26 #[.int .i64 (n : Int)] w fun e w' => ∃ x, top (fun y => y * y * y ≤ n * B64 ^ 3) x ∧ e = .returned (.int .u64 (wd x 0 : Int)) ∧ Below w.heap.size w w' := by
  have hi := fun w => isIn_any (n : Int) w
  rw [show (decide (1 ≤ (n : Int)) && decide ((n : Int) ≤ 65535)) = true by simp; omega] at hi
  have RO := root_cu (n * B64 ^ 3) w.heap.size (w.alloc (.cells (numL (n * B64 ^ 3)).toArray 73)) (pow_lt4 n 3 h2 (by omega)) (alloc_new _ _)
  rw [cu_whole n (by omega)] at RO
  have RH := Lib.hid RO
  have n6 : (n : Int) < 65536 := by omega
  clear RO
  go_enter Try.func26, Try.ntmps26
  go_wp2_with (go_at_call 43; refine (hi _).mono ?_; rintro e w' ⟨rfl, rfl⟩)
  go_at_call 44
  refine RH.out.mono ?_
  rintro e w' ⟨x, hx, rfl, hb⟩
  go_wp2_with fail
  go_ret
  exact ⟨x, hx, rfl, (gr_alloc (Below.refl _ _) _).trans (hb.mono (by rw [alloc_size1]; omega))⟩
end Go.Proofs.Ytmjbhmpogpagjaa
