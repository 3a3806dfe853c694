/- lives of layer 14; the law RootsWhole: it returns true. -/
import Derived.Test.YtmkcbmlpdkaniafRooF
namespace Go.Proofs.Ytmkcbmlpdkaniaf
open Go.RowKit
theorem prime2 (w : World) : Calls Try.prog 7 #[.int .i64 2] w fun e w' => e = .returned (.int .i64 5) ∧ w = w' := prime_any 2 5 w (by decide +kernel) (by decide +kernel) (by omega) (by omega)
theorem square4 (w : World) : Calls Try.prog 9 #[.int .i64 4] w fun e w' => e = .returned (.int .u64 0) ∧ Below w.heap.size w w' := by
  refine (square_in 4 w (by omega) (by omega)).mono ?_
  rintro e w' ⟨x, hx, rfl, hb⟩
  exact ⟨by rw [sq_4 hx]; rfl, hb⟩
theorem square2 (w : World) : Calls Try.prog 9 #[.int .i64 2] w fun e w' => e = .returned (.int .u64 7640891576956012808) ∧ Below w.heap.size w w' := by
  refine (square_in 2 w (by omega) (by omega)).mono ?_
  rintro e w' ⟨x, hx, rfl, hb⟩
  exact ⟨by rw [sq_2 hx]; rfl, hb⟩
theorem cube8 (w : World) : Calls Try.prog 11 #[.int .i64 8] w fun e w' => e = .returned (.int .u64 0) ∧ Below w.heap.size w w' := by
  refine (cube_in 8 w (by omega) (by omega)).mono ?_
  rintro e w' ⟨x, hx, rfl, hb⟩
  exact ⟨by rw [cu_8 hx]; rfl, hb⟩
theorem cube2 (w : World) : Calls Try.prog 11 #[.int .i64 2] w fun e w' => e = .returned (.int .u64 4794697086780616226) ∧ Below w.heap.size w w' := by
  refine (cube_in 2 w (by omega) (by omega)).mono ?_
  rintro e w' ⟨x, hx, rfl, hb⟩
  exact ⟨by rw [cu_2 hx]; rfl, hb⟩
theorem lives_any (w : World) :
    Calls Try.prog 6 #[] w fun e w' => e = .returned (.bool true) ∧ Below w.heap.size w w' := by
  go_enter Try.func6, Try.ntmps6
  go_wp2_with (first
    | (go_at_call 7; with_reducible refine (prime2 _).mono ?_; rintro e w' ⟨rfl, rfl⟩)
    | (go_at_call 9; with_reducible refine (square4 _).mono ?_; rintro e w' ⟨rfl, hb⟩)
    | (go_at_call 9; with_reducible refine (square2 _).mono ?_; rintro e w' ⟨rfl, hb⟩)
    | (go_at_call 11; with_reducible refine (cube8 _).mono ?_; rintro e w' ⟨rfl, hb⟩)
    | (go_at_call 11; with_reducible refine (cube2 _).mono ?_; rintro e w' ⟨rfl, hb⟩))
  go_ret
  refine ⟨rfl, ?_⟩
  repeat (first | exact Below.refl _ _ | refine gr_step ?_ (by assumption))
def sqB (n : Nat) : Nat → Bool
  | 0 => false
  | k + 1 => sqB n k || (decide (1 ≤ k) && decide (k * k = n))
def cuB (n : Nat) : Nat → Bool
  | 0 => false
  | k + 1 => cuB n k || (decide (1 ≤ k) && decide (k * k * k = n))
theorem beq_nat (s n : Nat) : decide (s = n) = ((s : Int) == (n : Int)) := by
  by_cases h : s = n
  · subst h; simp
  · have h2 : ¬ (s : Int) = (n : Int) := by omega
    simp [h, h2]
theorem sqB_iff (n : Nat) : ∀ k, sqB n k = true ↔ ∃ j, 1 ≤ j ∧ j < k ∧ j * j = n
  | 0 => by simp [sqB]
  | k + 1 => by
    rw [sqB, Bool.or_eq_true, sqB_iff n k, Bool.and_eq_true, decide_eq_true_eq, decide_eq_true_eq]
    constructor
    · rintro (⟨j, h1, h2, h3⟩ | ⟨h1, h2⟩)
      · exact ⟨j, h1, by omega, h3⟩
      · exact ⟨k, h1, by omega, h2⟩
    · rintro ⟨j, h1, h2, h3⟩
      rcases Nat.lt_or_eq_of_le (Nat.le_of_lt_succ h2) with h | h
      · exact .inl ⟨j, h1, h, h3⟩
      · subst h; exact .inr ⟨h1, h3⟩
theorem cuB_iff (n : Nat) : ∀ k, cuB n k = true ↔ ∃ j, 1 ≤ j ∧ j < k ∧ j * j * j = n
  | 0 => by simp [cuB]
  | k + 1 => by
    rw [cuB, Bool.or_eq_true, cuB_iff n k, Bool.and_eq_true, decide_eq_true_eq, decide_eq_true_eq]
    constructor
    · rintro (⟨j, h1, h2, h3⟩ | ⟨h1, h2⟩)
      · exact ⟨j, h1, by omega, h3⟩
      · exact ⟨k, h1, by omega, h2⟩
    · rintro ⟨j, h1, h2, h3⟩
      rcases Nat.lt_or_eq_of_le (Nat.le_of_lt_succ h2) with h | h
      · exact .inl ⟨j, h1, h, h3⟩
      · subst h; exact .inr ⟨h1, h3⟩
theorem square_yes (n : Nat) (w : World) (h1 : 1 ≤ n) (h2 : n < 65536) (h : sqB n 256 = true) : Calls Try.prog 9 #[.int .i64 (n : Int)] w fun e w' => e = .returned (.int .u64 0) ∧ Below w.heap.size w w' := by
  refine (square_in n w h1 h2).mono ?_
  rintro e w' ⟨x, hx, rfl, hb⟩
  have := (top_sq0 n x h1 h2 hx).2 (((sqB_iff n 256).1 h).imp fun k hk => hk)
  exact ⟨by rw [this]; rfl, hb⟩
theorem square_no (n : Nat) (w : World) (h1 : 1 ≤ n) (h2 : n < 65536) (h : sqB n 256 = false) : Calls Try.prog 9 #[.int .i64 (n : Int)] w fun e w' => ∃ v : Int, v ≠ 0 ∧ e = .returned (.int .u64 v) ∧ Below w.heap.size w w' := by
  refine (square_in n w h1 h2).mono ?_
  rintro e w' ⟨x, hx, rfl, hb⟩
  refine ⟨_, fun h0 => ?_, rfl, hb⟩
  have := (sqB_iff n 256).2 ((top_sq0 n x h1 h2 hx).1 (by omega))
  rw [h] at this
  exact absurd this (by decide)
theorem cube_yes (n : Nat) (w : World) (h1 : 1 ≤ n) (h2 : n < 65536) (h : cuB n 256 = true) : Calls Try.prog 11 #[.int .i64 (n : Int)] w fun e w' => e = .returned (.int .u64 0) ∧ Below w.heap.size w w' := by
  refine (cube_in n w h1 h2).mono ?_
  rintro e w' ⟨x, hx, rfl, hb⟩
  have := (top_cu0 n x h1 h2 hx).2 (((cuB_iff n 256).1 h).imp fun k hk => hk)
  exact ⟨by rw [this]; rfl, hb⟩
theorem cube_no (n : Nat) (w : World) (h1 : 1 ≤ n) (h2 : n < 65536) (h : cuB n 256 = false) : Calls Try.prog 11 #[.int .i64 (n : Int)] w fun e w' => ∃ v : Int, v ≠ 0 ∧ e = .returned (.int .u64 v) ∧ Below w.heap.size w w' := by
  refine (cube_in n w h1 h2).mono ?_
  rintro e w' ⟨x, hx, rfl, hb⟩
  refine ⟨_, fun h0 => ?_, rfl, hb⟩
  have := (cuB_iff n 256).2 ((top_cu0 n x h1 h2 hx).1 (by omega))
  rw [h] at this
  exact absurd this (by decide)
theorem whole_0 (w : World) :
    Calls Try.prog 5 #[.int .u16 0] w fun e w' => e = .returned (.bool true) ∧ Below w.heap.size w w' := by
  go_enter Try.func5, Try.ntmps5
  go_wp2_with (first
    | (go_at_call 9; refine (square_out 0 _ (by omega)).mono ?_; rintro e w' ⟨rfl, rfl⟩)
    | (go_at_call 11; refine (cube_out 0 _ (by omega)).mono ?_; rintro e w' ⟨rfl, rfl⟩)
    | (go_at_call 6; refine (lives_any _).mono ?_; rintro e w' ⟨rfl, hb⟩))
  go_ret
  exact ⟨rfl, by assumption⟩
set_option maxHeartbeats 8000000 in
theorem whole_n (n : Nat) (w : World) (h1 : 1 ≤ n) (h2 : n < 65536) :
    Calls Try.prog 5 #[.int .u16 (n : Int)] w fun e w' => e = .returned (.bool true) ∧ Below w.heap.size w w' := by
  have n0 : ¬ (n : Int) = 0 := by omega
  have n1 : ((n : Int) == 0) = false := by simpa using n0
  have n6 : (n : Int) < 65536 := by omega
  go_enter Try.func5, Try.ntmps5
  go_wp2_with fail
  go_loop [3, 4, 5] (fun s c i => ∃ k : Nat, 1 ≤ k ∧ k ≤ 256 ∧ i = .int .i64 (k : Int) ∧ s = .bool (sqB n k) ∧ c = .bool (cuB n k)) (fun _ _ i => 256 - (intOf i).toNat)
  case atStart => exact ⟨1, by omega, by omega, rfl, by simp [sqB], by simp [cuB]⟩
  case round =>
    obtain ⟨k, hk1, hk2, rfl, rfl, rfl⟩ := hrel
    by_cases hlt : k < 256
    · have p1 : (k : Int) < 256 := by omega
      obtain ⟨s, hs⟩ : ∃ s, k * k = s := ⟨_, rfl⟩
      obtain ⟨c, hc⟩ : ∃ c, s * k = c := ⟨_, rfl⟩
      have hs9 : s ≤ 256 * 256 := by rw [← hs]; exact Nat.mul_le_mul (by omega) (by omega)
      have hc9 : c ≤ 65536 * 256 := by rw [← hc]; exact Nat.mul_le_mul (by omega) (by omega)
      have ps : (k : Int) * (k : Int) = (s : Int) := by rw [← hs, Int.natCast_mul]
      have pc : (s : Int) * (k : Int) = (c : Int) := by rw [← hc, Int.natCast_mul]
      have HS := Lib.hid (show sqB n (k + 1) = (sqB n k || ((s : Int) == (n : Int))) by
        rw [sqB, hs, show decide (1 ≤ k) = true by simpa using hk1, Bool.true_and, beq_nat])
      have HC := Lib.hid (show cuB n (k + 1) = (cuB n k || ((c : Int) == (n : Int))) by
        rw [cuB, hs, hc, show decide (1 ≤ k) = true by simpa using hk1, Bool.true_and, beq_nat])
      clear hs hc
      generalize sqB n k = b1 at HS
      generalize cuB n k = b2 at HC
      cases b1 <;> cases b2
      all_goals
        go_wp2_with fail
        go_round
        case rel => exact ⟨k + 1, by omega, by omega, congrArg (Value.int .i64) (by omega), congrArg Value.bool (by rw [HS.out]; simp), congrArg Value.bool (by rw [HC.out]; simp)⟩
        case measure => simp [intOf]; omega
    · obtain rfl : k = 256 := by omega
      have p1 : ¬ ((256 : Nat) : Int) < 256 := by omega
      cases hsq : sqB n 256 <;> cases hcu : cuB n 256
      · go_wp2_with (first
          | (go_at_call 9; refine (square_no n _ h1 h2 hsq).mono ?_; rintro e w' ⟨v, hv, rfl, hb⟩; have hv1 : ¬ v = 0 := hv; have hv2 : (v == 0) = false := by simpa using hv)
          | (go_at_call 11; refine (cube_no n _ h1 h2 hcu).mono ?_; rintro e w' ⟨u, hu, rfl, hb⟩; have hu1 : ¬ u = 0 := hu; have hu2 : (u == 0) = false := by simpa using hu)
          | (go_at_call 6; refine (lives_any _).mono ?_; rintro e w' ⟨rfl, hb⟩))
        go_ret
        refine ⟨rfl, ?_⟩
        repeat (first | exact Below.refl _ _ | refine gr_step ?_ (by assumption))
      · go_wp2_with (first
          | (go_at_call 9; refine (square_no n _ h1 h2 hsq).mono ?_; rintro e w' ⟨v, hv, rfl, hb⟩; have hv1 : ¬ v = 0 := hv; have hv2 : (v == 0) = false := by simpa using hv)
          | (go_at_call 11; refine (cube_yes n _ h1 h2 hcu).mono ?_; rintro e w' ⟨rfl, hb⟩)
          | (go_at_call 6; refine (lives_any _).mono ?_; rintro e w' ⟨rfl, hb⟩))
        go_ret
        refine ⟨rfl, ?_⟩
        repeat (first | exact Below.refl _ _ | refine gr_step ?_ (by assumption))
      · go_wp2_with (first
          | (go_at_call 9; refine (square_yes n _ h1 h2 hsq).mono ?_; rintro e w' ⟨rfl, hb⟩)
          | (go_at_call 11; refine (cube_no n _ h1 h2 hcu).mono ?_; rintro e w' ⟨u, hu, rfl, hb⟩; have hu1 : ¬ u = 0 := hu; have hu2 : (u == 0) = false := by simpa using hu)
          | (go_at_call 6; refine (lives_any _).mono ?_; rintro e w' ⟨rfl, hb⟩))
        go_ret
        refine ⟨rfl, ?_⟩
        repeat (first | exact Below.refl _ _ | refine gr_step ?_ (by assumption))
      · go_wp2_with (first
          | (go_at_call 9; refine (square_yes n _ h1 h2 hsq).mono ?_; rintro e w' ⟨rfl, hb⟩)
          | (go_at_call 11; refine (cube_yes n _ h1 h2 hcu).mono ?_; rintro e w' ⟨rfl, hb⟩)
          | (go_at_call 6; refine (lives_any _).mono ?_; rintro e w' ⟨rfl, hb⟩))
        go_ret
        refine ⟨rfl, ?_⟩
        repeat (first | exact Below.refl _ _ | refine gr_step ?_ (by assumption))
theorem rootsWhole_walk (n : Int) (w : World) (hwf : (Lit.int .u16 n).wf = true) :
    Calls Try.prog 5 #[.int .u16 n] w fun e w' => e = .returned (.bool true) ∧ Below w.heap.size w w' := by
  have h2 : 0 ≤ n ∧ n ≤ 65535 := by simpa [Lit.wf, IntKind.min, IntKind.max, IntKind.signed, IntKind.bits] using hwf
  obtain ⟨m, rfl⟩ : ∃ m : Nat, n = (m : Int) := ⟨n.toNat, by omega⟩
  rcases Nat.eq_zero_or_pos m with h | h
  · subst h; exact whole_0 w
  · exact whole_n m w h (by omega)
end Go.Proofs.Ytmkcbmlpdkaniaf
