/- The reference's Prime; the law RootsPrimes: it returns true. -/
import Derived.Test.YtmkcbmlpdkaniafRooG
namespace Go.Proofs.Ytmkcbmlpdkaniaf
open Go.RowKit
def isPf (n : Nat) : Bool := decide (2 ≤ n) && (List.range 46).all fun d => decide (d < 2) || decide (n < d * d) || n % d != 0
theorem isPf_eq (n : Nat) (h : n < 2000) : isPb n = isPf n := by
  have e : isPb n = true ↔ isPf n = true := by
    constructor
    · intro hp
      obtain ⟨h2, h3⟩ := (isPb_iff n).1 hp
      unfold isPf
      simp only [Bool.and_eq_true, decide_eq_true_eq, List.all_eq_true, List.mem_range, Bool.or_eq_true, bne_iff_ne]
      refine ⟨h2, fun d _ => ?_⟩
      by_cases h4 : d < 2
      · exact .inl (.inl h4)
      · by_cases h5 : n < d * d
        · exact .inl (.inr h5)
        · refine .inr (h3 d (by omega) ?_)
          have : 2 * d ≤ d * d := Nat.mul_le_mul_right _ (by omega)
          omega
    · intro hp
      unfold isPf at hp
      simp only [Bool.and_eq_true, decide_eq_true_eq, List.all_eq_true, List.mem_range, Bool.or_eq_true, bne_iff_ne] at hp
      obtain ⟨h2, h3⟩ := hp
      rw [isPb_iff]
      have hr := prime_root
      cases hb : isPb n with
      | true => exact (isPb_iff n).1 hb
      | false =>
        exfalso
        have hall : ∀ m, m ≤ 46 → (∀ e, 2 ≤ e → e < m → e * e ≤ n → n % e ≠ 0) := fun m hm e h5 h6 h7 => by
          rcases h3 e (by omega) with (h8 | h8) | h8
          · omega
          · omega
          · exact h8
        -- the least place whose square is greater
        have hx : ∃ d, d ≤ 46 ∧ n < d * d ∧ ∀ e, e < d → e * e ≤ n := by
          have : ∀ k, k ≤ 46 → (∃ d, d ≤ k ∧ n < d * d ∧ ∀ e, e < d → e * e ≤ n) ∨ ∀ e, e ≤ k → e * e ≤ n := fun k => by
            induction k with
            | zero => intro _; exact .inr fun e he => by rw [Nat.le_zero.1 he]; exact Nat.zero_le _
            | succ k ih =>
              intro hk
              rcases ih (by omega) with ⟨d, h5, h6, h7⟩ | h5
              · exact .inl ⟨d, by omega, h6, h7⟩
              · by_cases h6 : n < (k + 1) * (k + 1)
                · exact .inl ⟨k + 1, Nat.le_refl _, h6, fun e he => h5 e (by omega)⟩
                · refine .inr fun e he => ?_
                  rcases Nat.lt_or_eq_of_le he with h7 | h7
                  · exact h5 e (by omega)
                  · subst h7; omega
          rcases this 46 (Nat.le_refl _) with h5 | h5
          · exact h5
          · have := h5 46 (Nat.le_refl _); omega
        obtain ⟨d, h5, h6, h7⟩ := hx
        have := hr n d h2 h6 (fun e h8 h9 => hall d h5 e h8 h9 (h7 e h9))
        rw [hb] at this
        exact absurd this (by decide)
  cases h1 : isPb n <;> cases h2 : isPf n
  · rfl
  · rw [h1, h2] at e; simp at e
  · rw [h1, h2] at e; simp at e
  · rfl
theorem cnt_count : ∀ n, cnt n = (List.range n).countP isPb
  | 0 => rfl
  | n + 1 => by rw [cnt, cnt_count n, List.range_succ, List.countP_append, List.countP_singleton]
theorem cnt_2000 : cnt 2000 = 303 := by
  rw [cnt_count, List.countP_congr (q := isPf) (fun n hn => by rw [isPf_eq n (List.mem_range.1 hn)])]
  decide +kernel
theorem prime_below (i : Nat) : ∀ n, i < cnt n → ∃ p, p < n ∧ isPb p = true ∧ cnt p = i
  | 0, h => by simp [cnt] at h
  | n + 1, h => by
    rw [cnt] at h
    by_cases h1 : i < cnt n
    · obtain ⟨p, h2, h3, h4⟩ := prime_below i n h1
      exact ⟨p, by omega, h3, h4⟩
    · cases hp : isPb n
      · rw [hp] at h; simp at h; omega
      · rw [hp] at h; simp at h; exact ⟨n, by omega, hp, by omega⟩
theorem prime_ex (i : Nat) (h : i ≤ 300) : ∃ p, p < 2000 ∧ isPb p = true ∧ cnt p = i := prime_below i 2000 (by rw [cnt_2000]; omega)
theorem divides_any (n : Nat) (w : World) (h2 : 2 ≤ n) (h9 : n ≤ 10000) :
    Calls Try.prog 12 #[.int .i64 (n : Int), .int .i64 2] w fun e w' => e = .returned (.bool (!isPb n)) ∧ w = w' := by
  have n9 : (n : Int) ≤ 10000 := by omega
  go_enter Try.func12, Try.ntmps12
  go_wp2_with fail
  go_loop [5] (fun d => ∃ d' : Nat, 2 ≤ d' ∧ d' ≤ n ∧ d = .int .i64 (d' : Int) ∧ ∀ e, 2 ≤ e → e < d' → n % e ≠ 0) (fun d => n - (intOf d).toNat)
  case atStart => exact ⟨2, by omega, by omega, rfl, fun e h1 h2 => absurd h1 (by omega)⟩
  case round =>
    obtain ⟨d, hd2, hdn, rfl, hno⟩ := hrel
    by_cases hlt : d < n
    · have p1 : (d : Int) < (n : Int) := by omega
      obtain ⟨r, hr⟩ : ∃ r, n % d = r := ⟨_, rfl⟩
      have t1 : (n : Int).tmod (d : Int) = (r : Int) := by rw [Int.tmod_eq_emod_of_nonneg (by omega), ← hr]; rfl
      have q2 : ¬ (d : Int) = 0 := by omega
      by_cases hr0 : r = 0
      · subst hr0
        have HP := Lib.hid (show isPb n = false by
          cases h : isPb n
          · rfl
          · exact absurd hr (((isPb_iff n).1 h).2 d hd2 hlt))
        clear hno hr
        go_wp2_with fail
        go_ret
        exact ⟨ret_bool (by rw [HP.out]; rfl), rfl⟩
      · have q3 : ¬ (r : Int) = 0 := by omega
        have q4 : ((r : Int) == 0) = false := by simpa using q3
        have HNO := Lib.hid (show ∀ e, 2 ≤ e → e < d + 1 → n % e ≠ 0 from fun e h1 h2 => by
          rcases Nat.lt_or_ge e d with h | h
          · exact hno e h1 h
          · rw [show e = d by omega, hr]; exact hr0)
        clear hno hr
        go_wp2_with fail
        go_round
        case rel => exact ⟨d + 1, by omega, by omega, congrArg (Value.int .i64) (by omega), HNO.out⟩
        case measure => simp [intOf]; omega
    · obtain rfl : d = n := by omega
      have p1 : ¬ (d : Int) < (d : Int) := by omega
      have HP := Lib.hid (show isPb d = true from (isPb_iff d).2 ⟨h2, fun e h1 h3 => hno e h1 h3⟩)
      clear hno
      go_wp2_with fail
      go_ret
      exact ⟨ret_bool (by rw [HP.out]; rfl), rfl⟩
theorem prime_le {n p : Nat} (h : cnt n ≤ cnt p) (hp : isPb p = true) (_ : isPb n = true) : n ≤ p := by
  apply Nat.le_of_not_lt
  intro hlt
  have h1 := cnt_le (p + 1) (n - (p + 1))
  rw [show p + 1 + (n - (p + 1)) = n by omega, cnt, hp] at h1
  simp at h1
  omega
set_option maxHeartbeats 4000000 in
theorem rprime_any (i p : Nat) (w : World) (hp : isPb p = true) (hc : cnt p = i) (hp9 : p ≤ 9000) (hi : i ≤ 999) :
    Calls Try.prog 8 #[.int .i64 (i : Int)] w fun e w' => e = .returned (.int .i64 (p : Int)) ∧ w = w' := by
  have hi9 : (i : Int) ≤ 999 := by omega
  have HP := Lib.hid hp
  have HC := Lib.hid hc
  clear hp hc
  go_enter Try.func8, Try.ntmps8
  go_wp2_with fail
  go_loop [3, 4] (fun n k => ∃ n' k' : Nat, k' ≤ i ∧ n = .int .i64 (n' : Int) ∧ k = .int .i64 (k' : Int) ∧ isPb n' = true ∧ cnt n' = k') (fun _ k => i - (intOf k).toNat)
  case atStart => exact ⟨2, 0, by omega, rfl, rfl, by decide +kernel, by decide +kernel⟩
  case round =>
    obtain ⟨n, k, hk, rfl, rfl, hn, hcn⟩ := hrel
    have hnp : n ≤ p := prime_le (by rw [hcn, HC.out]; exact hk) HP.out hn
    have n9 : (n : Int) ≤ 9000 := by omega
    by_cases hlt : k < i
    · have p1 : (k : Int) < (i : Int) := by omega
      have hlp : n + 1 ≤ p := by
        rcases Nat.lt_or_eq_of_le hnp with h | h
        · exact h
        · rw [h, HC.out] at hcn; omega
      have HN1 := Lib.hid (show cnt (n + 1) = k + 1 by rw [cnt, hn, hcn]; rfl)
      have hn2 : 2 ≤ n := ((isPb_iff n).1 hn).1
      clear hn hcn
      go_wp2_with fail
      go_loop [3] (fun m => ∃ m' : Nat, n + 1 ≤ m' ∧ m' ≤ p ∧ m = .int .i64 (m' : Int) ∧ cnt m' = k + 1) (fun m => p - (intOf m).toNat)
      case atStart => exact ⟨n + 1, by omega, hlp, congrArg (Value.int .i64) (by omega), HN1.out⟩
      case round =>
        obtain ⟨m, hm1, hm2, rfl, hcm⟩ := hrel
        have m9 : (m : Int) ≤ 9000 := by omega
        have DA := fun w => divides_any m w (by omega) (by omega)
        cases hpm : isPb m
        · rw [hpm] at DA
          have hmp : m < p := by
            rcases Nat.lt_or_eq_of_le hm2 with h | h
            · exact h
            · rw [h, HP.out] at hpm; exact absurd hpm (by decide)
          have HM := Lib.hid (show cnt (m + 1) = k + 1 by rw [cnt, hpm, hcm]; rfl)
          clear hpm hcm
          go_wp2_with (go_at_call 12; refine (DA _).mono ?_; rintro e w' ⟨rfl, rfl⟩)
          go_round
          case rel => exact ⟨m + 1, by omega, by omega, congrArg (Value.int .i64) (by omega), HM.out⟩
          case measure => simp [intOf]; omega
        · rw [hpm] at DA
          have HM := Lib.hid hpm
          have HCM := Lib.hid hcm
          clear hpm hcm
          go_wp2_with (go_at_call 12; refine (DA _).mono ?_; rintro e w' ⟨rfl, rfl⟩)
          go_round
          case rel => exact ⟨m, k + 1, by omega, rfl, congrArg (Value.int .i64) (by omega), HM.out, HCM.out⟩
          case measure => simp [intOf]; omega
    · obtain rfl : k = i := by omega
      have p1 : ¬ (k : Int) < (k : Int) := by omega
      have HE := Lib.hid (show n = p from Nat.le_antisymm hnp (prime_le (by rw [hcn, HC.out]; exact Nat.le_refl _) hn HP.out))
      clear hn hcn
      go_wp2_with fail
      go_ret
      exact ⟨ret_int (by rw [HE.out]), rfl⟩
theorem prime_out (i : Int) (w : World) (h : i < 0 ∨ 999 < i) :
    Calls Try.prog 7 #[.int .i64 i] w fun e w' => e = .returned (.int .i64 0) ∧ w = w' := by
  by_cases h0 : i < 0
  · go_enter Try.func7, Try.ntmps7
    go_wp2_with fail
    refine wp_scope_fwd 0 rfl ?_
    go_wp2_with fail
    first | go_ret | (rw [jump_ret]; go_ret)
    exact ⟨rfl, rfl⟩
  · have h1 : 999 < i := by omega
    go_enter Try.func7, Try.ntmps7
    go_wp2_with fail
    refine wp_scope_fwd 0 rfl ?_
    go_wp2_with fail
    first | go_ret | (rw [jump_ret]; go_ret)
    exact ⟨rfl, rfl⟩
theorem rprime_out (i : Int) (w : World) (h : i < 0 ∨ 999 < i) :
    Calls Try.prog 8 #[.int .i64 i] w fun e w' => e = .returned (.int .i64 0) ∧ w = w' := by
  by_cases h0 : i < 0
  · go_enter Try.func8, Try.ntmps8
    go_wp2_with fail
    go_ret
    exact ⟨rfl, rfl⟩
  · have h1 : 999 < i := by omega
    go_enter Try.func8, Try.ntmps8
    go_wp2_with fail
    go_ret
    exact ⟨rfl, rfl⟩
theorem primes_of (i v : Int) (w : World) (h : i ≤ 300 ∨ 1000 ≤ i) (PA : Calls Try.prog 7 #[.int .i64 i] w fun e w' => e = .returned (.int .i64 v) ∧ w = w') (RA : Calls Try.prog 8 #[.int .i64 i] w fun e w' => e = .returned (.int .i64 v) ∧ w = w') :
    Calls Try.prog 3 #[.int .i64 i] w fun e w' => e = .returned (.bool true) ∧ Below w.heap.size w w' := by
  by_cases h1 : i ≤ 300
  · have h2 : ¬ 300 < i := by omega
    have h3 : decide (300 < i) = false := by simpa using h2
    go_enter Try.func3, Try.ntmps3
    go_wp2_with (first
      | (go_at_call 7; refine PA.mono ?_; rintro e w' ⟨rfl, rfl⟩)
      | (go_at_call 8; refine RA.mono ?_; rintro e w' ⟨rfl, rfl⟩)
      | (go_at_call 6; refine (lives_any _).mono ?_; rintro e w' ⟨rfl, hb⟩))
    go_ret
    exact ⟨rfl, by assumption⟩
  · have h2 : 300 < i := by omega
    have h3 : ¬ i < 1000 := by omega
    have h4 : decide (i < 1000) = false := by simpa using h3
    go_enter Try.func3, Try.ntmps3
    go_wp2_with (first
      | (go_at_call 7; refine PA.mono ?_; rintro e w' ⟨rfl, rfl⟩)
      | (go_at_call 8; refine RA.mono ?_; rintro e w' ⟨rfl, rfl⟩)
      | (go_at_call 6; refine (lives_any _).mono ?_; rintro e w' ⟨rfl, hb⟩))
    go_ret
    exact ⟨rfl, by assumption⟩
theorem rootsPrimes_walk (i : Int) (w : World) (_ : (Lit.int .i64 i).wf = true) :
    Calls Try.prog 3 #[.int .i64 i] w fun e w' => e = .returned (.bool true) ∧ Below w.heap.size w w' := by
  by_cases h0 : i < 0 ∨ 999 < i
  · exact primes_of i 0 w (by omega) (prime_out i w h0) (rprime_out i w h0)
  · by_cases h1 : i ≤ 300
    · obtain ⟨k, rfl⟩ : ∃ k : Nat, i = (k : Int) := ⟨i.toNat, by omega⟩
      obtain ⟨p, hp1, hp2, hp3⟩ := prime_ex k (by omega)
      exact primes_of k p w (.inl h1) (prime_any k p w hp2 hp3 (by omega) (by omega)) (rprime_any k p w hp2 hp3 (by omega) (by omega))
    · have h2 : 300 < i := by omega
      have h3 : i < 1000 := by omega
      go_enter Try.func3, Try.ntmps3
      go_wp2_with (go_at_call 6; refine (lives_any _).mono ?_; rintro e w' ⟨rfl, hb⟩)
      go_ret
      exact ⟨rfl, by assumption⟩
end Go.Proofs.Ytmkcbmlpdkaniaf
