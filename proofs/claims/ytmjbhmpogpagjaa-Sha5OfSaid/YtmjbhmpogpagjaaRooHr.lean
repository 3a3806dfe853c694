/- The reference's Prime (layer 14), without its law. -/
import Derived.Test.YtmjbhmpogpagjaaRooGl
namespace Go.Proofs.Ytmjbhmpogpagjaa
set_option maxRecDepth 20000
set_option linter.unusedSimpArgs false
set_option linter.unusedVariables false
open Go.RowKit
theorem divides_any (n : Nat) (w : World) (h2 : 2 ≤ n) (h9 : n ≤ 10000) :
    Calls Try.prog 57 #[.int .i64 (n : Int), .int .i64 2] w fun e w' => e = .returned (.bool (!isPb n)) ∧ w = w' := by
  have n9 : (n : Int) ≤ 10000 := by omega
  go_enter Try.func57, Try.ntmps57
  go_wp2_with fail
  go_loop [5] (fun d => ∃ d' : Nat, 2 ≤ d' ∧ d' ≤ n ∧ d = .int .i64 (d' : Int) ∧ ∀ e, 2 ≤ e → e < d' → n % e ≠ 0) (fun d => n - (intOf d).toNat)
  case atStart => exact ⟨2, by omega, by omega, rfl, fun e h1 h2 => absurd h1 (by omega)⟩
  case round =>
    obtain ⟨d, hd2, hdn, rfl, hno⟩ := hrel
    by_cases hlt : d < n
    · have p1 : (d : Int) < (n : Int) := by omega
      obtain ⟨r, hr⟩ : ∃ r, n % d = r := ⟨_, rfl⟩
      have t1 : (n : Int).tmod (d : Int) = (r : Int) := by rw [Int.tmod_eq_emod_of_nonneg (by omega), ← hr]; rfl
      have q2 : ¬ (d : Int) = 0 := by omega
      by_cases hr0 : r = 0
      · subst hr0
        have HP := Lib.hid (show isPb n = false by
          cases h : isPb n
          · rfl
          · exact absurd hr (((isPb_iff n).1 h).2 d hd2 hlt))
        clear hno hr
        go_wp2_with fail
        go_ret
        exact ⟨ret_bool (by rw [HP.out]; rfl), rfl⟩
      · have q3 : ¬ (r : Int) = 0 := by omega
        have q4 : ((r : Int) == 0) = false := by simpa using q3
        have HNO := Lib.hid (show ∀ e, 2 ≤ e → e < d + 1 → n % e ≠ 0 from fun e h1 h2 => by
          rcases Nat.lt_or_ge e d with h | h
          · exact hno e h1 h
          · rw [show e = d by omega, hr]; exact hr0)
        clear hno hr
        go_wp2_with fail
        go_round
        case rel => exact ⟨d + 1, by omega, by omega, congrArg (Value.int .i64) (by omega), HNO.out⟩
        case measure => simp [intOf]; omega
    · obtain rfl : d = n := by omega
      have p1 : ¬ (d : Int) < (d : Int) := by omega
      have HP := Lib.hid (show isPb d = true from (isPb_iff d).2 ⟨h2, fun e h1 h3 => hno e h1 h3⟩)
      clear hno
      go_wp2_with fail
      go_ret
      exact ⟨ret_bool (by rw [HP.out]; rfl), rfl⟩
theorem prime_le {n p : Nat} (h : cnt n ≤ cnt p) (hp : isPb p = true) (_ : isPb n = true) : n ≤ p := by
  apply Nat.le_of_not_lt
  intro hlt
  have h1 := cnt_le (p + 1) (n - (p + 1))
  rw [show p + 1 + (n - (p + 1)) = n by omega, cnt, hp] at h1
  simp at h1
  omega
set_option maxHeartbeats 4000000 in
theorem rprime_any (i p : Nat) (w : World) (hp : isPb p = true) (hc : cnt p = i) (hp9 : p ≤ 9000) (hi : i ≤ 999) :
    Calls Try.prog 34 #[.int .i64 (i : Int)] w fun e w' => e = .returned (.int .i64 (p : Int)) ∧ w = w' := by
  have hi9 : (i : Int) ≤ 999 := by omega
  have HP := Lib.hid hp
  have HC := Lib.hid hc
  clear hp hc
  go_enter Try.func34, Try.ntmps34
  go_wp2_with fail
  go_loop [3, 4] (fun n k => ∃ n' k' : Nat, k' ≤ i ∧ n = .int .i64 (n' : Int) ∧ k = .int .i64 (k' : Int) ∧ isPb n' = true ∧ cnt n' = k') (fun _ k => i - (intOf k).toNat)
  case atStart => exact ⟨2, 0, by omega, rfl, rfl, by decide +kernel, by decide +kernel⟩
  case round =>
    obtain ⟨n, k, hk, rfl, rfl, hn, hcn⟩ := hrel
    have hnp : n ≤ p := prime_le (by rw [hcn, HC.out]; exact hk) HP.out hn
    have n9 : (n : Int) ≤ 9000 := by omega
    by_cases hlt : k < i
    · have p1 : (k : Int) < (i : Int) := by omega
      have hlp : n + 1 ≤ p := by
        rcases Nat.lt_or_eq_of_le hnp with h | h
        · exact h
        · rw [h, HC.out] at hcn; omega
      have HN1 := Lib.hid (show cnt (n + 1) = k + 1 by rw [cnt, hn, hcn]; rfl)
      have hn2 : 2 ≤ n := ((isPb_iff n).1 hn).1
      clear hn hcn
      go_wp2_with fail
      go_loop [3] (fun m => ∃ m' : Nat, n + 1 ≤ m' ∧ m' ≤ p ∧ m = .int .i64 (m' : Int) ∧ cnt m' = k + 1) (fun m => p - (intOf m).toNat)
      case atStart => exact ⟨n + 1, by omega, hlp, congrArg (Value.int .i64) (by omega), HN1.out⟩
      case round =>
        obtain ⟨m, hm1, hm2, rfl, hcm⟩ := hrel
        have m9 : (m : Int) ≤ 9000 := by omega
        have DA := fun w => divides_any m w (by omega) (by omega)
        cases hpm : isPb m
        · rw [hpm] at DA
          have hmp : m < p := by
            rcases Nat.lt_or_eq_of_le hm2 with h | h
            · exact h
            · rw [h, HP.out] at hpm; exact absurd hpm (by decide)
          have HM := Lib.hid (show cnt (m + 1) = k + 1 by rw [cnt, hpm, hcm]; rfl)
          clear hpm hcm
          go_wp2_with (go_at_call 57; refine (DA _).mono ?_; rintro e w' ⟨rfl, rfl⟩)
          go_round
          case rel => exact ⟨m + 1, by omega, by omega, congrArg (Value.int .i64) (by omega), HM.out⟩
          case measure => simp [intOf]; omega
        · rw [hpm] at DA
          have HM := Lib.hid hpm
          have HCM := Lib.hid hcm
          clear hpm hcm
          go_wp2_with (go_at_call 57; refine (DA _).mono ?_; rintro e w' ⟨rfl, rfl⟩)
          go_round
          case rel => exact ⟨m, k + 1, by omega, rfl, congrArg (Value.int .i64) (by omega), HM.out, HCM.out⟩
          case measure => simp [intOf]; omega
    · obtain rfl : k = i := by omega
      have p1 : ¬ (k : Int) < (k : Int) := by omega
      have HE := Lib.hid (show n = p from Nat.le_antisymm hnp (prime_le (by rw [hcn, HC.out]; exact Nat.le_refl _) hn HP.out))
      clear hn hcn
      go_wp2_with fail
      go_ret
      exact ⟨ret_int (by rw [HE.out]), rfl⟩
end Go.Proofs.Ytmjbhmpogpagjaa
