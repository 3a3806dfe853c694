/- Prime numbers; what Prime answers. -/
import Derived.Test.YtmjbhmpogpagjaaRooE
import Derived.WalkMore
import Derived.ScopeJumps
import Derived.OwnWalk
namespace Go.Proofs.Ytmjbhmpogpagjaa
set_option maxRecDepth 20000
set_option linter.unusedSimpArgs false
set_option linter.unusedVariables false
open Go.RowKit
section
variable {P : Program} {a : Act} {w : World} {Q : Exit → Act → World → Prop}
@[go_sem] theorem jump_ret (l : Nat) (J : Act → World → Prop) : Exit.jump l J Q .ret a w = Q .ret a w := rfl
@[go_sem] theorem jump_normal (l : Nat) (J : Act → World → Prop) : Exit.jump l J Q .normal a w = Q .normal a w := rfl
@[go_sem] theorem jump_exit (l id : Nat) (J : Act → World → Prop) : Exit.jump l J Q (.exit id) a w = Q (.exit id) a w := rfl
/-- A scope in which each goto leads forward to one label, behind which there is none. -/
theorem wp_scope_fwd {c rest : Code} (l : Nat) (hf : findLabel c l = some rest)
    (first : c.wp P (Exit.jump l (fun a' w' => rest.wp P (Exit.noGoto Q) a' w') Q) a w) : (Code.scope c).wp P Q a w := by
  refine wp_scope_jumps l (fun a' w' => rest.wp P (Exit.noGoto Q) a' w') (fun _ _ => 0) hf first ?_
  intro a w h b k cs
  obtain ⟨e, a₁, w₁, hq, harr⟩ := h b k cs
  refine ⟨e, a₁, w₁, ?_, harr⟩
  cases e with
  | goto l => exact hq.elim
  | _ => exact hq
end
def isPb (n : Nat) : Bool := decide (2 ≤ n) && (List.range n).all fun d => decide (d < 2) || n % d != 0
/-- How many prime numbers there are below a number. -/
def cnt : Nat → Nat
  | 0 => 0
  | n + 1 => cnt n + if isPb n then 1 else 0
theorem isPb_iff (n : Nat) : isPb n = true ↔ 2 ≤ n ∧ ∀ d, 2 ≤ d → d < n → n % d ≠ 0 := by
  unfold isPb
  simp only [Bool.and_eq_true, decide_eq_true_eq, List.all_eq_true, List.mem_range, Bool.or_eq_true, bne_iff_ne]
  constructor
  · rintro ⟨h1, h2⟩
    refine ⟨h1, fun d hd hdn => ?_⟩
    rcases h2 d hdn with h | h
    · omega
    · exact h
  · rintro ⟨h1, h2⟩
    refine ⟨h1, fun d hdn => ?_⟩
    by_cases h : d < 2
    · exact .inl h
    · exact .inr (h2 d (by omega) hdn)
theorem cnt_le (a : Nat) : ∀ k, cnt a ≤ cnt (a + k)
  | 0 => Nat.le_refl _
  | k + 1 => by
    have := cnt_le a k
    rw [← Nat.add_assoc, cnt]
    omega
/-- No divisor up to the root: none at all. -/
theorem prime_root (n d : Nat) (h2 : 2 ≤ n) (hd : n < d * d) (h : ∀ e, 2 ≤ e → e < d → n % e ≠ 0) : isPb n = true := by
  rw [isPb_iff]
  refine ⟨h2, fun e e2 en he => ?_⟩
  rcases Nat.lt_or_ge e d with h3 | h3
  · exact h e e2 h3 he
  · have hq := Nat.div_add_mod n e
    rw [he, Nat.add_zero] at hq
    generalize n / e = q at hq
    have hqd : q < d := by
      apply Nat.lt_of_not_le
      intro h4
      have := Nat.mul_le_mul h3 h4
      rw [hq] at this
      omega
    have hq2 : 2 ≤ q := by
      rcases Nat.lt_or_ge q 2 with h5 | h5
      · have h6 : q = 0 ∨ q = 1 := by omega
        rcases h6 with h6 | h6 <;> rw [h6] at hq <;> omega
      · exact h5
    refine h q hq2 hqd ?_
    rw [← hq]
    exact Nat.mul_mod_left _ _
set_option maxHeartbeats 4000000 in
theorem prime_any (i p : Nat) (w : World) (hp : isPb p = true) (hc : cnt p = i) (hp9 : p ≤ 10000) (hi : i ≤ 999) :
    Calls Try.prog 25 #[.int .i64 (i : Int)] w fun e w' => e = .returned (.int .i64 (p : Int)) ∧ w = w' := by
  have hi9 : (i : Int) ≤ 999 := by omega
  have hp2 : 2 ≤ p := ((isPb_iff p).1 hp).1
  have HP := Lib.hid hp
  have HC := Lib.hid hc
  clear hp hc
  go_enter Try.func25, Try.ntmps25
  go_wp2_with fail
  refine wp_scope_fwd 0 rfl ?_
  go_wp2_with fail
  go_step3
  go_wp2_with fail
  go_loop [3, 4] (fun s n => ∃ n' : Nat, 2 ≤ n' ∧ n' ≤ p ∧ n = .int .i64 (n' : Int) ∧ s = .int .i64 (cnt n' : Int)) (fun _ n => p - (intOf n).toNat)
  case atStart => exact ⟨2, by omega, hp2, rfl, rfl⟩
  case round =>
    obtain ⟨n, hn2, hnp, rfl, rfl⟩ := hrel
    have hcn : cnt n ≤ i := by
      have := cnt_le n (p - n)
      rw [show n + (p - n) = p by omega, HC.out] at this
      exact this
    have n9 : (n : Int) ≤ 10000 := by omega
    go_wp2_with fail
    go_loop [5] (fun d => ∃ d' : Nat, 2 ≤ d' ∧ d' ≤ n + 1 ∧ d = .int .i64 (d' : Int) ∧ ∀ e, 2 ≤ e → e < d' → n % e ≠ 0) (fun d => n + 1 - (intOf d).toNat)
    case atStart => exact ⟨2, by omega, by omega, rfl, fun e h1 h2 => absurd h1 (by omega)⟩
    case round =>
      obtain ⟨d, hd2, hdn, rfl, hno⟩ := hrel
      obtain ⟨s, hs⟩ : ∃ s, d * d = s := ⟨_, rfl⟩
      have hs9 : s ≤ 10001 * 10001 := by rw [← hs]; exact Nat.mul_le_mul (by omega) (by omega)
      have ps : (d : Int) * (d : Int) = (s : Int) := by rw [← hs, Int.natCast_mul]
      have s9 : (s : Int) ≤ 100020001 := by omega
      by_cases hle : s ≤ n
      · have hdd : d < n := by
          have : 2 * d ≤ d * d := Nat.mul_le_mul_right _ hd2
          omega
        have q1 : (s : Int) ≤ (n : Int) := by omega
        obtain ⟨r, hr⟩ : ∃ r, n % d = r := ⟨_, rfl⟩
        have t1 : (n : Int).tmod (d : Int) = (r : Int) := by rw [Int.tmod_eq_emod_of_nonneg (by omega), ← hr]; rfl
        have q2 : ¬ (d : Int) = 0 := by omega
        have d9 : (d : Int) ≤ 10000 := by omega
        by_cases hr0 : r = 0
        · subst hr0
          have hnP : isPb n = false := by
            cases h : isPb n
            · rfl
            · exact absurd hr (((isPb_iff n).1 h).2 d hd2 hdd)
          have hne : n < p := by
            rcases Nat.lt_or_eq_of_le hnp with h | h
            · exact h
            · rw [h, HP.out] at hnP; exact absurd hnP (by decide)
          have HCN := Lib.hid (show cnt (n + 1) = cnt n by rw [cnt, hnP]; rfl)
          clear hno hs hr hnP
          go_wp2_with fail
          go_round
          case rel => exact ⟨n + 1, by omega, by omega, congrArg (Value.int .i64) (by omega), congrArg (Value.int .i64) (by rw [HCN.out])⟩
          case measure => simp [intOf]; omega
        · have q3 : ¬ (r : Int) = 0 := by omega
          have q4 : ((r : Int) == 0) = false := by simpa using q3
          have HNO := Lib.hid (show ∀ e, 2 ≤ e → e < d + 1 → n % e ≠ 0 from fun e h1 h2 => by
            rcases Nat.lt_or_ge e d with h | h
            · exact hno e h1 h
            · rw [show e = d by omega, hr]; exact hr0)
          clear hno hs hr
          go_wp2_with fail
          go_round
          case rel => exact ⟨d + 1, by omega, by omega, congrArg (Value.int .i64) (by omega), HNO.out⟩
          case measure => simp [intOf]; omega
      · have q1 : ¬ (s : Int) ≤ (n : Int) := by omega
        have hnP := prime_root n d hn2 (by omega) hno
        have HCN := Lib.hid (show cnt (n + 1) = cnt n + 1 by rw [cnt, hnP]; rfl)
        clear hno hs
        by_cases hcp : cnt n = i
        · have hnp' : n = p := by
            rcases Nat.lt_or_eq_of_le hnp with h | h
            · have := cnt_le (n + 1) (p - (n + 1))
              rw [show n + 1 + (p - (n + 1)) = p by omega, HC.out, HCN.out] at this
              omega
            · exact h
          have q2 : (cnt n : Int) = (i : Int) := by omega
          have q3 : ((cnt n : Int) == (i : Int)) = true := by simpa using q2
          have HN := Lib.hid hnp'
          clear hcn hcp hnp' hnP
          generalize cnt n = c at *
          go_wp2_with fail
          go_ret
          exact ⟨ret_int (by rw [HN.out]), rfl⟩
        · have q2 : ¬ (cnt n : Int) = (i : Int) := by omega
          have q3 : ((cnt n : Int) == (i : Int)) = false := by simpa using q2
          have hne : n < p := by
            rcases Nat.lt_or_eq_of_le hnp with h | h
            · exact h
            · rw [h] at hcp; exact absurd HC.out hcp
          clear hnP
          generalize hcc : cnt n = c at *
          have HCC := Lib.hid hcc
          clear hcc
          go_wp2_with fail
          go_round
          case rel => exact ⟨n + 1, by omega, by omega, congrArg (Value.int .i64) (by omega), congrArg (Value.int .i64) (by rw [HCN.out]; omega)⟩
          case measure => simp [intOf]; omega
end Go.Proofs.Ytmjbhmpogpagjaa
