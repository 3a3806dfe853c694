/- roots: a bit more in a number of words. No program in it. -/
import Derived.Test.YtmjbhmpogpagjaaRooA
import Derived.Laws.Bits64b
namespace Go.Proofs.Ytmjbhmpogpagjaa
set_option maxRecDepth 20000
set_option linter.unusedSimpArgs false
set_option linter.unusedVariables false
theorem low_add (u m r : Nat) (hr : r < 64) (hu : u = m * 2 ^ (r + 1)) : (u + 2 ^ r) % B64 = u % B64 + 2 ^ r ∧ (u + 2 ^ r) / B64 = u / B64 ∧ ∃ t, u % B64 = t * 2 ^ (r + 1) := by
  have hB : B64 = 2 ^ (r + 1) * 2 ^ (63 - r) := by rw [← Nat.pow_add, show r + 1 + (63 - r) = 64 by omega]; rfl
  have hm : u % B64 = 2 ^ (r + 1) * (m % 2 ^ (63 - r)) := by rw [hu, Nat.mul_comm m, hB, Nat.mul_mod_mul_left]
  have hlt : m % 2 ^ (63 - r) + 1 ≤ 2 ^ (63 - r) := Nat.mod_lt _ (Nat.two_pow_pos _)
  have h1 : 2 ^ (r + 1) * (m % 2 ^ (63 - r) + 1) ≤ B64 := by rw [hB]; exact Nat.mul_le_mul_left _ hlt
  have h2 : 2 ^ r < 2 ^ (r + 1) := Nat.pow_lt_pow_right (by omega) (by omega)
  rw [Nat.mul_add, Nat.mul_one, ← hm] at h1
  have h3 : u % B64 + 2 ^ r < B64 := by omega
  have hd := Nat.div_add_mod u B64
  have h4 : u + 2 ^ r = (u % B64 + 2 ^ r) + B64 * (u / B64) := by omega
  refine ⟨?_, ?_, m % 2 ^ (63 - r), by rw [hm, Nat.mul_comm]⟩
  · rw [h4, Nat.add_mul_mod_self_left, Nat.mod_eq_of_lt h3]
  · rw [h4, Nat.add_mul_div_left _ _ B64_pos, Nat.div_eq_of_lt h3, Nat.zero_add]
theorem wd_succ (n i : Nat) : wd n (i + 1) = wd (n / B64) i := by
  have := wd_div n i 1
  rw [Nat.pow_one, Nat.add_comm] at this
  exact this.symm
theorem wd_zero (n : Nat) : wd n 0 = n % B64 := by unfold wd; rw [Nat.pow_zero, Nat.div_one]
/-- One bit more. -/
theorem more_words (x m a : Nat) (ha : a < 72) (hx : x = m * 2 ^ (a + 1)) :
    (numL x).set (a / 64) (.int .u64 ((wd x (a / 64) + 2 ^ (a % 64) : Nat) : Int)) = numL (x + 2 ^ a) ∧ wd x (a / 64) + 2 ^ (a % 64) = wd (x + 2 ^ a) (a / 64) ∧ ∃ t, wd x (a / 64) = t * 2 ^ (a % 64 + 1) := by
  by_cases h : a < 64
  · have q : a / 64 = 0 := by omega
    have r : a % 64 = a := by omega
    obtain ⟨h1, h2, h3⟩ := low_add x m a h hx
    rw [q, r, wd_zero]
    refine ⟨?_, by rw [wd_zero, h1], h3⟩
    unfold numL
    rw [wd_zero (x + 2 ^ a), wd_succ (x + 2 ^ a) 0, wd_succ (x + 2 ^ a) 1, wd_succ (x + 2 ^ a) 2, h1, h2, ← wd_succ, ← wd_succ, ← wd_succ]
    rfl
  · obtain ⟨r, hr⟩ : ∃ r, a = 64 + r := ⟨a - 64, by omega⟩
    have q : a / 64 = 1 := by omega
    have r' : a % 64 = r := by omega
    have hxu : x = (m * 2 ^ (r + 1)) * B64 := by
      rw [hx, hr, show 64 + r + 1 = r + 1 + 64 by omega, Nat.pow_add, ← Nat.mul_assoc]
      rfl
    have hxd : x / B64 = m * 2 ^ (r + 1) := by rw [hxu, Nat.mul_div_cancel _ B64_pos]
    have hpa : 2 ^ a = 2 ^ r * B64 := by rw [hr, Nat.add_comm, Nat.pow_add]; rfl
    have hsum : x + 2 ^ a = (m * 2 ^ (r + 1) + 2 ^ r) * B64 := by rw [hxu, hpa, Nat.add_mul]
    have hsd : (x + 2 ^ a) / B64 = m * 2 ^ (r + 1) + 2 ^ r := by rw [hsum, Nat.mul_div_cancel _ B64_pos]
    obtain ⟨h1, h2, h3⟩ := low_add (m * 2 ^ (r + 1)) m r (by omega) rfl
    have w1 : wd x 1 = m * 2 ^ (r + 1) % B64 := by rw [wd_succ, hxd, wd_zero]
    rw [q, r']
    have z0 : wd (x + 2 ^ a) 0 = wd x 0 := by rw [wd_zero, wd_zero, hsum, hxu, Nat.mul_mod_left, Nat.mul_mod_left]
    have z1 : wd (x + 2 ^ a) 1 = wd x 1 + 2 ^ r := by rw [wd_succ, hsd, wd_zero, h1, w1]
    have z2 : wd (x + 2 ^ a) 2 = wd x 2 := by rw [wd_succ, hsd, wd_succ, h2, wd_succ x 1, hxd, wd_succ _ 0]
    have z3 : wd (x + 2 ^ a) 3 = wd x 3 := by rw [wd_succ, hsd, wd_succ, h2, wd_succ x 2, hxd, wd_succ _ 1]
    refine ⟨?_, z1.symm, by rw [w1]; exact h3⟩
    unfold numL
    rw [z0, z1, z2, z3]
    rfl
theorem or_bit (w t r : Nat) (hr : r < 64) (hw : w < 18446744073709551616) (h : w = t * 2 ^ (r + 1)) : bits .or .u64 (w : Int) ((2 ^ r : Nat) : Int) = ((w + 2 ^ r : Nat) : Int) := by
  have h2 : 2 ^ r < 18446744073709551616 := Nat.pow_lt_pow_right (a := 2) (by omega) hr
  rw [bits_or_u64_nat _ _ (by omega) (by omega)]
  have h3 := Nat.shiftLeft_add_eq_or_of_lt (i := r + 1) (b := 2 ^ r) (Nat.pow_lt_pow_right (by omega) (by omega)) t
  rw [Nat.shiftLeft_eq, ← h] at h3
  rw [h3]
end Go.Proofs.Ytmjbhmpogpagjaa
