/- Powers and roots modulo 2^255 - 19: when a number has a root, and which. No program in it. -/
import Derived.Test.YthdbadomppohbaaPrm
namespace Go.Proofs.Ythdbadomppohbaa
set_option maxRecDepth 20000
set_option linter.unusedSimpArgs false
set_option linter.unusedVariables false
theorem mmL (a b n : Nat) : a % n * b % n = a * b % n := by rw [Nat.mul_mod, Nat.mod_mod, ← Nat.mul_mod]
theorem mmR (a b n : Nat) : a * (b % n) % n = a * b % n := by rw [Nat.mul_mod, Nat.mod_mod, ← Nat.mul_mod]
theorem pow0 (a e : Nat) (he : 0 < e) (ha : a % PN = 0) : a ^ e % PN = 0 := by
  rw [Nat.pow_mod, ha, Nat.zero_pow he, Nat.zero_mod]
theorem pow01 (a e : Nat) (he : e = PN - 1) (h0 : 0 < e) : a ^ e % PN = 0 ∨ a ^ e % PN = 1 := by
  by_cases h : a % PN = 0
  · exact .inl (pow0 a e h0 h)
  · rw [he]
    exact .inr (fermatP a h)
theorem sq_eq (q a : Nat) (hq : q < PN) (ha : a < PN) (h : q * q % PN = a * a % PN) : q = a ∨ q = (0 + PN - a) % PN := by
  have main : ∀ x y : Nat, y ≤ x → x < PN → x * x % PN = y * y % PN → x = y ∨ x + y = PN := fun x y hyx hx he => by
    have hd : PN ∣ (x - y) * (x + y) := by
      obtain ⟨d, rfl⟩ : ∃ d, x = y + d := ⟨x - y, by omega⟩
      have e1 : (y + d) * (y + d) = y * y + (y + d - y) * (y + d + y) := by
        rw [show y + d - y = d by omega]
        simp only [Nat.mul_add, Nat.mul_comm]
        omega
      rw [e1] at he
      have h2 : (y * y + (y + d - y) * (y + d + y) - y * y) % PN = 0 := Nat.sub_mod_eq_zero_of_mod_eq he
      rw [Nat.add_sub_cancel_left] at h2
      exact Nat.dvd_of_mod_eq_zero h2
    rcases primeP.2 _ _ hd with h1 | h1
    · rcases Nat.eq_zero_or_pos (x - y) with h0 | h0
      · exact .inl (by omega)
      · have := Nat.le_of_dvd h0 h1
        omega
    · rcases Nat.eq_zero_or_pos (x + y) with h0 | h0
      · exact .inl (by omega)
      · obtain ⟨k, hk⟩ := h1
        have hk1 : k = 1 := by
          rcases Nat.lt_or_ge k 2 with h | h
          · have : k ≠ 0 := fun e => by subst e; omega
            omega
          · have := Nat.mul_le_mul_left PN h
            omega
        subst hk1
        exact .inr (by omega)
  rcases Nat.le_total a q with hl | hl
  · rcases main q a hl hq h with h1 | h1
    · exact .inl h1
    · right
      by_cases ha0 : a = 0
      · omega
      · rw [Nat.zero_add, Nat.mod_eq_of_lt (by omega)]
        omega
  · rcases main a q hl ha h.symm with h1 | h1
    · exact .inl h1.symm
    · right
      by_cases ha0 : a = 0
      · omega
      · rw [Nat.zero_add, Nat.mod_eq_of_lt (by omega)]
        omega
theorem one_roots (t : Nat) (ht : t < PN) (h : t * t % PN = 1) : t = 1 ∨ t = PN - 1 := by
  have h1 : 1 * 1 % PN = 1 := by decide +kernel
  rcases sq_eq t 1 ht (by decide +kernel) (h.trans h1.symm) with e | e
  · exact .inl e
  · right
    rw [e]
    decide +kernel
theorem neg_sq : (PN - 1) * (PN - 1) % PN = 1 := by decide +kernel
/-- A number has a root just if its (p - 1)/2-th power is 0 or 1; and which one. -/
theorem root_when (a r0 i e2 e3 e4 : Nat) (ha : a < PN) (h2 : 2 * e2 = PN - 1) (h3 : 8 * e3 = PN + 3) (h4 : 4 * e4 = PN - 1) (hr : r0 = a ^ e3 % PN) (hi : i * i % PN = PN - 1) :
    ((if r0 * r0 % PN = a then r0 else r0 * i % PN) * (if r0 * r0 % PN = a then r0 else r0 * i % PN) % PN = a) ↔ (a ^ e2 % PN = 0 ∨ a ^ e2 % PN = 1) := by
  have he2 : e2 = e4 + e4 := by omega
  have he3 : e3 + e3 = e4 + 1 := by omega
  have hp2 : 2 ≤ PN := PN_ge
  have h20 : 0 < e2 + e2 := by omega
  constructor
  · intro h
    generalize (if r0 * r0 % PN = a then r0 else r0 * i % PN) = q at h
    have e : a ^ e2 % PN = q ^ (e2 + e2) % PN := by
      rw [← h, ← Nat.pow_mod, ← Nat.pow_two, ← Nat.pow_mul, show 2 * e2 = e2 + e2 by omega]
    rw [e]
    exact pow01 q (e2 + e2) (by omega) h20
  · intro h
    have hrr : r0 * r0 % PN = a * (a ^ e4 % PN) % PN := by
      rw [hr, ← Nat.mul_mod, ← Nat.pow_add, he3, Nat.pow_succ, mmR, Nat.mul_comm]
    rcases h with h | h
    · have ha0 : a % PN = 0 := by
        rcases Nat.eq_zero_or_pos (a % PN) with h0 | h0
        · exact h0
        · have hf := fermatP a (by omega)
          rw [← h2, show 2 * e2 = e2 + e2 by omega, Nat.pow_add, Nat.mul_mod, h, Nat.mul_zero, Nat.zero_mod] at hf
          omega
      have haz : a = 0 := by rw [Nat.mod_eq_of_lt ha] at ha0; exact ha0
      have hz : r0 * r0 % PN = a := by rw [hrr, haz, Nat.zero_mul, Nat.zero_mod]
      rw [if_pos hz]
      exact hz
    · have ht : (a ^ e4 % PN) * (a ^ e4 % PN) % PN = 1 := by
        rw [← Nat.mul_mod, ← Nat.pow_add, ← he2]
        exact h
      rcases one_roots (a ^ e4 % PN) (Nat.mod_lt _ PN_pos) ht with e | e
      · have hz : r0 * r0 % PN = a := by rw [hrr, e, Nat.mul_one, Nat.mod_eq_of_lt ha]
        rw [if_pos hz]
        exact hz
      · by_cases hz : r0 * r0 % PN = a
        · rw [if_pos hz]
          exact hz
        · rw [if_neg hz, ← Nat.mul_mod, show r0 * i * (r0 * i) = r0 * r0 * (i * i) by rw [Nat.mul_assoc, Nat.mul_left_comm i, ← Nat.mul_assoc], Nat.mul_mod, hrr, hi, e, mmL, Nat.mul_assoc, ← mmR, neg_sq, Nat.mul_one, Nat.mod_eq_of_lt ha]
/-- A number times its inverse. -/
theorem inv_mul (a e : Nat) (ha : a < PN) (he : e = PN - 2) : a * (a ^ e % PN) % PN = if a = 0 then 0 else 1 := by
  have hp2 : 2 ≤ PN := PN_ge
  rw [mmR, Nat.mul_comm, ← Nat.pow_succ, show e.succ = PN - 1 from (by omega : e + 1 = PN - 1)]
  split
  · rename_i h
    exact pow0 a (PN - 1) (by omega) (by rw [h, Nat.zero_mod])
  · rename_i h
    exact fermatP a (by rw [Nat.mod_eq_of_lt ha]; exact h)
end Go.Proofs.Ythdbadomppohbaa
