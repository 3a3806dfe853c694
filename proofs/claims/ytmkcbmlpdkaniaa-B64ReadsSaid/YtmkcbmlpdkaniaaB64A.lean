/- Bits of a row of small numbers, and the number of some bits that follow each other. No program in it. -/
import Derived.Test.YtmkcbmlpdkaniaaAid
namespace Go.Proofs.Ytmkcbmlpdkaniaa
/-- Bit i of a row of numbers of F bits each, each one's highest bit first. -/
def btN (F : Nat) (x : Nat → Nat) (i : Nat) : Nat := x (i / F) / 2 ^ (F - 1 - i % F) % 2
/-- The number of n bits from place i on. -/
def wN (F : Nat) (x : Nat → Nat) (i : Nat) : Nat → Nat
  | 0 => 0
  | n + 1 => 2 * wN F x i n + btN F x (i + n)
theorem bt_lt (F : Nat) (x : Nat → Nat) (i : Nat) : btN F x i < 2 := Nat.mod_lt _ (by decide)
theorem w_lt (F : Nat) (x : Nat → Nat) (i : Nat) : ∀ n, wN F x i n < 2 ^ n
  | 0 => by simp [wN]
  | n + 1 => by
    have := w_lt F x i n
    have := bt_lt F x (i + n)
    rw [wN, Nat.pow_succ]
    omega
theorem w_add (F : Nat) (x : Nat → Nat) (i n : Nat) : ∀ m, wN F x i (n + m) = wN F x i n * 2 ^ m + wN F x (i + n) m
  | 0 => by simp [wN]
  | m + 1 => by
    rw [← Nat.add_assoc, wN, w_add F x i n m, wN, Nat.pow_succ, Nat.add_assoc i n m]
    generalize wN F x i n = a
    generalize 2 ^ m = b
    generalize wN F x (i + n) m = c
    rw [Nat.mul_add, ← Nat.mul_assoc a b 2]
    omega
theorem w_unit_le (F : Nat) (x : Nat → Nat) (k : Nat) (hx : x k < 2 ^ F) : ∀ n, n ≤ F → wN F x (F * k) n = x k / 2 ^ (F - n)
  | 0, _ => by rw [wN, Nat.sub_zero, Nat.div_eq_of_lt hx]
  | n + 1, h => by
    rw [wN, w_unit_le F x k hx n (by omega), btN]
    have e1 : (F * k + n) / F = k := by rw [Nat.mul_add_div (by omega), Nat.div_eq_of_lt (by omega), Nat.add_zero]
    have e2 : (F * k + n) % F = n := by rw [Nat.mul_add_mod, Nat.mod_eq_of_lt (by omega)]
    rw [e1, e2]
    have e3 : F - n = (F - 1 - n) + 1 := by omega
    have e4 : F - (n + 1) = F - 1 - n := by omega
    rw [e3, e4, Nat.pow_succ, ← Nat.div_div_eq_div_mul]
    omega
theorem w_unit (F : Nat) (x : Nat → Nat) (k : Nat) (hx : x k < 2 ^ F) : wN F x (F * k) F = x k := by
  rw [w_unit_le F x k hx F (Nat.le_refl _), Nat.sub_self, Nat.pow_zero, Nat.div_one]
/-- What stands ahead and what stands behind, out of one number. -/
theorem w_high (F : Nat) (x : Nat → Nat) (i n m : Nat) : wN F x i (n + m) / 2 ^ m = wN F x i n := by
  rw [w_add, Nat.mul_comm, Nat.mul_add_div (Nat.two_pow_pos m), Nat.div_eq_of_lt (w_lt F x _ m), Nat.add_zero]
theorem w_low (F : Nat) (x : Nat → Nat) (i n m : Nat) : wN F x i (n + m) % 2 ^ m = wN F x (i + n) m := by
  rw [w_add, Nat.mul_comm, Nat.mul_add_mod, Nat.mod_eq_of_lt (w_lt F x _ m)]
theorem w_next (F : Nat) (x : Nat → Nat) (k l i : Nat) (hx : x k < 2 ^ F) (hi : i + l = F * k) : wN F x i l * 2 ^ F + x k = wN F x i (l + F) := by
  rw [w_add, hi, w_unit F x k hx]
/-- Bits that are 0 at the end. -/
theorem w_zeros (F : Nat) (x : Nat → Nat) (i n : Nat) : ∀ m, (∀ j, j < m → btN F x (i + n + j) = 0) → wN F x i (n + m) = wN F x i n * 2 ^ m
  | 0, _ => by simp
  | m + 1, h => by
    rw [← Nat.add_assoc, wN, w_zeros F x i n m (fun j hj => h j (by omega)), ← Nat.add_assoc, h m (by omega), Nat.pow_succ]
    generalize wN F x i n = a
    generalize 2 ^ m = b
    rw [← Nat.mul_assoc a b 2]
    omega
theorem bt_zero (F : Nat) (x : Nat → Nat) (i : Nat) (h : x (i / F) = 0) : btN F x i = 0 := by
  unfold btN
  rw [h]
  simp
end Go.Proofs.Ytmkcbmlpdkaniaa
