/- wide.Of and (wide.Num).Bytes: what they answer. -/
import Derived.Test.YthdbadomppohbaaWidF
import Derived.Test.YthdbadomppohbaaWidMb
namespace Go.Proofs.Ythdbadomppohbaa
set_option maxRecDepth 20000
set_option linter.unusedSimpArgs false
set_option linter.unusedVariables false
open Go.RowKit
/-- The number of bytes, the lowest one first. -/
def leN : List UInt8 → Nat
  | [] => 0
  | b :: t => b.toNat + 256 * leN t
theorem leN_lt : ∀ l : List UInt8, leN l < 256 ^ l.length
  | [] => by decide
  | b :: t => by
    have h1 := leN_lt t
    have h2 := b.toNat_lt
    rw [leN, List.length_cons, Nat.pow_succ]
    omega
theorem leN_at : ∀ (l : List UInt8) (k : Nat), leN l / 256 ^ k % 256 = (l.getD k 0).toNat
  | [], k => by simp [leN]
  | b :: t, 0 => by
    have h2 := b.toNat_lt
    simp only [leN, Nat.pow_zero, Nat.div_one, List.getD_cons_zero]
    omega
  | b :: t, k + 1 => by
    have h1 := leN_at t k
    have h2 := b.toNat_lt
    rw [leN, Nat.pow_succ, Nat.mul_comm (256 ^ k), ← Nat.div_div_eq_div_mul, List.getD_cons_succ, ← h1]
    congr 2
    omega
theorem wd_byte (n i : Nat) : wd n (i / 8) / 2 ^ (8 * (i % 8)) % 256 = n / 256 ^ i % 256 := by
  unfold wd
  have hp := pow_parts 8 8 i rfl
  rw [show (256 : Nat) ^ i = (2 ^ 8) ^ i from rfl, hp, ← Nat.div_div_eq_div_mul]
  generalize n / B64 ^ (i / 8) = m
  have hr : i % 8 < 8 := Nat.mod_lt _ (by decide)
  generalize i % 8 = r at *
  unfold B64
  have : r = 0 ∨ r = 1 ∨ r = 2 ∨ r = 3 ∨ r = 4 ∨ r = 5 ∨ r = 6 ∨ r = 7 := by omega
  rcases this with rfl | rfl | rfl | rfl | rfl | rfl | rfl | rfl
  · simp
  · rw [show 2 ^ (8 * 1) = 256 from rfl]; omega
  · rw [show 2 ^ (8 * 2) = 65536 from rfl]; omega
  · rw [show 2 ^ (8 * 3) = 16777216 from rfl]; omega
  · rw [show 2 ^ (8 * 4) = 4294967296 from rfl]; omega
  · rw [show 2 ^ (8 * 5) = 1099511627776 from rfl]; omega
  · rw [show 2 ^ (8 * 6) = 281474976710656 from rfl]; omega
  · rw [show 2 ^ (8 * 7) = 72057594037927936 from rfl]; omega
def rowB (p : Nat → Nat) (N : Nat) : List Value := (List.range N).map fun k => .int .u8 (p k : Int)
theorem rowB_get (p : Nat → Nat) (N k : Nat) (h : k < N) : (rowB p N)[k]? = some (.int .u8 (p k : Int)) := by
  unfold rowB
  rw [List.getElem?_map, List.getElem?_range h]
  rfl
theorem rowB_set (p : Nat → Nat) (N i x : Nat) : (rowB p N).set i (.int .u8 (x : Int)) = rowB (upd p i x) N := by
  unfold rowB
  refine List.ext_getElem (by simp) fun j h1 h2 => ?_
  rw [List.getElem_set]
  simp only [List.getElem_map, List.getElem_range]
  unfold upd
  by_cases e : i = j
  · rw [if_pos e, if_pos e.symm]
  · rw [if_neg e, if_neg (fun h => e h.symm)]
/-- The 32 bytes of a number, the lowest one first. -/
def byL (n : Nat) : List UInt8 := (List.range 32).map fun i => UInt8.ofNat (n / 256 ^ i % 256)
end Go.Proofs.Ythdbadomppohbaa
