/- Numbers of four words in blocks of memory: what is kept of them (layer 13). -/
import Derived.Test.YtlclhialkpppeaaWidN
import Derived.Test.YtlclhialkpppeaaWidLb
import Derived.Test.YtlclhialkpppeaaWidMb
import Derived.Test.YtlclhialkpppeaaWidJ
import Derived.Test.YtlclhialkpppeaaWidH
namespace Go.Proofs.Ytlclhialkpppeaa
open Go.RowKit
/-- The block b holds the number n, as an array of type t. -/
def IsA (w : World) (b n : Nat) (t : TypeId) : Prop := w.heap[b]? = some (.cells #[.int .u64 (wd n 0 : Int), .int .u64 (wd n 1 : Int), .int .u64 (wd n 2 : Int), .int .u64 (wd n 3 : Int)] t (0, 0))
theorem IsA.keep {w w' : World} {b n : Nat} {t : TypeId} (r : IsA w b n t) (hb : Below w.heap.size w w') : IsA w' b n t := Go.Proofs.Ytlclhialkpppeaa.keep r hb
theorem IsA.alloc {w : World} {b n : Nat} {t : TypeId} (r : IsA w b n t) (z : Obj) : IsA (w.alloc z) b n t := alloc_keep r z
theorem alloc_new1 (w : World) (z o : Obj) : ((w.alloc z).alloc o).heap[w.heap.size + 1]? = some o := by
  have := alloc_new (w.alloc z) o
  rw [alloc_size1] at this
  exact this
theorem mul_high (a b : Nat) (ha : a < B64 ^ 4) (hb : b < B64 ^ 4) : a * b / 65536 ^ 16 % B64 ^ 4 = a * b / B64 ^ 4 := by
  rw [show (65536 : Nat) ^ 16 = B64 ^ 4 by decide]
  apply Nat.mod_eq_of_lt
  rw [Nat.div_lt_iff_lt_mul (Nat.pow_pos B64_pos)]
  exact Nat.mul_lt_mul'' ha hb
theorem less_is (a b : Nat) : ((subK a b : Int) == 1) = decide (a < b) := by
  unfold subK
  split
  · rename_i h; rw [decide_eq_true h]; rfl
  · rename_i h; rw [decide_eq_false h]; rfl
theorem sub_fits (a b : Nat) (ha : a < B64 ^ 4) (hb : b < B64 ^ 4) : subN a b < B64 ^ 4 := by
  unfold subN
  split <;> omega
theorem sub_back (a b : Nat) (ha : a < B64 ^ 4) (hb : b < B64 ^ 4) : addN (subN a b) b = a := by
  unfold addN subN
  split
  · rw [show a + B64 ^ 4 - b + b = a + B64 ^ 4 by omega, Nat.add_mod_right, Nat.mod_eq_of_lt ha]
  · rw [show a - b + b = a by omega, Nat.mod_eq_of_lt ha]
theorem top_limb (a b : Nat) (ha : a < B64 ^ 4) (hb : b < B64 ^ 4) : dg (a + b) 16 = addK a b := by
  unfold dg addK
  rw [show (65536 : Nat) ^ 16 = B64 ^ 4 by decide]
  have : (a + b) / B64 ^ 4 < 2 := by rw [Nat.div_lt_iff_lt_mul (Nat.pow_pos B64_pos)]; omega
  exact Nat.mod_eq_of_lt (by omega)
end Go.Proofs.Ytlclhialkpppeaa
