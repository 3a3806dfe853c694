/- prime.rest (layer 19): its contract. -/
import Derived.Test.YthdbadomppohbaaPriC
namespace Go.Proofs.Ythdbadomppohbaa
set_option maxRecDepth 20000
set_option linter.unusedSimpArgs false
set_option linter.unusedVariables false
open Go.RowKit
theorem B4_two : B64 ^ 4 = 2 * PN + 38 := by decide +kernel
theorem B4_is : B64 ^ 4 = 115792089237316195423570985008687907853269984665640564039457584007913129639936 := by decide +kernel
theorem fold_mod (k n : Nat) : (k * B64 ^ 4 + n) % PN = (38 * k + n) % PN := by
  rw [B4_two, show k * (2 * PN + 38) + n = 38 * k + n + PN * (2 * k) by rw [Nat.mul_add, Nat.mul_comm k 38, ← Nat.mul_assoc, Nat.mul_comm (k * 2), Nat.mul_comm k 2]; omega, Nat.add_mul_mod_self_left]
theorem wd_small (a : Nat) (h : a < 18446744073709551616) : wd a 0 = a := by
  unfold wd
  rw [Nat.pow_zero, Nat.div_one]
  exact Nat.mod_eq_of_lt h
theorem rise_lt (h : Nat) (hh : h < B64 ^ 4) : h * 38 / B64 ^ 4 < 38 := by
  rw [Nat.div_lt_iff_lt_mul (by decide)]
  rw [Nat.mul_comm]
  exact Nat.mul_lt_mul_of_pos_left hh (by decide)
theorem over_le (a b : Nat) (ha : a < B64 ^ 4) (hb : b < B64 ^ 4) : addK a b ≤ 1 := by
  unfold addK
  have : (a + b) / B64 ^ 4 < 2 := by rw [Nat.div_lt_iff_lt_mul (by decide)]; omega
  omega
theorem rest_start (lo hi : Nat) : (((hi * 38 / B64 ^ 4 + addK lo (hi * 38 % B64 ^ 4)) * B64 ^ 4) + addN lo (hi * 38 % B64 ^ 4)) % PN = (hi * B64 ^ 4 + lo) % PN := by
  have e : ((hi * 38 / B64 ^ 4 + addK lo (hi * 38 % B64 ^ 4)) * B64 ^ 4) + addN lo (hi * 38 % B64 ^ 4) = 38 * hi + lo := by
    unfold addK addN
    have h1 := Nat.div_add_mod (hi * 38) (B64 ^ 4)
    have h2 := Nat.div_add_mod (lo + hi * 38 % B64 ^ 4) (B64 ^ 4)
    rw [Nat.add_mul, Nat.mul_comm (hi * 38 / B64 ^ 4), Nat.mul_comm ((lo + hi * 38 % B64 ^ 4) / B64 ^ 4)]
    omega
  rw [e, fold_mod]
theorem rest_round (n k : Nat) : (addK n (38 * k) * B64 ^ 4 + addN n (38 * k)) = n + 38 * k := by
  unfold addK addN
  rw [Nat.mul_comm, Nat.div_add_mod]
/-- Four cells of a block, as they are read. -/
abbrev C4 (w : World) (b n : Nat) : Prop := w.cell? ⟨b, 0, none⟩ = some (.int .u64 (wd n 0 : Int)) ∧ w.cell? ⟨b, 1, none⟩ = some (.int .u64 (wd n 1 : Int)) ∧ w.cell? ⟨b, 2, none⟩ = some (.int .u64 (wd n 2 : Int)) ∧ w.cell? ⟨b, 3, none⟩ = some (.int .u64 (wd n 3 : Int))
theorem C4.map {w w' : World} {b n : Nat} (h : C4 w b n) (f : ∀ {j : Nat} {v : Value}, w.cell? ⟨b, j, none⟩ = some v → w'.cell? ⟨b, j, none⟩ = some v) : C4 w' b n := ⟨f h.1, f h.2.1, f h.2.2.1, f h.2.2.2⟩
theorem cell_in {w : World} {b j : Nat} {v : Value} (h : w.cell? ⟨b, j, none⟩ = some v) : b < w.heap.size := by
  rcases Nat.lt_or_ge b w.heap.size with hl | hl
  · exact hl
  · rw [World.cell?, Array.getElem?_eq_none hl] at h
    cases h
theorem C4.call {w w' : World} {b n : Nat} (h : C4 w b n) (hb : Below w.heap.size w w') : C4 w' b n := h.map fun h => (hb.cell (cell_in h)).trans h
theorem C4.calls {w w' : World} {b n N : Nat} (hb : Below N w w') (h : C4 w b n) (hN : w.heap.size ≤ N) : C4 w' b n := h.map fun h => (hb.cell (Nat.lt_of_lt_of_le (cell_in h) hN)).trans h
theorem C4.drew {w : World} {b n : Nat} (h : C4 w b n) : C4 w.drew b n := h
theorem C4.alloc {w : World} {b n : Nat} (h : C4 w b n) (o : Obj) : C4 (w.alloc o) b n := h.call ((Below.refl w.heap.size w).alloc (Nat.le_refl _) o)
theorem C4.far {w : World} {b c n : Nat} {v0 v1 v2 v3 : Value} (h : C4 w b n) (hne : b ≠ c) : C4 ((((w.setCell ⟨c, 0, none⟩ v0).setCell ⟨c, 1, none⟩ v1).setCell ⟨c, 2, none⟩ v2).setCell ⟨c, 3, none⟩ v3) b n := h.map fun h => by
  rw [← h]
  simp only [World.cell?, set4_far hne]
theorem drew_keep {w : World} {b : Nat} {o : Obj} (h : w.heap[b]? = some o) : w.drew.heap[b]? = some o := h
theorem b_call {w W W' : World} (h : Below w.heap.size w W) (hb : Below W.heap.size W W') : Below w.heap.size w W' := h.trans (hb.mono h.size)
theorem b_set4 {w W : World} {b : Nat} {v0 v1 v2 v3 : Value} (h : Below w.heap.size w W) (hb : w.heap.size ≤ b) : Below w.heap.size w ((((W.setCell ⟨b, 0, none⟩ v0).setCell ⟨b, 1, none⟩ v1).setCell ⟨b, 2, none⟩ v2).setCell ⟨b, 3, none⟩ v3) := set4_below h hb
theorem isA_calls {w w' : World} {b n N : Nat} {t : TypeId} (hb : Below N w w') (h : IsA w b n t) (hN : w.heap.size ≤ N) : IsA w' b n t := (hb.block b (Nat.lt_of_lt_of_le (lt_blk h) hN)).trans h
theorem isA_new (w : World) (n : Nat) (t : TypeId) : IsA (w.alloc (.cells #[.int .u64 (wd n 0 : Int), .int .u64 (wd n 1 : Int), .int .u64 (wd n 2 : Int), .int .u64 (wd n 3 : Int)] t)) w.heap.size n t := alloc_new w _
theorem far_keep {w : World} {b c : Nat} {o : Obj} {v0 v1 v2 v3 : Value} (h : w.heap[c]? = some o) (hne : c ≠ b) : ((((w.setCell ⟨b, 0, none⟩ v0).setCell ⟨b, 1, none⟩ v1).setCell ⟨b, 2, none⟩ v2).setCell ⟨b, 3, none⟩ v3).heap[c]? = some o := (set4_far hne).trans h
theorem b_calls {w W W' : World} {N : Nat} (hb : Below N W W') (h : Below w.heap.size w W) (hN : w.heap.size ≤ N) : Below w.heap.size w W' := h.trans (hb.mono hN)
theorem b_alloc {w W : World} (h : Below w.heap.size w W) (o : Obj) : Below w.heap.size w (W.alloc o) := gr_alloc h o
theorem b_drew {w W : World} (h : Below w.heap.size w W) : Below w.heap.size w W.drew := h.drew
end Go.Proofs.Ythdbadomppohbaa
