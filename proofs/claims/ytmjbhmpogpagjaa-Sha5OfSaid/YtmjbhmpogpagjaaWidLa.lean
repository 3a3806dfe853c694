/- The reference's Of: what it answers. -/
import Derived.Test.YtmjbhmpogpagjaaWidL
import Derived.Test.YtmjbhmpogpagjaaWidC
import Derived.Deep.OwnRows
namespace Go.Proofs.Ytmjbhmpogpagjaa
set_option maxRecDepth 20000
set_option linter.unusedSimpArgs false
set_option linter.unusedVariables false
open Go.RowKit
theorem lt_blk {w : World} {k : Nat} {o : Obj} (h : w.heap[k]? = some o) : k < w.heap.size := by
  apply Nat.lt_of_not_le
  intro hle
  rw [Array.getElem?_eq_none hle] at h
  simp at h
theorem Try.info_u64 : (Try.prog.info? 36).map (fun i => (i.zero, i.size, i.bytes)) = some (some (.int .u64 0), 1, 8) := by kernel_rfl
/-- A slice of the call's own: the limbs of a number, in a block that was laid for them. -/
def OwnN (w : World) (b len n : Nat) : Prop := w.heap[b]? = some (.cells (rowH (dg n) len).toArray 36 (0, 0)) ∧ n < 65536 ^ len ∧ len ≤ 200
theorem OwnN.is {w : World} {b len n : Nat} (h : OwnN w b len n) (cap : Nat) (hc : len ≤ cap) : IsN w (some ⟨b, 0, none⟩) len cap n := IsN_row h.1 (lt_blk h.1) h.2.1 h.2.2 hc (fun _ _ => rfl)
theorem OwnN.below {w w' : World} {b len n : Nat} (h : OwnN w b len n) (hb : Below w.heap.size w w') : OwnN w' b len n := ⟨(hb.block b (lt_blk h.1)).trans h.1, h.2⟩
theorem rowH_same {p q : Nat → Nat} {N : Nat} (h : ∀ k, k < N → p k = q k) : rowH p N = rowH q N := by
  unfold rowH
  refine List.map_congr_left fun k hk => ?_
  rw [h k (List.mem_range.1 hk)]
theorem wd_dg (n i : Nat) : wd n (i / 4) / 2 ^ (16 * (i % 4)) % 65536 = dg n i := by
  unfold wd dg
  have hp := pow_parts 16 4 i rfl
  rw [show (65536 : Nat) ^ i = (2 ^ 16) ^ i from rfl, hp, ← Nat.div_div_eq_div_mul]
  generalize n / B64 ^ (i / 4) = m
  have hr : i % 4 < 4 := Nat.mod_lt _ (by decide)
  generalize i % 4 = r at *
  unfold B64
  have : r = 0 ∨ r = 1 ∨ r = 2 ∨ r = 3 := by omega
  rcases this with rfl | rfl | rfl | rfl
  · simp
  · rw [show 2 ^ (16 * 1) = 65536 from rfl]; omega
  · rw [show 2 ^ (16 * 2) = 4294967296 from rfl]; omega
  · rw [show 2 ^ (16 * 3) = 281474976710656 from rfl]; omega
end Go.Proofs.Ytmjbhmpogpagjaa
