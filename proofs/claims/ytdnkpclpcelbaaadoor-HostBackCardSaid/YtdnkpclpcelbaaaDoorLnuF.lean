/- What the reference's Scan answers; the law NumScans: it returns true. Written by gen_numf.py. -/
import Derived.Test.YtdnkpclpcelbaaaDoorLnuC
import Derived.Test.YtdnkpclpcelbaaaDoorLnuD
import Derived.Test.YtdnkpclpcelbaaaDoorLnuE
namespace Go.Proofs.YtdnkpclpcelbaaaDoor
set_option maxRecDepth 20000
set_option linter.unusedSimpArgs false
set_option linter.unusedVariables false
open Go.RowKit
theorem ex_size (s : ByteArray) (f m : Nat) (h : f + m ≤ s.size) : (s.extract f (f + m)).size = m := by
  rw [ByteArray.size_extract]; omega
theorem ex_gb (s : ByteArray) (f m j : Nat) (h : f + m ≤ s.size) (hj : j < m) : gb (s.extract f (f + m)) j = gb s (f + j) := by
  rw [← gb_at s (f + j) (by omega), ← gb_at (s.extract f (f + m)) j (by rw [ex_size s f m h]; exact hj)]
  rw [ByteArray.getElem_extract]
theorem ex_val (s : ByteArray) (f m : Nat) (h : f + m ≤ s.size) : ∀ k, k ≤ m → valN (s.extract f (f + m)) 0 k = valN s f k
  | 0, _ => rfl
  | k + 1, hk => by rw [valN, valN, ex_val s f m h k (by omega), Nat.zero_add, ex_gb s f m k h (by omega)]
theorem notE {x : Nat} (h : isE x = false) : ¬ (x : Int) = 46 ∧ ¬ (x : Int) = 101 ∧ ¬ (x : Int) = 69 ∧ ((x : Int) == 46) = false ∧ ((x : Int) == 101) = false ∧ ((x : Int) == 69) = false := by
  simp [isE] at h
  have h1 : ¬ (x : Int) = 46 := by omega
  have h2 : ¬ (x : Int) = 101 := by omega
  have h3 : ¬ (x : Int) = 69 := by omega
  exact ⟨h1, h2, h3, by simpa using h1, by simpa using h2, by simpa using h3⟩
end Go.Proofs.YtdnkpclpcelbaaaDoor
