/- host (layer 27): the parts of a text between a byte. -/
import Derived.Test.YtdnkpclpcelbaaaDoorHosE
namespace Go.Proofs.YtdnkpclpcelbaaaDoor
set_option maxRecDepth 20000
set_option linter.unusedSimpArgs false
set_option linter.unusedVariables false
open Go.RowKit Go.Lib Go.Shelf
/-- The parts of `s` between bytes `c`, from place `k` on, the first of them begun at `f`. -/
def parts (s : ByteArray) (c f k : Nat) : List ByteArray :=
  if k < s.size then (if gb s k = c then s.extract f k :: parts s c (k + 1) (k + 1) else parts s c f (k + 1)) else [s.extract f s.size]
termination_by s.size - k
theorem parts_at {s : ByteArray} {c f k : Nat} (h : k < s.size) (hc : gb s k = c) : parts s c f k = s.extract f k :: parts s c (k + 1) (k + 1) := by
  rw [parts, if_pos h, if_pos hc]
theorem parts_no {s : ByteArray} {c f k : Nat} (h : k < s.size) (hc : gb s k ≠ c) : parts s c f k = parts s c f (k + 1) := by
  rw [parts, if_pos h, if_neg hc]
theorem parts_end {s : ByteArray} {c f k : Nat} (h : s.size ≤ k) : parts s c f k = [s.extract f s.size] := by
  rw [parts, if_neg (by omega)]
theorem parts_len (s : ByteArray) (c : Nat) : ∀ (m f k : Nat), s.size - k = m → (parts s c f k).length ≤ m + 1
  | 0, f, k, h => by rw [parts_end (by omega)]; simp
  | m + 1, f, k, h => by
    by_cases hc : gb s k = c
    · rw [parts_at (by omega) hc, List.length_cons]
      have := parts_len s c m (k + 1) (k + 1) (by omega)
      omega
    · rw [parts_no (by omega) hc]
      have := parts_len s c m f (k + 1) (by omega)
      omega
theorem parts_pos (s : ByteArray) (c f k : Nat) : 0 < (parts s c f k).length := by
  rw [parts]
  split
  · split
    · simp
    · exact parts_pos s c f (k + 1)
  · simp
termination_by s.size - k
/-- What `strings.Cut` would do: up to the first such byte. -/
theorem parts_first {s : ByteArray} {c : Nat} : ∀ (m f k j : Nat), j - k = m → k ≤ j → j < s.size → gb s j = c → (∀ i, k ≤ i → i < j → gb s i ≠ c) → parts s c f k = s.extract f j :: parts s c (j + 1) (j + 1)
  | 0, f, k, j, h, hk, hj, hc, hn => by
    have e : k = j := by omega
    subst e
    exact parts_at hj hc
  | m + 1, f, k, j, h, hk, hj, hc, hn => by
    rw [parts_no (by omega) (hn k (Nat.le_refl _) (by omega))]
    exact parts_first m f (k + 1) j (by omega) (by omega) hj hc fun i h1 h2 => hn i (by omega) h2
theorem parts_none {s : ByteArray} {c : Nat} : ∀ (m f k : Nat), s.size - k = m → (∀ i, k ≤ i → i < s.size → gb s i ≠ c) → parts s c f k = [s.extract f s.size]
  | 0, f, k, h, hn => parts_end (by omega)
  | m + 1, f, k, h, hn => by
    rw [parts_no (by omega) (hn k (Nat.le_refl _) (by omega))]
    exact parts_none m f (k + 1) (by omega) fun i h1 h2 => hn i (by omega) h2
end Go.Proofs.YtdnkpclpcelbaaaDoor
