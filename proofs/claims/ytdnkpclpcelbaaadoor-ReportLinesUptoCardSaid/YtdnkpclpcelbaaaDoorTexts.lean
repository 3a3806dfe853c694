/- A slice of strings that came in: what a walk is told of it. -/
import Derived.Test.YtdnkpclpcelbaaaDoorAid
namespace Go.Proofs.YtdnkpclpcelbaaaDoor
set_option maxRecDepth 20000
set_option linter.unusedSimpArgs false
set_option linter.unusedVariables false
open Go.RowKit
/-- nil; or a row of 'cap' cells, the strings 'ss'. -/
def IsTexts (w : World) (a : Option Addr) (len cap : Nat) (ss : List ByteArray) : Prop :=
  (a = none ∧ len = 0 ∧ cap = 0 ∧ ss = []) ∨
  ∃ x, a = some x ∧ len ≤ cap ∧ cap ≤ maxLen ∧ ss.length = cap ∧ (∀ i, i < ss.length → w.cell? (x.add i) = some (.string (ss.getD i ByteArray.empty))) ∧ ∀ s ∈ ss, s.size ≤ maxLen
/-- One of its cells, the address taken apart. -/
theorem texts_at {w : World} {a : Option Addr} {len cap : Nat} {ss : List ByteArray} (h : IsTexts w a len cap ss) (h0 : 0 < len) :
    ∃ b off, a = some ⟨b, off, none⟩ ∧ b < w.heap.size ∧ (∀ i, i < len → w.cell? ⟨b, off + i, none⟩ = some (.string (ss.getD i ByteArray.empty))) ∧ ∀ i, i < len → (ss.getD i ByteArray.empty).size ≤ maxLen := by
  rcases h with ⟨_, h1, _⟩ | ⟨x, rfl, hl, hm, hz, hcell, hws⟩
  · omega
  obtain ⟨b, off, spot⟩ := x
  have hc := hcell 0 (by omega)
  have hspot : spot = none := by simpa [Addr.add] using World.cell?_spot hc
  subst hspot
  refine ⟨b, off, rfl, ?_, fun i hi => ?_, fun i hi => ?_⟩
  · apply Nat.lt_of_not_le
    intro hb
    simp [Addr.add, World.cell?, Array.getElem?_eq_none hb] at hc
  · have h1 := hcell i (by omega)
    by_cases e : i = 0
    · subst e; simpa [Addr.add] using h1
    · simpa [Addr.add, e] using h1
  · have hi' : i < ss.length := by omega
    rw [List.getD_eq_getElem?_getD, List.getElem?_eq_getElem hi', Option.getD_some]
    exact hws _ (List.getElem_mem hi')
end Go.Proofs.YtdnkpclpcelbaaaDoor
