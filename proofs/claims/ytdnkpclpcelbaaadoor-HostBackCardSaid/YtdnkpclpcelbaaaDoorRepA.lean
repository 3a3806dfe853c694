/- report (layer 49): the line of words; slices of texts (no walk in it). -/
import Derived.Test.YtdnkpclpcelbaaaDoorStr
import Derived.Test.YtdnkpclpcelbaaaDoorRoc
import Derived.Lib.Strings
import Derived.Test.YtdnkpclpcelbaaaDoorAid
import Derived.Lib.Builder
namespace Go.Proofs.YtdnkpclpcelbaaaDoor
set_option maxRecDepth 20000
set_option linter.unusedSimpArgs false
set_option linter.unusedVariables false
open Go.RowKit Go.Lib
attribute [local go_sem] Oper.semAt_some
/-- A word, as it stands in a line. -/
def wdL (P : List UInt8) : List UInt8 := if P = [] then [45] else P
/-- The first words of a line. -/
def accL (L : List (List UInt8)) : Nat → List UInt8
  | 0 => []
  | k + 1 => (if k = 0 then accL L k else accL L k ++ [32]) ++ wdL (L.getD k [])
def lineL (L : List (List UInt8)) : List UInt8 := accL L L.length ++ [10]
theorem wdL_len (P : List UInt8) (m : Nat) (h : P.length ≤ m) (h1 : 1 ≤ m) : (wdL P).length ≤ m := by
  unfold wdL
  split
  · simpa using h1
  · exact h
theorem accL_len (L : List (List UInt8)) (m : Nat) (h1 : 1 ≤ m) (h : ∀ i, (L.getD i []).length ≤ m) : ∀ k, (accL L k).length ≤ k * (m + 1)
  | 0 => by simp [accL]
  | k + 1 => by
    have h2 := accL_len L m h1 h k
    have h3 := wdL_len _ m (h k) h1
    have h4 : (k + 1) * (m + 1) = k * (m + 1) + (m + 1) := Nat.succ_mul k (m + 1)
    unfold accL
    split <;> simp only [List.length_append, List.length_cons, List.length_nil] <;> omega
/-- A slice that holds these texts. -/
def TxS (w : World) (v : Value) (L : List (List UInt8)) : Prop :=
  ∃ a cap, v = .slice a L.length cap ∧ (L ≠ [] → ∃ b off, a = some ⟨b, off, none⟩ ∧ b < w.heap.size ∧ ∀ i, i < L.length → w.cell? ⟨b, off + i, none⟩ = some (.string ⟨(L.getD i []).toArray⟩))
theorem TxS.keep {w w' : World} {v : Value} {L : List (List UInt8)} (h : TxS w v L) (hb : Below w.heap.size w w') : TxS w' v L := by
  obtain ⟨a, cap, rfl, h1⟩ := h
  refine ⟨a, cap, rfl, fun hn => ?_⟩
  obtain ⟨b, off, rfl, h2, h3⟩ := h1 hn
  have h4 := bcell hb
  exact ⟨b, off, rfl, Nat.lt_of_lt_of_le h2 h4.2.2, fun i hi => (h4.1 b _ h2).trans (h3 i hi)⟩
/-- One made by a literal. -/
theorem TxS.row {w : World} {b : Nat} {T : TypeId} {L : List (List UInt8)} {fr : Nat × Nat} (h : w.heap[b]? = some (.cells (L.map fun P => Value.string ⟨P.toArray⟩).toArray T fr)) : TxS w (.slice (some ⟨b, 0, none⟩) L.length L.length) L := by
  refine ⟨_, _, rfl, fun _ => ⟨b, 0, rfl, (Array.getElem?_eq_some_iff.1 h).1, fun i hi => ?_⟩⟩
  rw [Lib.cell_of_heap h]
  simp [hi]
end Go.Proofs.YtdnkpclpcelbaaaDoor
