/- The reference's Less and Compare (layer 3). -/
import Derived.Test.YtcadklhjhjbhaaaDoorUtfE
import Derived.BigQuiet
namespace Go.Proofs.YtcadklhjhjbhaaaDoor
set_option maxRecDepth 20000
set_option linter.unusedSimpArgs false
set_option linter.unusedVariables false
open Go.RowKit Go.Lib
def cmpAt (a b : List UInt8) (i : Nat) : Int := Lib.compareBytes (a.drop i) (b.drop i)
theorem cmpAt_step {a b : List UInt8} {i : Nat} (ha : i < a.length) (hb : i < b.length) : cmpAt a b i = if (a.getD i 0).toNat < (b.getD i 0).toNat then -1 else if (b.getD i 0).toNat < (a.getD i 0).toNat then 1 else cmpAt a b (i + 1) := by
  unfold cmpAt
  rw [List.drop_eq_getElem_cons ha, List.drop_eq_getElem_cons hb]
  have ea : a.getD i 0 = a[i] := by rw [List.getD_eq_getElem?_getD, List.getElem?_eq_getElem ha]; rfl
  have eb : b.getD i 0 = b[i] := by rw [List.getD_eq_getElem?_getD, List.getElem?_eq_getElem hb]; rfl
  rw [ea, eb]
  rw [Lib.compareBytes]
  rfl
theorem cmpAt_end {a b : List UInt8} {i : Nat} (h : a.length ≤ i ∨ b.length ≤ i) (ha : i ≤ a.length) (hb : i ≤ b.length) : (cmpAt a b i = -1) ↔ a.length < b.length := by
  unfold cmpAt
  rcases h with h | h
  · rw [List.drop_eq_nil_of_le h]
    cases hx : b.drop i with
    | nil =>
      have := congrArg List.length hx
      rw [List.length_drop] at this
      simp at this
      constructor
      · intro h; simp [Lib.compareBytes] at h
      · intro h; omega
    | cons x t =>
      have := congrArg List.length hx
      rw [List.length_drop] at this
      simp at this
      constructor
      · intro _; omega
      · intro _; simp [Lib.compareBytes]
  · rw [List.drop_eq_nil_of_le h]
    cases hx : a.drop i with
    | nil =>
      have := congrArg List.length hx
      rw [List.length_drop] at this
      simp at this
      constructor
      · intro h; simp [Lib.compareBytes] at h
      · intro h; omega
    | cons x t =>
      have := congrArg List.length hx
      rw [List.length_drop] at this
      simp at this
      constructor
      · intro h; simp [Lib.compareBytes] at h
      · intro _; omega
theorem below_dN {B : Nat} {a w : World} (h : Below B a w) (n : Nat) : Below B a (w.drewN n) := ⟨h.os, h.tape, h.output, h.size, h.block⟩
theorem cmp_cases : ∀ (a b : List UInt8), (Lib.compareBytes a b = -1 ∨ Lib.compareBytes a b = 0 ∨ Lib.compareBytes a b = 1) ∧ Lib.compareBytes b a = - Lib.compareBytes a b
  | [], [] => by simp [Lib.compareBytes]
  | [], _ :: _ => by simp [Lib.compareBytes]
  | _ :: _, [] => by simp [Lib.compareBytes]
  | x :: a, y :: b => by
    have h := cmp_cases a b
    rw [Lib.compareBytes, Lib.compareBytes]
    by_cases h1 : x < y
    · have h2 : ¬ y < x := fun h => absurd (UInt8.lt_trans h1 h) (UInt8.lt_irrefl x)
      rw [if_pos h1, if_neg h2, if_pos h1]
      exact ⟨.inl rfl, rfl⟩
    · rw [if_neg h1]
      by_cases h2 : y < x
      · rw [if_pos h2, if_pos h2]
        exact ⟨.inr (.inr rfl), rfl⟩
      · rw [if_neg h2, if_neg h2, if_neg h1]
        exact h
end Go.Proofs.YtcadklhjhjbhaaaDoor
