/- What was put is read as it was (layer 3). No program in it. -/
import Derived.Test.YtcadklhjhjbhaaaDoorUtfK
namespace Go.Proofs.YtcadklhjhjbhaaaDoor
set_option maxRecDepth 20000
set_option linter.unusedSimpArgs false
set_option linter.unusedVariables false
open Go.RowKit Go.Lib
theorem forms_pre (zs : List Int) (k : Nat) : ∀ d, formsB zs k <+: formsB zs (k + d)
  | 0 => List.prefix_refl _
  | d + 1 => (forms_pre zs k d).trans (List.prefix_append _ _)
theorem cp_of_valid {z : Int} (h : Lib.validRune z = true) : ∃ n : Nat, z = (n : Int) ∧ isCp n := by
  unfold Lib.validRune at h
  rw [decide_eq_true_eq] at h
  obtain ⟨n, rfl⟩ := Int.eq_ofNat_of_zero_le (show 0 ≤ z by omega)
  exact ⟨n, rfl, by unfold isCp; omega⟩
theorem valid_of_cp {n : Nat} (h : isCp n) : Lib.validRune (n : Int) = true := by
  unfold isCp at h
  unfold Lib.validRune
  rw [decide_eq_true_eq]
  omega
/-- The places and the numbers of the first k. -/
def prePts (zs : List Int) : Nat → List (Nat × Nat)
  | 0 => []
  | k + 1 => prePts zs k ++ [((formsB zs k).length, (zs.getD k 0).toNat)]
theorem prePts_len (zs : List Int) : ∀ k, (prePts zs k).length = k
  | 0 => rfl
  | k + 1 => by unfold prePts; rw [List.length_append, prePts_len zs k]; rfl
theorem read_forms (zs : List Int) (len : Nat) (hlen : len ≤ 100) (h : okP zs len) : ∀ k, k ≤ len → Read (formsB zs len) (prePts zs k) (formsB zs k).length
  | 0, _ => Read.zero _
  | k + 1, hk => by
    have ih := read_forms zs len hlen h k (by omega)
    obtain ⟨n, hz, hn⟩ := cp_of_valid (h k (by omega))
    have hL := formsB_few zs len
    obtain ⟨d, rfl⟩ : ∃ d, len = (k + 1) + d := ⟨len - (k + 1), by omega⟩
    obtain ⟨r, hr⟩ := forms_pre zs (k + 1) d
    have e1 : formsB zs (k + 1) = formsB zs k ++ form n := by
      show formsB zs k ++ encodeRune (zs.getD k 0) = _
      rw [hz]; rfl
    have hx : nx ((formsB zs (k + 1 + d)).drop (formsB zs k).length) = some (n, (form n).length) := by
      refine nx_iff.2 ⟨hn, ?_, rfl⟩
      rw [← hr, e1, List.append_assoc, List.drop_left]
      exact List.prefix_append _ _
    have := ih.step (by omega) hx
    have e2 : prePts zs (k + 1) = prePts zs k ++ [((formsB zs k).length, n)] := by
      show prePts zs k ++ [((formsB zs k).length, (zs.getD k 0).toNat)] = _
      rw [hz]; rfl
    rw [e2, e1, List.length_append]
    exact this
/-- Of what was put, these are the code points and their places; and it is valid. -/
theorem cps_forms (zs : List Int) (len : Nat) (hlen : len ≤ 100) (h : okP zs len) : cpsAt (formsB zs len) 0 = prePts zs len ∧ validB (formsB zs len) = true := by
  have hr := read_forms zs len hlen h len (Nat.le_refl _)
  obtain ⟨h1, h2⟩ := hr.last (by rw [List.drop_length]; rfl)
  refine ⟨h1, ?_⟩
  unfold validB
  rw [h2]
  simp
theorem prePts_get (zs : List Int) {i : Nat} : ∀ {k : Nat}, i < k → (prePts zs k)[i]? = some ((formsB zs i).length, (zs.getD i 0).toNat)
  | 0, h => by omega
  | k + 1, h => by
    unfold prePts
    by_cases e : i = k
    · subst e
      rw [List.getElem?_append_right (by rw [prePts_len]; exact Nat.le_refl _), prePts_len, Nat.sub_self]
      rfl
    · rw [List.getElem?_append_left (by rw [prePts_len]; omega)]
      exact prePts_get zs (by omega)
end Go.Proofs.YtcadklhjhjbhaaaDoor
