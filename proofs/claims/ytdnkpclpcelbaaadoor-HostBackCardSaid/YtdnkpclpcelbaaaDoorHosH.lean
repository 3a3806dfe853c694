/- host (layer 27): lists of bytes cut at a separator (no walk in it). -/
import Derived.Test.YtdnkpclpcelbaaaDoorHosG
import Derived.Lib.SplitLaws
import Derived.Lib.CountLaws
namespace Go.Proofs.YtdnkpclpcelbaaaDoor
set_option maxRecDepth 20000
set_option linter.unusedSimpArgs false
set_option linter.unusedVariables false
open Go.RowKit Go.Lib
theorem split_miss {l sep : List UInt8} (h : Lib.index l sep = -1) : Lib.split l sep = [l] := by
  unfold Lib.split
  rw [Lib.count_miss h]
  rfl
theorem split_hit {l sep : List UInt8} {i : Nat} (hn : sep ≠ []) (h : Lib.index l sep = i) : Lib.split l sep = l.take i :: Lib.split (l.drop (i + sep.length)) sep := by
  unfold Lib.split
  rw [Lib.count_hit hn h, Nat.add_comm, Lib.splitK, if_neg (by rw [h]; simp), h]
  simp
/-- The parts of a list between a byte, the first of them begun with `acc`. -/
def prt (c : UInt8) : List UInt8 → List UInt8 → List (List UInt8)
  | acc, [] => [acc]
  | acc, x :: r => if x = c then acc :: prt c [] r else prt c (acc ++ [x]) r
theorem prt_nil (c : UInt8) (acc : List UInt8) : prt c acc [] = [acc] := by rw [prt]
theorem prt_cons (c : UInt8) (acc : List UInt8) (x : UInt8) (r : List UInt8) : prt c acc (x :: r) = if x = c then acc :: prt c [] r else prt c (acc ++ [x]) r := by rw [prt]
theorem prt_none {c : UInt8} : ∀ (l acc : List UInt8), (∀ x ∈ l, x ≠ c) → prt c acc l = [acc ++ l]
  | [], acc, _ => by rw [prt_nil]; simp
  | x :: r, acc, h => by
    rw [prt_cons, if_neg (h x (by simp)), prt_none r _ fun y hy => h y (by simp [hy])]
    simp
theorem prt_hit {c : UInt8} : ∀ (a acc r : List UInt8), (∀ x ∈ a, x ≠ c) → prt c acc (a ++ c :: r) = (acc ++ a) :: prt c [] r
  | [], acc, r, _ => by
    show prt c acc (c :: r) = _
    rw [prt_cons, if_pos rfl]
    simp
  | x :: a, acc, r, h => by
    show prt c acc (x :: (a ++ c :: r)) = _
    rw [prt_cons, if_neg (h x (by simp)), prt_hit a _ r fun y hy => h y (by simp [hy])]
    simp
theorem prt_len (c : UInt8) : ∀ (l acc : List UInt8), (prt c acc l).length ≤ l.length + 1
  | [], acc => by rw [prt_nil]; simp
  | x :: r, acc => by
    rw [prt_cons]
    split
    · have := prt_len c r []; simp; omega
    · have := prt_len c r (acc ++ [x]); simp; omega
theorem prt_app {c : UInt8} : ∀ (a acc b : List UInt8), prt c acc (a ++ c :: b) = prt c acc a ++ prt c [] b
  | [], acc, b => by
    show prt c acc (c :: b) = _
    rw [prt_cons, if_pos rfl, prt_nil]
    rfl
  | x :: a, acc, b => by
    show prt c acc (x :: (a ++ c :: b)) = _
    rw [prt_cons, prt_cons]
    split
    · rw [prt_app a [] b]
      rfl
    · exact prt_app a _ b
/-- Where the first such byte stands. -/
theorem idx_one (l : List UInt8) (c : UInt8) : (Lib.index l [c] = -1 ∧ ∀ x ∈ l, x ≠ c) ∨ ∃ i : Nat, Lib.index l [c] = i ∧ i < l.length ∧ l = l.take i ++ c :: l.drop (i + 1) ∧ ∀ x ∈ l.take i, x ≠ c := by
  have h1 := Lib.index_one l c
  have h2 := Lib.indexByte_ge l c
  by_cases h3 : Lib.indexByte l c = -1
  · refine .inl ⟨h1.trans h3, fun x hx e => ?_⟩
    subst e
    obtain ⟨k, hk⟩ := List.getElem?_of_mem hx
    exact Lib.indexByte_none h3 k hk
  · obtain ⟨i, hi⟩ : ∃ i : Nat, Lib.indexByte l c = i := ⟨(Lib.indexByte l c).toNat, by omega⟩
    obtain ⟨h5, h6⟩ := Lib.indexByte_some hi
    have hl : i < l.length := (List.getElem?_eq_some_iff.1 h5).1
    have e10 : l[i] = c := by rw [List.getElem?_eq_getElem hl] at h5; exact Option.some.inj h5
    refine .inr ⟨i, h1.trans hi, hl, ?_, fun x hx e => ?_⟩
    · rw [← e10, ← List.drop_eq_getElem_cons hl, List.take_append_drop]
    · subst e
      obtain ⟨k, hk⟩ := List.getElem?_of_mem hx
      rw [List.getElem?_take] at hk
      split at hk
      · exact h6 k (by assumption) hk
      · cases hk
theorem split_prt (c : UInt8) : ∀ (m : Nat) (l : List UInt8), l.length ≤ m → Lib.split l [c] = prt c [] l
  | 0, l, h => by
    have : l = [] := List.length_eq_zero_iff.1 (by omega)
    subst this
    rw [split_miss (by rfl), prt_nil]
  | m + 1, l, h => by
    rcases idx_one l c with ⟨h1, h2⟩ | ⟨i, h1, h2, h3, h4⟩
    · rw [split_miss h1, prt_none l [] h2]
      rfl
    · have hp := prt_hit (l.take i) [] (l.drop (i + 1)) h4
      rw [← h3] at hp
      rw [split_hit (by simp) h1, hp, show i + [c].length = i + 1 from rfl, split_prt c m _ (by rw [List.length_drop]; omega)]
      rfl
/-- The reference's cut, in lists. -/
theorem parts_prt (s : ByteArray) (c : UInt8) : ∀ (m f k : Nat), s.size - k = m → f ≤ k → k ≤ s.size → (parts s c.toNat f k).map (fun x => x.data.toList) = prt c ((s.data.toList.drop f).take (k - f)) (s.data.toList.drop k)
  | 0, f, k, h, hf, hk => by
    have hz := Lib.size_eq s
    rw [parts_end (by omega), List.drop_eq_nil_of_le (i := k) (by omega), prt_nil, List.map_cons, List.map_nil, Lib.extract_eq]
    rw [show k = s.size by omega]
  | m + 1, f, k, h, hf, hk => by
    have hz := Lib.size_eq s
    have hl : k < s.data.toList.length := by omega
    have hg : gb s k = (s.data.toList[k]).toNat := by
      unfold gb
      rw [List.getD_eq_getElem?_getD, List.getElem?_eq_getElem hl]
      rfl
    by_cases hc : gb s k = c.toNat
    · have e : s.data.toList[k] = c := UInt8.toNat_inj.1 (hg.symm.trans hc)
      rw [parts_at (by omega) hc, List.map_cons, parts_prt s c m (k + 1) (k + 1) (by omega) (Nat.le_refl _) (by omega), List.drop_eq_getElem_cons hl, prt_cons, if_pos e, Lib.extract_eq]
      simp
    · have e : s.data.toList[k] ≠ c := fun e => hc (by rw [hg, e])
      rw [parts_no (by omega) hc, parts_prt s c m f (k + 1) (by omega) (by omega) (by omega), List.drop_eq_getElem_cons (i := k) hl, prt_cons, if_neg e]
      congr 1
      rw [show k + 1 - f = (k - f) + 1 by omega, List.take_add_one, List.getElem?_drop, show f + (k - f) = k by omega, List.getElem?_eq_getElem hl]
      rfl
theorem parts_list (s : ByteArray) (c : UInt8) : parts s c.toNat 0 0 = (prt c [] s.data.toList).map fun P => ⟨P.toArray⟩ := by
  have h := parts_prt s c _ 0 0 rfl (Nat.le_refl _) (Nat.zero_le _)
  rw [List.drop_zero, Nat.sub_self, List.take_zero] at h
  rw [← h, List.map_map]
  symm
  rw [List.map_id'' (f := ((fun P : List UInt8 => (⟨P.toArray⟩ : ByteArray)) ∘ fun x => x.data.toList)) (fun x => by simp)]
theorem splitB_list (s sep : ByteArray) : Lib.splitB sep 0 (Lib.countB s sep) s = (Lib.split s.data.toList sep.data.toList).map fun P => ⟨P.toArray⟩ := by
  have h := Lib.splitB_data sep 0 (Lib.countB s sep) s
  rw [show Lib.split s.data.toList sep.data.toList = Lib.splitK sep.data.toList 0 (Lib.countB s sep) s.data.toList from rfl, ← h, List.map_map]
  symm
  rw [List.map_id'' (f := ((fun P : List UInt8 => (⟨P.toArray⟩ : ByteArray)) ∘ fun x => x.data.toList)) (fun x => by simp)]
end Go.Proofs.YtdnkpclpcelbaaaDoor
