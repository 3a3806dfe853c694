/- Patterns with stars (layer 52): what it is to match one; by pieces between the stars; by the leftmost piece; by beginnings. No program in it. -/
import Derived.Test.YtkaigdmoccfbfaaDoorAid
import Derived.Lib.SplitLaws
namespace Go.Proofs.YtkaigdmoccfbfaaDoor
open Go.RowKit
/-- The text s matches the pattern: a star (42) stands for any bytes, each other byte for itself. -/
def Mt : List UInt8 → List UInt8 → Prop
  | [], s => s = []
  | c :: ps, s => if c = 42 then ∃ t u, s = t ++ u ∧ Mt ps u else ∃ u, s = c :: u ∧ Mt ps u
/-- The pieces between the stars. -/
def parts : List UInt8 → List (List UInt8)
  | [] => [[]]
  | c :: ps => if c = 42 then [] :: parts ps else match parts ps with | [] => [[c]] | h :: t => (c :: h) :: t
def St : List (List UInt8) → List UInt8 → Prop
  | [], s => s = []
  | [a], s => s = a
  | a :: b :: r, s => ∃ t u, s = a ++ t ++ u ∧ St (b :: r) u
def Tt : List (List UInt8) → List UInt8 → Prop
  | [], _ => True
  | m :: ms, w => ∃ x y, w = x ++ m ++ y ∧ Tt ms y
theorem parts_ne : ∀ p, ∃ h t, parts p = h :: t
  | [] => ⟨[], [], rfl⟩
  | c :: ps => by
    obtain ⟨h, t, e⟩ := parts_ne ps
    by_cases hc : c = 42
    · exact ⟨[], parts ps, by show (if c = 42 then [] :: parts ps else _) = _; rw [if_pos hc]⟩
    · exact ⟨c :: h, t, by unfold parts; rw [if_neg hc, e]⟩
theorem mt_parts : ∀ p s, Mt p s ↔ St (parts p) s
  | [], s => Iff.rfl
  | c :: ps, s => by
    obtain ⟨h, t, e⟩ := parts_ne ps
    have ih := mt_parts ps
    by_cases hc : c = 42
    · have e1 : parts (c :: ps) = [] :: h :: t := by unfold parts; rw [if_pos hc, e]
      rw [e1]
      unfold Mt
      rw [if_pos hc]
      constructor
      · rintro ⟨a, u, rfl, hu⟩
        exact ⟨a, u, rfl, by rw [← e]; exact (ih u).1 hu⟩
      · rintro ⟨a, u, rfl, hu⟩
        exact ⟨a, u, rfl, (ih u).2 (by rw [e]; exact hu)⟩
    · have e1 : parts (c :: ps) = (c :: h) :: t := by unfold parts; rw [if_neg hc, e]
      rw [e1]
      unfold Mt
      rw [if_neg hc]
      cases t with
      | nil =>
        constructor
        · rintro ⟨u, rfl, hu⟩
          have := (ih u).1 hu
          rw [e] at this
          show c :: u = c :: h
          rw [show u = h from this]
        · intro hs
          exact ⟨h, hs, (ih h).2 (by rw [e]; rfl)⟩
      | cons b r =>
        constructor
        · rintro ⟨u, rfl, hu⟩
          have := (ih u).1 hu
          rw [e] at this
          obtain ⟨x, y, rfl, hy⟩ := this
          exact ⟨x, y, rfl, hy⟩
        · rintro ⟨x, y, rfl, hy⟩
          exact ⟨h ++ x ++ y, rfl, (ih _).2 (by rw [e]; exact ⟨x, y, rfl, hy⟩)⟩
theorem st_mids : ∀ (mids : List (List UInt8)) (a z s : List UInt8), St (a :: (mids ++ [z])) s ↔ ∃ w, s = a ++ w ++ z ∧ Tt mids w
  | [], a, z, s => by
    constructor
    · rintro ⟨t, u, rfl, hu⟩
      exact ⟨t, by rw [show u = z from hu], trivial⟩
    · rintro ⟨w, rfl, _⟩
      exact ⟨w, z, rfl, rfl⟩
  | m :: ms, a, z, s => by
    have ih := st_mids ms m z
    constructor
    · rintro ⟨t, u, rfl, hu⟩
      obtain ⟨w, rfl, hw⟩ := (ih u).1 hu
      exact ⟨t ++ m ++ w, by simp only [List.append_assoc], ⟨t, w, rfl, hw⟩⟩
    · rintro ⟨w, rfl, ⟨x, y, rfl, hy⟩⟩
      exact ⟨x, m ++ y ++ z, by simp only [List.append_assoc], (ih _).2 ⟨y, rfl, hy⟩⟩
theorem tt_more : ∀ (ms : List (List UInt8)) (x y : List UInt8), Tt ms y → Tt ms (x ++ y)
  | [], _, _, _ => trivial
  | m :: ms, x, y, ⟨a, b, e, hb⟩ => ⟨x ++ a, b, by rw [e]; simp only [List.append_assoc], hb⟩
open Go.Lib in
/-- The leftmost piece serves. -/
theorem tt_cut (m : List UInt8) (ms : List (List UInt8)) (w : List UInt8) : Tt (m :: ms) w ↔ (cut w m).2.2 = true ∧ Tt ms (cut w m).2.1 := by
  unfold cut
  rcases index_spec w m with ⟨h1, h2⟩ | ⟨i, h1, h2, h3, h4⟩
  · rw [if_neg (by omega)]
    constructor
    · rintro ⟨x, y, rfl, _⟩
      have := h2 x.length (by simp only [List.length_append]; omega)
      unfold occAt at this
      rw [List.append_assoc, List.drop_left] at this
      have hp : m.isPrefixOf (m ++ y) = true := List.isPrefixOf_iff_prefix.2 (List.prefix_append m y)
      rw [hp] at this
      cases this
    · rintro ⟨h, _⟩; cases h
  · rw [if_pos (by omega)]
    have ei : (index w m).toNat = i := by omega
    simp only [ei, true_and]
    constructor
    · rintro ⟨x, y, e, hy⟩
      have hxi : i ≤ x.length := by
        apply Nat.le_of_not_lt
        intro hlt
        have := h4 x.length hlt
        unfold occAt at this
        rw [e, List.append_assoc, List.drop_left] at this
        have hp : m.isPrefixOf (m ++ y) = true := List.isPrefixOf_iff_prefix.2 (List.prefix_append m y)
        rw [hp] at this
        cases this
      have ey : y = w.drop (x.length + m.length) := by
        rw [e, List.drop_left' (by rw [List.length_append])]
      have ed : w.drop (i + m.length) = (w.drop (i + m.length)).take (x.length - i) ++ y := by
        rw [ey]
        conv => lhs; rw [← List.take_append_drop (x.length - i) (w.drop (i + m.length))]
        rw [List.drop_drop, show i + m.length + (x.length - i) = x.length + m.length by omega]
      rw [ed]
      exact tt_more ms _ y hy
    · intro hy
      unfold occAt at h3
      obtain ⟨r, hr⟩ := List.isPrefixOf_iff_prefix.1 h3
      refine ⟨w.take i, w.drop (i + m.length), ?_, hy⟩
      have e2 : w.drop (i + m.length) = r := by
        rw [← List.drop_drop, ← hr, List.drop_left]
      rw [e2, List.append_assoc, hr, List.take_append_drop]
/-- A pattern with a star behind. -/
theorem mt_star : ∀ p s, Mt (p ++ [42]) s ↔ ∃ t u, s = t ++ u ∧ Mt p t
  | [], s => by
    constructor
    · rintro ⟨t, u, e, hu⟩
      exact ⟨[], s, rfl, rfl⟩
    · rintro ⟨t, u, rfl, ht⟩
      exact ⟨t ++ u, [], by simp, rfl⟩
  | c :: ps, s => by
    have ih := mt_star ps
    show Mt (c :: (ps ++ [42])) s ↔ _
    unfold Mt
    by_cases hc : c = 42
    · rw [if_pos hc]
      simp only [if_pos hc]
      constructor
      · rintro ⟨a, b, rfl, hb⟩
        obtain ⟨t, u, rfl, ht⟩ := (ih b).1 hb
        exact ⟨a ++ t, u, by simp, a, t, rfl, ht⟩
      · rintro ⟨t, u, rfl, a, b, rfl, hb⟩
        exact ⟨a, b ++ u, by simp, (ih _).2 ⟨b, u, rfl, hb⟩⟩
    · rw [if_neg hc]
      simp only [if_neg hc]
      constructor
      · rintro ⟨b, rfl, hb⟩
        obtain ⟨t, u, rfl, ht⟩ := (ih b).1 hb
        exact ⟨c :: t, u, rfl, t, rfl, ht⟩
      · rintro ⟨t, u, rfl, b, rfl, hb⟩
        exact ⟨b ++ u, rfl, (ih _).2 ⟨b, u, rfl, hb⟩⟩
theorem mt_byte (d : UInt8) (hd : d ≠ 42) : ∀ p s, Mt (p ++ [d]) s ↔ ∃ t, s = t ++ [d] ∧ Mt p t
  | [], s => by
    show Mt [d] s ↔ _
    unfold Mt
    rw [if_neg hd]
    constructor
    · rintro ⟨u, rfl, hu⟩
      exact ⟨[], by rw [show u = [] from hu]; rfl, rfl⟩
    · rintro ⟨t, rfl, ht⟩
      exact ⟨[], by rw [show t = [] from ht]; rfl, rfl⟩
  | c :: ps, s => by
    have ih := mt_byte d hd ps
    show Mt (c :: (ps ++ [d])) s ↔ _
    unfold Mt
    by_cases hc : c = 42
    · rw [if_pos hc]
      simp only [if_pos hc]
      constructor
      · rintro ⟨a, b, rfl, hb⟩
        obtain ⟨t, rfl, ht⟩ := (ih b).1 hb
        exact ⟨a ++ t, by simp, a, t, rfl, ht⟩
      · rintro ⟨t, rfl, a, b, rfl, hb⟩
        exact ⟨a, b ++ [d], by simp, (ih _).2 ⟨b, rfl, hb⟩⟩
    · rw [if_neg hc]
      simp only [if_neg hc]
      constructor
      · rintro ⟨b, rfl, hb⟩
        obtain ⟨t, rfl, ht⟩ := (ih b).1 hb
        exact ⟨c :: t, rfl, t, rfl, ht⟩
      · rintro ⟨t, rfl, b, rfl, hb⟩
        exact ⟨b ++ [d], rfl, (ih _).2 ⟨b, rfl, hb⟩⟩
theorem take_succ_at {s : List UInt8} {k : Nat} (h : k < s.length) : s.take (k + 1) = s.take k ++ [s[k]] := by
  rw [List.take_add_one, List.getElem?_eq_getElem h]
  rfl
/-- What the next row holds, behind a star. -/
theorem row_star (p s : List UInt8) (k : Nat) (hk : k ≤ s.length) : Mt (p ++ [42]) (s.take k) ↔ Mt p (s.take k) ∨ (0 < k ∧ Mt (p ++ [42]) (s.take (k - 1))) := by
  constructor
  · intro h
    obtain ⟨t, u, e, ht⟩ := (mt_star p _).1 h
    rcases List.eq_nil_or_concat u with rfl | ⟨u', x, rfl⟩
    · left; rw [e, List.append_nil]; exact ht
    · right
      have hl := congrArg List.length e
      simp only [List.length_append, List.length_take, List.concat_eq_append, List.length_cons, List.length_nil] at hl
      obtain ⟨j, rfl⟩ : ∃ j, k = j + 1 := ⟨k - 1, by omega⟩
      refine ⟨by omega, ?_⟩
      rw [take_succ_at (by omega), List.concat_eq_append, ← List.append_assoc] at e
      have e2 := (List.append_inj' e rfl).1
      rw [Nat.add_sub_cancel, e2]
      exact (mt_star p _).2 ⟨t, u', rfl, ht⟩
  · rintro (h | ⟨h0, h⟩)
    · exact (mt_star p _).2 ⟨_, [], by simp, h⟩
    · obtain ⟨j, rfl⟩ : ∃ j, k = j + 1 := ⟨k - 1, by omega⟩
      obtain ⟨t, u, e, ht⟩ := (mt_star p _).1 h
      rw [Nat.add_sub_cancel] at e
      refine (mt_star p _).2 ⟨t, u ++ [s[j]], ?_, ht⟩
      rw [take_succ_at (by omega), e, List.append_assoc]
theorem row_byte (p s : List UInt8) (d : UInt8) (hd : d ≠ 42) (k : Nat) (hk : k ≤ s.length) : Mt (p ++ [d]) (s.take k) ↔ ∃ h : 0 < k, Mt p (s.take (k - 1)) ∧ s[k - 1]'(by omega) = d := by
  constructor
  · intro h
    obtain ⟨t, e, ht⟩ := (mt_byte d hd p _).1 h
    have hl := congrArg List.length e
    simp only [List.length_append, List.length_take, List.length_cons, List.length_nil] at hl
    obtain ⟨j, rfl⟩ : ∃ j, k = j + 1 := ⟨k - 1, by omega⟩
    rw [take_succ_at (by omega)] at e
    obtain ⟨e1, e2⟩ := List.append_inj' e rfl
    refine ⟨by omega, ?_, ?_⟩
    · show Mt p (s.take j); rw [e1]; exact ht
    · simpa using e2
  · rintro ⟨h0, h1, h2⟩
    obtain ⟨j, rfl⟩ : ∃ j, k = j + 1 := ⟨k - 1, by omega⟩
    refine (mt_byte d hd p _).2 ⟨s.take j, ?_, h1⟩
    rw [take_succ_at (by omega)]
    congr 2
open Go.Lib in
/-- strings.Split tells the pieces. -/
theorem split_parts : ∀ p : List UInt8, splitK [42] 0 (count p [42]) p = parts p
  | [] => rfl
  | c :: ps => by
    have ih := split_parts ps
    by_cases hc : c = 42
    · subst hc
      rw [count_cons_eq, Nat.add_comm]
      unfold splitK parts
      have e : index (42 :: ps) [42] = 0 := by unfold index; rw [if_pos (by simp)]
      rw [e, if_neg (by decide), if_pos rfl]
      show [] :: splitK [42] 0 (count ps [42]) ps = _
      rw [ih]
    · rw [count_cons_ne _ _ _ hc]
      unfold parts
      rw [if_neg hc, ← ih]
      cases hk : count ps [42] with
      | zero => rfl
      | succ k =>
        have e : index (c :: ps) [42] = if index ps [42] == -1 then -1 else index ps [42] + 1 := by
          show (if ([42] : List UInt8).isPrefixOf (c :: ps) then (0 : Int) else _) = _
          rw [if_neg (by simp [List.isPrefixOf, Ne.symm hc])]
        unfold splitK
        rw [e]
        by_cases hi : (index ps [42] == -1) = true
        · rw [if_pos hi, if_pos (by decide), if_pos hi]
        · have hg := index_ge ps [42]
          have hi' : index ps [42] ≠ -1 := fun h => hi (by rw [h]; rfl)
          rw [if_neg hi, if_neg hi, if_neg (by simp; omega)]
          have e2 : (index ps [42] + 1).toNat = (index ps [42]).toNat + 1 := by omega
          rw [e2]
          simp only [Nat.add_zero, List.take_succ_cons, List.length_cons, List.length_nil, List.drop_succ_cons]
end Go.Proofs.YtkaigdmoccfbfaaDoor
