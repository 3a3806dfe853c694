/- keep's map of rows of texts: what it holds, how it grows (layer 32). -/
import Derived.Test.YtbheiglbejokmaaMapm
import Derived.Test.YtbheiglbejokmaaMakB
import Derived.Test.YtbheiglbejokmaaFldL
namespace Go.Proofs.Ytbheiglbejokmaa
set_option maxRecDepth 20000
set_option linter.unusedSimpArgs false
set_option linter.unusedVariables false
open Go.RowKit Go.Sort Go.Lib Go.MapKept
/-- Texts, as values. -/
def vsT (l : List ByteArray) : List Value := l.map .string
theorem vsT_len (l : List ByteArray) : (vsT l).length = l.length := List.length_map _
theorem vsT_app (l m : List ByteArray) : vsT (l ++ m) = vsT l ++ vsT m := List.map_append
/-- One entry of the map: its key, the block of its row, the row's room, what is in it, what lies behind. -/
structure Ent where
  key : ByteArray
  g : Nat
  cap : Nat
  xs : List ByteArray
  r : List Value
def Ent.val (E : Ent) : Value := .slice (some ⟨E.g, 0, none⟩) E.xs.length E.cap
def Ent.blk (T : TypeId) (E : Ent) : Blk := (E.g, .cells (vsT E.xs ++ E.r).toArray T (0, 0))
def Ent.ent (E : Ent) : ByteArray × List ByteArray := (E.key, E.xs)
def ents (L : List Ent) : Array MapEntry := (L.mapIdx fun i E => (⟨.string E.key, E.val, i⟩ : MapEntry)).toArray
theorem ents_at (L : List Ent) (j : Nat) : (ents L).toList[j]? = (L[j]?).map fun E => (⟨.string E.key, E.val, j⟩ : MapEntry) := by
  simp [ents, List.getElem?_mapIdx]
theorem ents_push (L : List Ent) (E : Ent) : (ents L).push ⟨.string E.key, E.val, L.length⟩ = ents (L ++ [E]) := by
  apply Array.ext'
  apply List.ext_getElem?
  intro j
  rw [ents_at, Array.toList_push, List.getElem?_append, List.getElem?_append, ents_at]
  have hl : (ents L).toList.length = L.length := by simp [ents]
  rw [hl]
  split
  · rfl
  · rename_i h
    rcases Nat.eq_or_lt_of_le (Nat.le_of_not_lt h) with h1 | h1
    · subst h1
      simp
    · rw [List.getElem?_eq_none (by simp; omega), List.getElem?_eq_none (by simp; omega)]
      rfl
theorem ents_set (L1 L2 : List Ent) (E E' : Ent) : (ents (L1 ++ E :: L2)).modify L1.length (fun e => { e with key := .string E'.key, val := E'.val }) = ents (L1 ++ E' :: L2) := by
  apply Array.ext'
  apply List.ext_getElem?
  intro j
  rw [ents_at, Array.toList_modify, List.getElem?_modify, ents_at, List.getElem?_append, List.getElem?_append]
  rcases Nat.lt_trichotomy j L1.length with h | h | h
  · rw [if_pos h, if_pos h, List.getElem?_eq_getElem h]
    simp [Nat.ne_of_gt h]
  · subst h
    simp
  · rw [if_neg (by omega), if_neg (by omega)]
    obtain ⟨d, hd⟩ : ∃ d, j - L1.length = d + 1 := ⟨j - L1.length - 1, by omega⟩
    rw [hd, List.getElem?_cons_succ, List.getElem?_cons_succ]
    rcases L2[d]? with _ | x <;> simp [Nat.ne_of_lt h]
/-- The keys and their texts, with one more if it is told. -/
def upd : List (ByteArray × List ByteArray) → ByteArray → ByteArray → List (ByteArray × List ByteArray)
  | [], k, x => [(k, [x])]
  | (k', xs) :: S, k, x => if k' = k then (k', xs ++ [x]) :: S else (k', xs) :: upd S k x
def adds (has : Bool) (k x : ByteArray) (S : List (ByteArray × List ByteArray)) : List (ByteArray × List ByteArray) := if has then upd S k x else S
theorem upd_old (S1 S2 : List (ByteArray × List ByteArray)) (k x : ByteArray) (xs : List ByteArray) (h : ∀ p ∈ S1, p.1 ≠ k) : upd (S1 ++ (k, xs) :: S2) k x = S1 ++ (k, xs ++ [x]) :: S2 := by
  induction S1 with
  | nil => simp [upd]
  | cons p S1 ih =>
    obtain ⟨k', ys⟩ := p
    rw [List.cons_append, upd, if_neg (h (k', ys) (by simp)), ih fun p hp => h p (List.mem_cons_of_mem _ hp)]
    rfl
theorem upd_new (S : List (ByteArray × List ByteArray)) (k x : ByteArray) (h : ∀ p ∈ S, p.1 ≠ k) : upd S k x = S ++ [(k, [x])] := by
  induction S with
  | nil => rfl
  | cons p S ih =>
    obtain ⟨k', ys⟩ := p
    rw [upd, if_neg (h (k', ys) (by simp)), ih fun p hp => h p (List.mem_cons_of_mem _ hp)]
    rfl
/-- The texts by a key. -/
def look : List (ByteArray × List ByteArray) → ByteArray → List ByteArray
  | [], _ => []
  | (k', xs) :: S, k => if k' = k then xs else look S k
theorem look_old (S1 S2 : List (ByteArray × List ByteArray)) (k : ByteArray) (xs : List ByteArray) (h : ∀ p ∈ S1, p.1 ≠ k) : look (S1 ++ (k, xs) :: S2) k = xs := by
  induction S1 with
  | nil => simp [look]
  | cons p S1 ih =>
    obtain ⟨k', ys⟩ := p
    rw [List.cons_append, look, if_neg (h (k', ys) (by simp)), ih fun p hp => h p (List.mem_cons_of_mem _ hp)]
theorem look_new (S : List (ByteArray × List ByteArray)) (k : ByteArray) (h : ∀ p ∈ S, p.1 ≠ k) : look S k = [] := by
  induction S with
  | nil => rfl
  | cons p S ih =>
    obtain ⟨k', ys⟩ := p
    rw [look, if_neg (h (k', ys) (by simp)), ih fun p hp => h p (List.mem_cons_of_mem _ hp)]
/-- A look-up among the entries: none, or where it is. -/
theorem ents_find (L : List Ent) (k : ByteArray) : (Instr.findNow .string (.string k) (ents L).toList 0 = some none ∧ ∀ E ∈ L, E.key ≠ k) ∨
    ∃ L1 E L2, L = L1 ++ E :: L2 ∧ E.key = k ∧ Instr.findNow .string (.string k) (ents L).toList 0 = some (some (L1.length, E.val)) := by
  have hall : ∀ x ∈ (ents L).toList, IsKey .string x.key := by
    intro x hx
    obtain ⟨j, hj⟩ := List.getElem?_of_mem hx
    rw [ents_at] at hj
    rcases hL : L[j]? with _ | E
    · rw [hL] at hj; cases hj
    · rw [hL] at hj; cases hj; exact isKey_string _
  rcases findNow_spec (isKey_string k) _ 0 hall with ⟨h1, h2⟩ | ⟨j, e, h1, h2, h3⟩
  · refine .inl ⟨h1, fun E hE hk => ?_⟩
    obtain ⟨j, hj⟩ := List.getElem?_of_mem hE
    have h4 := ents_at L j
    rw [hj] at h4
    exact h2 _ (List.mem_of_getElem? h4) (by rw [← hk])
  · rw [ents_at] at h2
    rcases hL : L[j]? with _ | E
    · rw [hL] at h2; cases h2
    · rw [hL] at h2
      cases h2
      obtain ⟨hlt, hv⟩ := List.getElem?_eq_some_iff.1 hL
      refine .inr ⟨L.take j, E, L.drop (j + 1), ?_, ?_, ?_⟩
      · rw [← hv, List.getElem_cons_drop, List.take_append_drop]
      · cases h3; rfl
      · rw [h1, List.length_take, Nat.min_eq_left (Nat.le_of_lt hlt), Nat.zero_add]
end Go.Proofs.Ytbheiglbejokmaa
