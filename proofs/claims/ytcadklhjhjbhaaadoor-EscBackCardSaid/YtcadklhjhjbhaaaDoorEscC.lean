/- esc (layer 4): the maps of short escapes. -/
import Derived.Test.YtcadklhjhjbhaaaDoorEscB
import Derived.Test.YtcadklhjhjbhaaaDoorMapm
import Derived.Maps.RangeRun
namespace Go.Proofs.YtcadklhjhjbhaaaDoor
set_option maxRecDepth 20000
set_option linter.unusedSimpArgs false
set_option linter.unusedVariables false
open Go.RowKit Go.Lib Go.Shelf
attribute [local go_sem] Oper.semAt_some
abbrev MapT : TypeId := 71
abbrev i32 (n : Int) : Value := .int .i32 n
def ltE : Array MapEntry := #[⟨i32 34, i32 34, 0⟩, ⟨i32 92, i32 92, 1⟩, ⟨i32 8, i32 98, 2⟩, ⟨i32 9, i32 116, 3⟩, ⟨i32 10, i32 110, 4⟩, ⟨i32 12, i32 102, 5⟩, ⟨i32 13, i32 114, 6⟩]
theorem ins_nil (k v : Int) : Instr.findNow (.int .i32) (i32 k) [] 0 = some none := rfl
set_option maxRecDepth 100000 in
theorem letters_any (w : World) : Calls Tryd.prog 46 #[] w fun e w' => ∃ m, e = .returned (.map (some m)) ∧ w'.heap[m]? = some (.map ltE 7) ∧ w.heap.size ≤ m ∧ Below w.heap.size w w' := by
  go_enter Tryd.func46, Tryd.ntmps46
  go_upto_region 1 with fail
  have hM0 := Mem.start w
  refine wp_region_lit ?_
  refine wl_new hM0 (ob := .map #[] 0) (f := fun b => .map (some b)) (fun W => run_mkmap_of rfl W) rfl fun m w1 hM1 => ?_
  simp only [nm0, nm1, nm2, nm3]
  refine wl_ins hM1 0 (es' := #[⟨i32 34, i32 34, 0⟩]) (ck' := 1) (key := i32 34) (val := i32 34) (.inl rfl) rfl rfl rfl rfl Tryd.underlying71 Tryd.underlying21 rfl rfl rfl rfl rfl rfl fun w2 hM2 => ?_
  simp only [nm2, nm3] at hM2
  refine wl_ins hM2 0 (es' := #[⟨i32 34, i32 34, 0⟩, ⟨i32 92, i32 92, 1⟩]) (ck' := 2) (key := i32 92) (val := i32 92) (.inl rfl) rfl rfl rfl rfl Tryd.underlying71 Tryd.underlying21 rfl rfl rfl rfl rfl rfl fun w3 hM3 => ?_
  simp only [nm2, nm3] at hM3
  refine wl_ins hM3 0 (es' := #[⟨i32 34, i32 34, 0⟩, ⟨i32 92, i32 92, 1⟩, ⟨i32 8, i32 98, 2⟩]) (ck' := 3) (key := i32 8) (val := i32 98) (.inl rfl) rfl rfl rfl rfl Tryd.underlying71 Tryd.underlying21 rfl rfl rfl rfl rfl rfl fun w4 hM4 => ?_
  simp only [nm2, nm3] at hM4
  refine wl_ins hM4 0 (es' := #[⟨i32 34, i32 34, 0⟩, ⟨i32 92, i32 92, 1⟩, ⟨i32 8, i32 98, 2⟩, ⟨i32 9, i32 116, 3⟩]) (ck' := 4) (key := i32 9) (val := i32 116) (.inl rfl) rfl rfl rfl rfl Tryd.underlying71 Tryd.underlying21 rfl rfl rfl rfl rfl rfl fun w5 hM5 => ?_
  simp only [nm2, nm3] at hM5
  refine wl_ins hM5 0 (es' := #[⟨i32 34, i32 34, 0⟩, ⟨i32 92, i32 92, 1⟩, ⟨i32 8, i32 98, 2⟩, ⟨i32 9, i32 116, 3⟩, ⟨i32 10, i32 110, 4⟩]) (ck' := 5) (key := i32 10) (val := i32 110) (.inl rfl) rfl rfl rfl rfl Tryd.underlying71 Tryd.underlying21 rfl rfl rfl rfl rfl rfl fun w6 hM6 => ?_
  simp only [nm2, nm3] at hM6
  refine wl_ins hM6 0 (es' := #[⟨i32 34, i32 34, 0⟩, ⟨i32 92, i32 92, 1⟩, ⟨i32 8, i32 98, 2⟩, ⟨i32 9, i32 116, 3⟩, ⟨i32 10, i32 110, 4⟩, ⟨i32 12, i32 102, 5⟩]) (ck' := 6) (key := i32 12) (val := i32 102) (.inl rfl) rfl rfl rfl rfl Tryd.underlying71 Tryd.underlying21 rfl rfl rfl rfl rfl rfl fun w7 hM7 => ?_
  simp only [nm2, nm3] at hM7
  refine wl_ins hM7 0 (es' := #[⟨i32 34, i32 34, 0⟩, ⟨i32 92, i32 92, 1⟩, ⟨i32 8, i32 98, 2⟩, ⟨i32 9, i32 116, 3⟩, ⟨i32 10, i32 110, 4⟩, ⟨i32 12, i32 102, 5⟩, ⟨i32 13, i32 114, 6⟩]) (ck' := 7) (key := i32 13) (val := i32 114) (.inl rfl) rfl rfl rfl rfl Tryd.underlying71 Tryd.underlying21 rfl rfl rfl rfl rfl rfl fun w8 hM8 => ?_
  simp only [nm2, nm3] at hM8
  refine wl_pure (v := .map (some m)) (fun W => rfl) rfl ?_
  simp only [nm0, nm1, nm2, nm3]
  refine wl_pure (v := .map (some m)) (fun W => rfl) rfl ?_
  simp only [nm0, nm1, nm2, nm3]
  refine wpList_nil ?_
  go_wp2_with fail
  go_ret
  exact ⟨m, rfl, hM8.get 0 rfl, hM8.low _ (List.mem_of_getElem? (i := 0) rfl), hM8.below⟩
/-- What stands behind a backslash for a code point; and back. -/
def letV (n : Nat) : Option Nat := if n = 34 then some 34 else if n = 92 then some 92 else if n = 8 then some 98 else if n = 9 then some 116 else if n = 10 then some 110 else if n = 12 then some 102 else if n = 13 then some 114 else none
def meanV (n : Nat) : Option Nat := if n = 47 then some 47 else if n = 34 then some 34 else if n = 92 then some 92 else if n = 98 then some 8 else if n = 116 then some 9 else if n = 110 then some 10 else if n = 102 then some 12 else if n = 114 then some 13 else none
def ansV : Option Nat → Value × Bool
  | some n => (i32 (n : Int), true)
  | none => (i32 0, false)
theorem find_i32 (k x v : Int) (b : Nat) (es : List MapEntry) (i : Nat) : Instr.findNow (.int .i32) (i32 k) (⟨i32 x, i32 v, b⟩ :: es) i = if k = x then some (some (i, i32 v)) else Instr.findNow (.int .i32) (i32 k) es (i + 1) := by
  have e1 : Instr.sameNow (.int .i32) (i32 k) (i32 x) = some (k == x) := rfl
  rw [Instr.findNow]
  simp only [e1]
  by_cases h : k = x
  · simp [h]
  · have e2 : (k == x) = false := by simpa using h
    rw [if_neg h, e2]
theorem letters_look (n : Nat) : ∃ r, Instr.findNow (.int .i32) (i32 (n : Int)) ltE.toList 0 = some r ∧ lookR (i32 0) r = ansV (letV n) := by
  simp only [ltE, find_i32]
  unfold letV
  by_cases h1 : n = 34
  · subst h1; exact ⟨_, rfl, rfl⟩
  rw [if_neg (by omega), if_neg h1]
  by_cases h2 : n = 92
  · subst h2; exact ⟨_, rfl, rfl⟩
  rw [if_neg (by omega), if_neg h2]
  by_cases h3 : n = 8
  · subst h3; exact ⟨_, rfl, rfl⟩
  rw [if_neg (by omega), if_neg h3]
  by_cases h4 : n = 9
  · subst h4; exact ⟨_, rfl, rfl⟩
  rw [if_neg (by omega), if_neg h4]
  by_cases h5 : n = 10
  · subst h5; exact ⟨_, rfl, rfl⟩
  rw [if_neg (by omega), if_neg h5]
  by_cases h6 : n = 12
  · subst h6; exact ⟨_, rfl, rfl⟩
  rw [if_neg (by omega), if_neg h6]
  by_cases h7 : n = 13
  · subst h7; exact ⟨_, rfl, rfl⟩
  rw [if_neg (by omega), if_neg h7]
  exact ⟨none, rfl, rfl⟩
/-- The map that reading asks: an entry is a letter and what it stands for. -/
def MeanAt (m : Nat) (w : World) : Prop := ∃ es ck, w.heap[m]? = some (.map es ck) ∧ (∀ x ∈ es.toList, ∃ k v : Nat, x.key = i32 k ∧ x.val = i32 v ∧ meanV k = some v) ∧ ∀ k v : Nat, meanV k = some v → ∃ x ∈ es.toList, x.key = i32 k
theorem MeanAt.look {m : Nat} {w : World} (h : MeanAt m w) : ∃ es ck, w.heap[m]? = some (.map es ck) ∧ ∀ n : Nat, ∃ r, Instr.findNow (.int .i32) (i32 (n : Int)) es.toList 0 = some r ∧ lookR (i32 0) r = ansV (meanV n) := by
  obtain ⟨es, ck, hm, h1, h2⟩ := h
  refine ⟨es, ck, hm, fun n => ?_⟩
  rcases MapKept.findNow_spec (d := .int .i32) (k := i32 (n : Int)) rfl es.toList 0 (fun x hx => by obtain ⟨k, v, hk, _⟩ := h1 x hx; rw [hk]; rfl) with ⟨hf, hno⟩ | ⟨j, e, hf, hj, hk⟩
  · refine ⟨none, hf, ?_⟩
    cases hv : meanV n with
    | none => rfl
    | some v =>
      obtain ⟨x, hx, hk⟩ := h2 n v hv
      exact absurd hk (hno x hx)
  · refine ⟨_, hf, ?_⟩
    obtain ⟨k, v, hk', hv, hm⟩ := h1 e (List.mem_of_getElem? hj)
    rw [hk] at hk'
    have : (n : Int) = (k : Int) := by injection hk'
    obtain rfl : n = k := by omega
    rw [hm, hv]
    rfl
theorem MeanAt.keep {m : Nat} {w w' : World} (h : MeanAt m w) (hk : w'.heap[m]? = w.heap[m]?) : MeanAt m w' := by
  obtain ⟨es, ck, hm, h1⟩ := h
  exact ⟨es, ck, hk.trans hm, h1⟩
theorem push_set {α : Type} (a : Array α) (x v : α) (i : Nat) (h : i < a.size) : (a.push x).setIfInBounds i v = (a.setIfInBounds i v).push x := by
  apply Array.ext_getElem?
  intro k
  rw [Array.getElem?_setIfInBounds, Array.getElem?_push, Array.getElem?_push, Array.getElem?_setIfInBounds, Array.size_setIfInBounds, Array.size_push]
  by_cases h1 : i = k
  · subst h1
    rw [if_pos rfl, if_pos (by omega), if_neg (by omega), if_pos rfl, if_pos h]
  · rw [if_neg h1, if_neg h1]
theorem alloc_set (w : World) (m : Nat) (ob it : Obj) (h : m < w.heap.size) : { w.alloc it with heap := (w.alloc it).heap.setIfInBounds m ob } = ({ w with heap := w.heap.setIfInBounds m ob } : World).alloc it := by
  show ({ w with heap := (w.heap.push it).setIfInBounds m ob } : World) = { w with heap := (w.heap.setIfInBounds m ob).push it }
  rw [push_set _ _ _ _ h]
/-- The pairs of the letters' map, turned. -/
def Vis (seen : Array Nat) (es : Array MapEntry) : Prop := (∀ x ∈ es.toList, ∃ k v : Nat, x.key = i32 k ∧ x.val = i32 v ∧ meanV k = some v ∧ (k = 47 ∨ ∃ y ∈ ltE.toList, seen.contains y.born = true ∧ y.val = i32 k)) ∧
  (∃ x ∈ es.toList, x.key = i32 47) ∧ ∀ y ∈ ltE.toList, seen.contains y.born = true → ∃ x ∈ es.toList, x.key = y.val
theorem lt_all : ∀ y ∈ ltE.toList, ∃ k v : Nat, y.val = i32 k ∧ y.key = i32 v ∧ meanV k = some v ∧ k ≠ 47 := by
  intro y hy
  simp only [ltE, List.mem_cons, List.not_mem_nil, or_false] at hy
  rcases hy with rfl | rfl | rfl | rfl | rfl | rfl | rfl
  · exact ⟨34, 34, rfl, rfl, rfl, by decide⟩
  · exact ⟨92, 92, rfl, rfl, rfl, by decide⟩
  · exact ⟨98, 8, rfl, rfl, rfl, by decide⟩
  · exact ⟨116, 9, rfl, rfl, rfl, by decide⟩
  · exact ⟨110, 10, rfl, rfl, rfl, by decide⟩
  · exact ⟨102, 12, rfl, rfl, rfl, by decide⟩
  · exact ⟨114, 13, rfl, rfl, rfl, by decide⟩
theorem lt_val : ∀ y ∈ ltE.toList, ∀ z ∈ ltE.toList, y.val = z.val → y.born = z.born := by
  intro y hy z hz
  simp only [ltE, List.mem_cons, List.not_mem_nil, or_false] at hy hz
  rcases hy with rfl | rfl | rfl | rfl | rfl | rfl | rfl <;> rcases hz with rfl | rfl | rfl | rfl | rfl | rfl | rfl <;> simp [i32]
theorem mean_lt {k v : Nat} (h : meanV k = some v) : k = 47 ∨ ∃ y ∈ ltE.toList, y.val = i32 k := by
  unfold meanV at h
  simp only [ltE]
  by_cases h0 : k = 47
  · exact .inl h0
  rw [if_neg h0] at h
  refine .inr ?_
  by_cases h1 : k = 34
  · subst h1; exact ⟨_, .head _, rfl⟩
  rw [if_neg h1] at h
  by_cases h2 : k = 92
  · subst h2; exact ⟨_, .tail _ (.head _), rfl⟩
  rw [if_neg h2] at h
  by_cases h3 : k = 98
  · subst h3; exact ⟨_, .tail _ (.tail _ (.head _)), rfl⟩
  rw [if_neg h3] at h
  by_cases h4 : k = 116
  · subst h4; exact ⟨_, .tail _ (.tail _ (.tail _ (.head _))), rfl⟩
  rw [if_neg h4] at h
  by_cases h5 : k = 110
  · subst h5; exact ⟨_, .tail _ (.tail _ (.tail _ (.tail _ (.head _)))), rfl⟩
  rw [if_neg h5] at h
  by_cases h6 : k = 102
  · subst h6; exact ⟨_, .tail _ (.tail _ (.tail _ (.tail _ (.tail _ (.head _))))), rfl⟩
  rw [if_neg h6] at h
  by_cases h7 : k = 114
  · subst h7; exact ⟨_, .tail _ (.tail _ (.tail _ (.tail _ (.tail _ (.tail _ (.head _)))))), rfl⟩
  rw [if_neg h7] at h
  cases h
theorem push_has (seen : Array Nat) (b c : Nat) : (seen.push b).contains c = true ↔ seen.contains c = true ∨ c = b := by
  rw [Array.contains_push]; simp
theorem vis_step {seen : Array Nat} {es : Array MapEntry} {e : MapEntry} {k v : Nat} (h : Vis seen es) (he : e ∈ ltE.toList) (hs : seen.contains e.born = false) (hk : e.val = i32 k) (hv : e.key = i32 v) (ck : Nat) :
    Instr.findNow (.int .i32) (i32 k) es.toList 0 = some none ∧ Vis (seen.push e.born) (es.push ⟨i32 k, i32 v, ck⟩) := by
  obtain ⟨h1, h2, h3⟩ := h
  obtain ⟨k0, v0, ek, ev, hm, h47⟩ := lt_all e he
  have e1 : k = k0 := by have := hk.symm.trans ek; injection this with _ h; omega
  have e2 : v = v0 := by have := hv.symm.trans ev; injection this with _ h; omega
  subst e1 e2
  refine ⟨?_, fun x hx => ?_, ?_, fun y hy hsy => ?_⟩
  · rcases MapKept.findNow_spec (d := .int .i32) (k := i32 (k : Int)) rfl es.toList 0 (fun x hx => by obtain ⟨k, v, hk, _⟩ := h1 x hx; rw [hk]; rfl) with ⟨hf, hno⟩ | ⟨j, x, hf, hj, hkx⟩
    · exact hf
    · exfalso
      obtain ⟨k', v', hk', -, -, h47' | ⟨y, hy, hsy, hyv⟩⟩ := h1 x (List.mem_of_getElem? hj)
      · have := hkx.symm.trans hk'; injection this with _ h; omega
      · have e3 : y.val = e.val := by rw [hyv, hk, ← hk', hkx]
        rw [lt_val y hy e he e3, hs] at hsy
        cases hsy
  · rw [Array.toList_push] at hx
    rcases List.mem_append.1 hx with hx | hx
    · obtain ⟨k', v', a1, a2, a3, a4⟩ := h1 x hx
      exact ⟨k', v', a1, a2, a3, a4.imp_right fun ⟨y, b1, b2, b3⟩ => ⟨y, b1, (push_has _ _ _).2 (.inl b2), b3⟩⟩
    · obtain rfl := List.mem_singleton.1 hx
      exact ⟨k, v, rfl, rfl, hm, .inr ⟨e, he, (push_has _ _ _).2 (.inr rfl), hk⟩⟩
  · obtain ⟨x, hx, hk'⟩ := h2
    exact ⟨x, by rw [Array.toList_push]; exact List.mem_append_left _ hx, hk'⟩
  · rw [Array.toList_push]
    rcases (push_has _ _ _).1 hsy with hsy | hb
    · obtain ⟨x, hx, hk'⟩ := h3 y hy hsy
      exact ⟨x, List.mem_append_left _ hx, hk'⟩
    · refine ⟨_, List.mem_append_right _ (List.mem_singleton.2 rfl), ?_⟩
      have e4 : y = e := born_inj (l := ltE.toList) (by decide) hy he hb
      rw [e4, hk]
theorem vis_end {seen : Array Nat} {es : Array MapEntry} (h : Vis seen es) (hall : ∀ y ∈ ltE.toList, seen.contains y.born = true) {m : Nat} {w : World} {ck : Nat} (hm : w.heap[m]? = some (.map es ck)) : MeanAt m w := by
  obtain ⟨h1, h2, h3⟩ := h
  refine ⟨es, ck, hm, fun x hx => ?_, fun k v hkv => ?_⟩
  · obtain ⟨k, v, a, b, c, -⟩ := h1 x hx
    exact ⟨k, v, a, b, c⟩
  · rcases mean_lt hkv with rfl | ⟨y, hy, hyv⟩
    · exact h2
    · obtain ⟨x, hx, hk⟩ := h3 y hy (hall y hy)
      exact ⟨x, hx, hk.trans hyv⟩
set_option maxRecDepth 100000 in
set_option maxHeartbeats 2000000 in
theorem meanings_any (w : World) : Calls Tryd.prog 69 #[] w fun e w' => ∃ m, e = .returned (.map (some m)) ∧ MeanAt m w' ∧ w.heap.size ≤ m ∧ Below w.heap.size w w' := by
  have KL := Lib.hid (fun w => letters_any w)
  go_enter Tryd.func69, Tryd.ntmps69
  go_upto_region 1 with fail
  have hM0 := Mem.start w
  refine wp_region_lit ?_
  refine wl_new hM0 (ob := .map #[] 0) (f := fun b => .map (some b)) (fun W => run_mkmap_of rfl W) rfl fun m w1 hM1 => ?_
  simp only [nm0, nm1, nm2, nm3]
  refine wl_ins hM1 0 (es' := #[⟨i32 47, i32 47, 0⟩]) (ck' := 1) (key := i32 47) (val := i32 47) (.inl rfl) rfl rfl rfl rfl Tryd.underlying71 Tryd.underlying21 rfl rfl rfl rfl rfl rfl fun w2 hM2 => ?_
  simp only [nm2, nm3] at hM2
  refine wl_pure (v := .map (some m)) (fun W => rfl) rfl ?_
  simp only [nm0, nm1, nm2, nm3]
  refine wl_pure (v := .map (some m)) (fun W => rfl) rfl ?_
  simp only [nm0, nm1, nm2, nm3]
  refine wpList_nil ?_
  go_wp2_with fail
  refine (KL.out _).mono ?_
  rintro e w3 ⟨lm, rfl, hl, hlo, hb⟩
  have hrg := run_range_map (P := Tryd.prog) w3 71 21 21 lm ltE 7 Tryd.underlying71 hl
  have hM3 := (hM2.calls hb)
  have hm3 := hM3.get 0 rfl
  have hlow := hM3.low _ (List.mem_of_getElem? (i := 0) rfl)
  have hbw := hM3.below
  have hml : m < w2.heap.size := (Array.getElem?_eq_some_iff.1 (hM2.get 0 rfl)).1
  have hll : lm < w3.heap.size := (Array.getElem?_eq_some_iff.1 hl).1
  obtain ⟨Z, hZ⟩ : ∃ Z, w3.heap.size = Z := ⟨_, rfl⟩
  rw [hZ] at hrg hll
  clear hM0 hM1 hM2 hM3
  have hmZ : m < Z := by have := hb.size; omega
  have hne : lm ≠ m := by omega
  have setb : ∀ (W : World) (r : Nat) (o o' : Obj), w.heap.size ≤ r → W.heap[r]? = some o → Below w.heap.size w W → (ChangeMaps.setBlock W r o').heap[r]? = some o' ∧ (∀ j, j ≠ r → (ChangeMaps.setBlock W r o').heap[j]? = W.heap[j]?) ∧ Below w.heap.size w (ChangeMaps.setBlock W r o') := fun W r o o' hr ho hbb =>
    ⟨(MapKept.heap_set ho).1, (MapKept.heap_set ho).2, below_setObj hbb hr _⟩
  have hI3 : (w3.alloc (.mapIter (some lm) 7 #[] 7)).heap[Z]? = some (.mapIter (some lm) 7 #[] 7) := by rw [← hZ]; exact World.alloc_heap_new w3 _
  have hm4 := (Below.heap_alloc w3 (.mapIter (some lm) 7 #[] 7) m (by omega)).trans hm3
  have hl4 := (Below.heap_alloc w3 (.mapIter (some lm) 7 #[] 7) lm (by omega)).trans hl
  have hb4 := hbw.alloc (by have := hbw.size; omega) (.mapIter (some lm) 7 #[] 7)
  obtain ⟨w4, hw4⟩ : ∃ w4, w3.alloc (.mapIter (some lm) 7 #[] 7) = w4 := ⟨_, rfl⟩
  rw [hw4] at hrg hI3 hm4 hl4 hb4
  have hlmZ : w.heap.size ≤ Z := by omega
  clear hb hlo hm3 hl hbw hw4 hZ hml
  go_wp2_with fail
  go_loopw [2, 3] (fun _ _ wr => ∃ (es : Array MapEntry) (ck : Nat) (seen : Array Nat), wr.heap[Z]? = some (.mapIter (some lm) 7 seen 7) ∧ wr.heap[m]? = some (.map es ck) ∧ wr.heap[lm]? = some (.map ltE 7) ∧ Vis seen es ∧ Below w.heap.size w wr) (fun _ _ wr => match wr.heap[Z]? with | some (.mapIter _ _ s _) => (leftOf ltE s).size | _ => 0)
  case atStart =>
    refine ⟨_, _, #[], hI3, hm4, hl4, ⟨fun x hx => ?_, ⟨_, List.mem_cons_self, rfl⟩, fun y hy hs => by simp at hs⟩, hb4⟩
    obtain rfl := List.mem_singleton.1 hx
    exact ⟨47, 47, rfl, rfl, rfl, .inl rfl⟩
  case round =>
    obtain ⟨es, ck, seen, hI, hm, hlm, hvis, hbW⟩ := hrel
    rcases run_next_at (P := Tryd.prog) wr 0 Z lm 7 7 seen ltE 7 hI hlm (by decide) (Nat.le_refl _) with ⟨h0, hrun⟩ | ⟨e, he, W1, hW1, hrun⟩
    · have hnx : ∀ ty, (Instr.next (.pointer (some ⟨Z, 0, none⟩)) false ty).run Tryd.prog wr = _ := fun _ => hrun
      clear hrun
      go_wp2_with fail
      go_ret
      exact ⟨m, rfl, vis_end hvis (all_seen ltE seen h0) hm, hlow, hbW⟩
    · obtain ⟨k, v, ek, ev, -, -⟩ := lt_all e (mem_left he).1
      obtain ⟨hf, hv2⟩ := vis_step hvis (mem_left he).1 (mem_left he).2 ek ev ck
      have hms := left_shrinks ltE seen e he
      have hh1 : W1.heap = wr.heap := by rcases hW1 with rfl | rfl <;> rfl
      have hb1 : Below w.heap.size w W1 := by rcases hW1 with h | h <;> rw [h] <;> exact ⟨hbW.os, hbW.tape, hbW.output, hbW.size, hbW.block⟩
      have hI0 := hI
      rw [← hh1] at hI hm hlm
      obtain ⟨s1, s2, s3⟩ := setb W1 Z _ (.mapIter (some lm) 7 (seen.push e.born) 7) hlmZ hI hb1
      have hm2 := (s2 m (by omega)).trans hm
      have hl2 := (s2 lm (by omega)).trans hlm
      obtain ⟨W2, hW2⟩ : ∃ W2, ChangeMaps.setBlock W1 Z (.mapIter (some lm) 7 (seen.push e.born) 7) = W2 := ⟨_, rfl⟩
      rw [hW2] at hrun s1 s3 hm2 hl2
      rw [ek, ev] at hrun
      have hnx : ∀ ty, (Instr.next (.pointer (some ⟨Z, 0, none⟩)) false ty).run Tryd.prog wr = _ := fun _ => hrun
      have hen := run_entry_at (P := Tryd.prog) W2 Z lm 7 seen ltE 7 e s1 hl2 (mem_left he).1 (by decide)
      rw [ek, ev] at hen
      have hup := run_update_new (P := Tryd.prog) (w := W2) (key := i32 k) (val := i32 v) Tryd.underlying71 Tryd.underlying21 hm2 rfl hf
      obtain ⟨t1, t2, t3⟩ := setb W2 m _ (.map (es.push ⟨i32 k, i32 v, ck⟩) (ck + 1)) hlow hm2 s3
      obtain ⟨W3, hW3⟩ : ∃ W3, ({ W2 with heap := W2.heap.setIfInBounds m (.map (es.push ⟨i32 k, i32 v, ck⟩) (ck + 1)) } : World) = W3 := ⟨_, rfl⟩
      have e3 : ChangeMaps.setBlock W2 m (.map (es.push ⟨i32 k, i32 v, ck⟩) (ck + 1)) = W3 := hW3
      rw [e3] at t1 t2 t3
      rw [hW3] at hup
      have g1 := (t2 Z (by omega)).trans s1
      have g2 := (t2 lm (by omega)).trans hl2
      clear hrun hW3 e3 hf hW2 s1 s2 s3 t2 hW1 hm hlm hh1 hb1
      go_wp2_with fail
      go_roundw
      case rel => exact ⟨_, _, _, g1, t1, g2, hv2, t3⟩
      case measure => rw [g1, hI0]; exact hms
end Go.Proofs.YtcadklhjhjbhaaaDoor
