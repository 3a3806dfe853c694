/- Maps that a call has made, among blocks that are known whole; parts of rows at their begin. No program in it. -/
import Derived.Test.YtcadklhjhjbhaaaDoorApp
import Derived.MapKept
namespace Go.Proofs.YtcadklhjhjbhaaaDoor
set_option maxRecDepth 20000
set_option linter.unusedSimpArgs false
set_option linter.unusedVariables false
open Go.RowKit Go.Sort Go.MapKept
section
variable {P : Program} {w w0 : World} {M : List Blk} {o : Oper} {A : Act}
theorem below_setObj {B g : Nat} {w0 w : World} (hb : Below B w0 w) (hBg : B ≤ g) (ob : Obj) : Below B w0 { w with heap := w.heap.setIfInBounds g ob } :=
  hb.trans ⟨rfl, rfl, rfl, by simp, fun k hk => by
    show (w.heap.setIfInBounds g ob)[k]? = _
    rw [Array.getElem?_setIfInBounds, if_neg (by omega)]⟩
theorem Mem.setO (h : Mem w0 M w) (i : Nat) {b : Nat} {old ob : Obj} (hi : M[i]? = some (b, old)) : Mem w0 (M.set i (b, ob)) { w with heap := w.heap.setIfInBounds b ob } := by
  have hlt : i < M.length := (List.getElem?_eq_some_iff.1 hi).1
  have hval : M[i] = (b, old) := (List.getElem?_eq_some_iff.1 hi).2
  have hm : (b, old) ∈ M := List.mem_of_getElem? hi
  have hmap : (M.set i (b, ob)).map Prod.fst = M.map Prod.fst := by
    rw [List.map_set]
    apply List.ext_getElem?
    intro j
    rw [List.getElem?_set]
    split
    · rename_i e
      subst e
      rw [if_pos (by simpa using hlt), List.getElem?_map, hi]
      rfl
    · rfl
  have hp' : (M.map Prod.fst).Pairwise (· ≠ ·) := List.pairwise_map.2 h.nod
  refine ⟨below_setObj h.below (h.low _ hm) ob, fun p hp => ?_, ?_, fun p hp => ?_⟩
  · rcases List.mem_or_eq_of_mem_set hp with hp | rfl
    · exact h.low p hp
    · exact h.low (b, old) hm
  · exact List.pairwise_map.1 (by rw [hmap]; exact hp')
  · obtain ⟨j, hj⟩ := List.getElem?_of_mem hp
    rw [List.getElem?_set] at hj
    show (w.heap.setIfInBounds b ob)[p.1]? = _
    by_cases e : i = j
    · subst e
      rw [if_pos rfl, if_pos hlt] at hj
      cases hj
      exact (heap_set (h.get i hi)).1
    · rw [if_neg e] at hj
      have hpM : p ∈ M := List.mem_of_getElem? hj
      have hne : p.1 ≠ b := by
        have hn := List.pairwise_iff_getElem.1 h.nod
        have hjl : j < M.length := (List.getElem?_eq_some_iff.1 hj).1
        have hjv : M[j] = p := (List.getElem?_eq_some_iff.1 hj).2
        rcases Nat.lt_or_gt_of_ne e with h1 | h1
        · have := hn i j hlt hjl h1
          rw [hval, hjv] at this
          exact fun e => this e.symm
        · have := hn j i hjl hlt h1
          rw [hval, hjv] at this
          exact this
      rw [(heap_set (h.get i hi)).2 p.1 hne]
      exact h.at_ p hpM
theorem Mem.perm {M' : List Blk} (h : Mem w0 M w) (hp : M'.Perm M) : Mem w0 M' w :=
  ⟨h.below, fun p hq => h.low p (hp.mem_iff.1 hq), (hp.pairwise_iff (R := fun p q : Blk => p.1 ≠ q.1) (fun {a b} (hab : a.1 ≠ b.1) => hab.symm)).2 h.nod, fun p hq => h.at_ p (hp.mem_iff.1 hq)⟩
/-- What a look-up answers. -/
def lookR (z : Value) : Option (Nat × Value) → Value × Bool
  | some (_, x) => (x, true)
  | none => (z, false)
theorem run_look {t k e : TypeId} {d : TypeDesc} (ht : P.underlying t = some (.map k e)) (hd : P.underlying k = some d) {b : Nat} {es : Array MapEntry} {ck : Nat} (hb : w.heap[b]? = some (.map es ck)) {key : Value} (hk : IsKey d key) {z : Value} (hz : (zeroValue e).run P w = .ok z w) {r : Option (Nat × Value)} (hf : Instr.findNow d key es.toList 0 = some r) (c : Bool) :
    (Instr.lookup t (.map (some b)) key c).run P w = .ok (if c then .tuple #[(lookR z r).1, .bool (lookR z r).2] else (lookR z r).1) w := by
  rcases r with _ | ⟨i, x⟩ <;> cases c <;> simp [Instr.lookup, run_underlying ht, MapKept.run_getObj_map hb, MapKept.run_checkKey hd hk, MapKept.run_findKey hd hf, hz, Result.andThen, lookR]
theorem run_look_of {t k e : TypeId} {d : TypeDesc} {x y : Operand} {c : Bool} (ho : o.op = .lookup t x y c) {b : Nat} (hx : A.eval x = .map (some b)) {key : Value} (hy : A.eval y = key) (ht : P.underlying t = some (.map k e)) (hd : P.underlying k = some d) {es : Array MapEntry} {ck : Nat} (hb : w.heap[b]? = some (.map es ck)) (hk : IsKey d key) {z : Value} (hz : (zeroValue e).run P w = .ok z w) {r : Option (Nat × Value)} (hf : Instr.findNow d key es.toList 0 = some r) {v : Value} (hv : v = if c then .tuple #[(lookR z r).1, .bool (lookR z r).2] else (lookR z r).1) :
    (execOp A.eval o).run P w = .ok (.value v) w := by
  subst hv
  unfold execOp
  simp only [ho, hx, hy, Sem.run_bind, run_look ht hd hb hk hz hf c, Result.andThen_ok]
  rfl
theorem run_mkmap_of {t : TypeId} (ho : o.op = .makeMap t none) (W : World) : (execOp A.eval o).run P W = .ok (.value (.map (some W.heap.size))) (W.alloc (.map #[] 0)) := by
  unfold execOp
  simp only [ho]
  rfl
theorem run_update_new {t k e : TypeId} {d : TypeDesc} (ht : P.underlying t = some (.map k e)) (hd : P.underlying k = some d) {b : Nat} {es : Array MapEntry} {ck : Nat} (hb : w.heap[b]? = some (.map es ck)) {key val : Value} (hk : IsKey d key) (hf : Instr.findNow d key es.toList 0 = some none) :
    (Instr.mapUpdate t (.map (some b)) key val).run P w = .ok () { w with heap := w.heap.setIfInBounds b (.map (es.push ⟨key, val, ck⟩) (ck + 1)) } := by
  simp [Instr.mapUpdate, run_underlying ht, MapKept.run_getObj_map hb, MapKept.run_checkKey hd hk, MapKept.run_findKey hd hf, MapKept.run_setObj_map _ hb, Result.andThen]
theorem run_update_old {t k e : TypeId} {d : TypeDesc} (ht : P.underlying t = some (.map k e)) (hd : P.underlying k = some d) {b : Nat} {es : Array MapEntry} {ck : Nat} (hb : w.heap[b]? = some (.map es ck)) {key val : Value} (hk : IsKey d key) {i : Nat} {x : Value} (hf : Instr.findNow d key es.toList 0 = some (some (i, x))) (hi : (es[i]?).map (·.key) = some key) :
    (Instr.mapUpdate t (.map (some b)) key val).run P w = .ok () { w with heap := w.heap.setIfInBounds b (.map (es.modify i fun e => { e with key := key, val := val }) ck) } := by
  have hg : ((es[i]?).map (·.key)).getD key = key := by rw [hi]; rfl
  simp [Instr.mapUpdate, run_underlying ht, MapKept.run_getObj_map hb, MapKept.run_checkKey hd hk, MapKept.run_findKey hd hf, hg, MapKept.run_keyThatStays hk, MapKept.run_setObj_map _ hb, Result.andThen]
variable {ops : Array Oper} {Q : Exit → Act → World → Prop} {rest : List Oper}
/-- A new key. -/
theorem wp_ins (hM : Mem w0 M w) (i : Nat) {K : Act → World → Prop} {t k e : TypeId} {d : TypeDesc} {m x y : Operand} {b : Nat} {es es' : Array MapEntry} {ck ck' : Nat} {key val : Value} (ho : o.op = .insert t m x y ∨ o.op = .mapUpdate t m x y) (hm : A.eval m = .map (some b)) (hx : A.eval x = key) (hy : A.eval y = val) (hi : M[i]? = some (b, .map es ck)) (ht : P.underlying t = some (.map k e)) (hd : P.underlying k = some d) (hk : IsKey d key) (hf : Instr.findNow d key es.toList 0 = some none) (he : es.push ⟨key, val, ck⟩ = es') (hck : ck + 1 = ck')
    (hr : ∀ W, Mem w0 (M.set i (b, .map es' ck')) W → K (A.put o.dst undef) W) : o.wp P A w K Q := by
  subst he hck
  have hrun := run_update_new ht hd (hM.get i hi) (val := val) hk hf
  unfold Oper.wp execOp
  rcases ho with ho | ho <;> simp only [ho, hm, hx, hy, Sem.run_bind, hrun, Result.andThen_ok] <;> exact hr _ (hM.setO i hi)
theorem wl_ins (hM : Mem w0 M w) (i : Nat) {t k e : TypeId} {d : TypeDesc} {m x y : Operand} {b : Nat} {es es' : Array MapEntry} {ck ck' : Nat} {key val : Value} (ho : o.op = .insert t m x y ∨ o.op = .mapUpdate t m x y) (hm : A.eval m = .map (some b)) (hx : A.eval x = key) (hy : A.eval y = val) (hi : M[i]? = some (b, .map es ck)) (ht : P.underlying t = some (.map k e)) (hd : P.underlying k = some d) (hk : IsKey d key) (hf : Instr.findNow d key es.toList 0 = some none) (he : es.push ⟨key, val, ck⟩ = es') (hck : ck + 1 = ck')
    (hgd : o.guard = none) (hds : o.dst = none) (hr : ∀ W, Mem w0 (M.set i (b, .map es' ck')) W → wpList P ops Q rest A W) : wpList P ops Q (o :: rest) A w :=
  wpList_plain hgd fun _ hK => wp_ins hM i ho hm hx hy hi ht hd hk hf he hck fun W hW => by
    rw [hds]
    exact hK _ _ (hr W hW)
end
theorem isKey_string (s : ByteArray) : IsKey .string (.string s) := trivial
theorem isKey_int (z : Int) : IsKey (.int .i64) (.int .i64 z) := rfl
end Go.Proofs.YtcadklhjhjbhaaaDoor
