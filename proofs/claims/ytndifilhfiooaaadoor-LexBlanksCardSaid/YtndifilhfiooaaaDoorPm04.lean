/- Blocks that are known as whole rows: loads, stores, calls and what is made, an operation each; for regions that draw their order and for those that don't. No program in it. A region that draws its order and reads alone, and whose last operation is a call that panics. No program in it. esc (layer 4): the reader's block, must, take. esc (layer 4): four digits. Blocks of one cell, and one cell of a row: loads and stores, for XRow's rules. No program in it. Parts of rows: a store behind a row's begin, a row that grows by append, what a row's tail forgets. No program in it. append onto a slice of the call's own, in texts of whole rows. No program in it. Maps that a call has made, among blocks that are known whole; parts of rows at their begin. No program in it. esc (layer 4): the maps of short escapes. -/
import Derived.Laws.Tables
import Derived.Laws.CopyOwn
import Derived.Laws.Rows
import Derived.Shelf.Abstract
import Derived.Deep.DeepCutAuto
import Derived.BigQuiet
import Derived.Great.BuildSlice
import Derived.Laws.CopyRow
import Derived.Laws.AppendOwn
import Derived.Maps.AppendAt
import Derived.MapKept
import Derived.Maps.RangeRun
import Derived.Test.YtndifilhfiooaaaDoorPm03
import Derived.Test.YtndifilhfiooaaaDoorPm02
namespace Go.Proofs.YtndifilhfiooaaaDoor
set_option maxRecDepth 20000
set_option linter.unusedSimpArgs false
set_option linter.unusedVariables false
open Go.RowKit Go.Sort
abbrev Blk := Nat × Obj
/-- What is known of the blocks that a call has made: their addresses differ, what lay before is as it was. -/
structure Mem (w0 : World) (M : List Blk) (w : World) : Prop where
  below : Below w0.heap.size w0 w
  low : ∀ p ∈ M, w0.heap.size ≤ p.1
  nod : M.Pairwise (fun p q => p.1 ≠ q.1)
  at_ : ∀ p ∈ M, w.heap[p.1]? = some p.2
section
variable {w0 w w' : World} {M : List Blk}
theorem Mem.start (w : World) : Mem w [] w := ⟨Below.refl _ _, by simp, .nil, by simp⟩
theorem Mem.get (h : Mem w0 M w) (i : Nat) {b : Nat} {o : Obj} (hi : M[i]? = some (b, o)) : w.heap[b]? = some o := h.at_ (b, o) (List.mem_of_getElem? hi)
theorem Mem.calls (h : Mem w0 M w) (hb : Below w.heap.size w w') : Mem w0 M w' :=
  ⟨h.below.trans (hb.mono h.below.size), h.low, h.nod, fun p hp => by
    have hg := h.at_ p hp
    rw [hb.block p.1 (Array.getElem?_eq_some_iff.1 hg).1]
    exact hg⟩
theorem Mem.old (h : Mem w0 M w) {b : Nat} {o : Obj} (hb : w0.heap[b]? = some o) : w.heap[b]? = some o := by
  rw [h.below.block b (Array.getElem?_eq_some_iff.1 hb).1]
  exact hb
theorem Mem.lt (h : Mem w0 M w) {p : Blk} (hp : p ∈ M) : p.1 < w.heap.size := (Array.getElem?_eq_some_iff.1 (h.at_ p hp)).1
theorem Mem.news (h : Mem w0 M w) (hb : Below w.heap.size w w') (L : List Blk) (hL : ∀ p ∈ L, w.heap.size ≤ p.1 ∧ w'.heap[p.1]? = some p.2) (hn : L.Pairwise (fun p q => p.1 ≠ q.1)) : Mem w0 (L ++ M) w' := by
  have hk := h.calls hb
  refine ⟨hk.below, fun p hp => ?_, ?_, fun p hp => ?_⟩
  · rcases List.mem_append.1 hp with hp | hp
    · exact Nat.le_trans h.below.size (hL p hp).1
    · exact h.low p hp
  · refine List.pairwise_append.2 ⟨hn, h.nod, fun p hp q hq e => ?_⟩
    have h1 := (hL p hp).1
    have h2 := h.lt hq
    omega
  · rcases List.mem_append.1 hp with hp | hp
    · exact (hL p hp).2
    · exact hk.at_ p hp
theorem Mem.new1 (h : Mem w0 M w) (o : Obj) : Mem w0 ((w.heap.size, o) :: M) (w.alloc o) :=
  h.news (mk_at w o).2 [(w.heap.size, o)] (fun p hp => by
    rcases List.mem_singleton.1 hp with rfl
    exact ⟨Nat.le_refl _, (mk_at w o).1⟩) (by simp)
theorem Mem.news1 (h : Mem w0 M w) (hb : Below w.heap.size w w') {b1 : Nat} {o1 : Obj} (l1 : w.heap.size ≤ b1) (g1 : w'.heap[b1]? = some o1) : Mem w0 ((b1, o1) :: M) w' :=
  h.news hb [(b1, o1)] (fun p hp => by
    rcases List.mem_singleton.1 hp with rfl
    exact ⟨l1, g1⟩) (by simp)
theorem Mem.set (h : Mem w0 M w) (i : Nat) {b : Nat} {old cs : Array Value} {t : TypeId} {fr : Nat × Nat} (hi : M[i]? = some (b, .cells old t fr)) : Mem w0 (M.set i (b, .cells cs t fr)) (w.setRow b cs) := by
  have hlt : i < M.length := (List.getElem?_eq_some_iff.1 hi).1
  have hval : M[i] = (b, .cells old t fr) := (List.getElem?_eq_some_iff.1 hi).2
  have hm : (b, Obj.cells old t fr) ∈ M := List.mem_of_getElem? hi
  have hmap : (M.set i (b, .cells cs t fr)).map Prod.fst = M.map Prod.fst := by
    rw [List.map_set]
    apply List.ext_getElem?
    intro j
    rw [List.getElem?_set]
    split
    · rename_i e
      subst e
      rw [if_pos (by simpa using hlt), List.getElem?_map, hi]
      rfl
    · rfl
  have hp' : (M.map Prod.fst).Pairwise (· ≠ ·) := List.pairwise_map.2 h.nod
  refine ⟨below_setRow h.below (h.low _ hm) cs, fun p hp => ?_, ?_, fun p hp => ?_⟩
  · rcases List.mem_or_eq_of_mem_set hp with hp | rfl
    · exact h.low p hp
    · exact h.low (b, .cells old t fr) hm
  · exact List.pairwise_map.1 (by rw [hmap]; exact hp')
  · obtain ⟨j, hj⟩ := List.getElem?_of_mem hp
    rw [List.getElem?_set] at hj
    by_cases e : i = j
    · subst e
      rw [if_pos rfl, if_pos hlt] at hj
      cases hj
      exact setRow_heap w b old cs t fr (h.get i hi)
    · rw [if_neg e] at hj
      have hpM : p ∈ M := List.mem_of_getElem? hj
      have hne : p.1 ≠ b := by
        have hn := List.pairwise_iff_getElem.1 h.nod
        have hjl : j < M.length := (List.getElem?_eq_some_iff.1 hj).1
        have hjv : M[j] = p := (List.getElem?_eq_some_iff.1 hj).2
        rcases Nat.lt_or_gt_of_ne e with h1 | h1
        · have := hn i j hlt hjl h1
          rw [hval, hjv] at this
          exact fun e => this e.symm
        · have := hn j i hjl hlt h1
          rw [hval, hjv] at this
          exact this
      rw [setRow_other w b p.1 cs hne]
      exact h.at_ p hpM
end
/-- A type whose values lie in n cells, as a row. -/
def RowTy (P : Program) (ty : TypeId) (n : Nat) : Prop := ((∃ fs, P.underlying ty = some (.struct fs)) ∨ ∃ l e, P.underlying ty = some (.array l e)) ∧ (P.info? ty).map (·.size) = some n
theorem Mem.load {P : Program} {w0 w : World} {M : List Blk} (h : Mem w0 M w) (i : Nat) {b : Nat} {cs : Array Value} {t : TypeId} {fr : Nat × Nat} (hi : M[i]? = some (b, .cells cs t fr)) {ty : TypeId} (hT : RowTy P ty cs.size) : (loadVar ty ⟨b, 0, none⟩).run P w = .ok (.agg cs) w := by
  rcases hT with ⟨⟨fs, h1⟩ | ⟨l, e, h1⟩, h3⟩
  · exact run_loadVar_row w b t ty cs fr _ (h.get i hi) h1 rfl h3
  · exact run_loadVar_row w b t ty cs fr _ (h.get i hi) h1 rfl h3
theorem load_of {P : Program} {w : World} {b : Nat} {cs : Array Value} {t : TypeId} {fr : Nat × Nat} (hi : w.heap[b]? = some (.cells cs t fr)) {ty : TypeId} (hT : RowTy P ty cs.size) : (loadVar ty ⟨b, 0, none⟩).run P w = .ok (.agg cs) w := by
  rcases hT with ⟨⟨fs, h1⟩ | ⟨l, e, h1⟩, h3⟩
  · exact run_loadVar_row w b t ty cs fr _ hi h1 rfl h3
  · exact run_loadVar_row w b t ty cs fr _ hi h1 rfl h3
/-- Part of a row is loaded. -/
theorem load_part {P : Program} {w : World} {b off : Nat} {cs sub : Array Value} {t : TypeId} {fr : Nat × Nat} (hi : w.heap[b]? = some (.cells cs t fr)) (hs : (cs.toList.drop off).take sub.size = sub.toList) {ty : TypeId} (hT : RowTy P ty sub.size) : (loadVar ty ⟨b, off, none⟩).run P w = .ok (.agg sub) w := by
  have hl : (loadCells ⟨b, off, none⟩ sub.toList.length).run P w = .ok sub.toList.toArray w :=
    run_loadCells_list (P := P) w ⟨b, off, none⟩ sub.toList (fun j v hv => by
      have hadd : (⟨b, off, none⟩ : Addr).add j = ⟨b, off + j, none⟩ := by unfold Addr.add; split <;> simp_all
      rw [hadd, cell_of_row w b (off + j) cs t fr hi]
      rw [← hs] at hv
      have hj : j < sub.size := by
        have := (List.getElem?_eq_some_iff.1 hv).1
        rw [List.length_take] at this
        omega
      rw [List.getElem?_take_of_lt hj, List.getElem?_drop, Array.getElem?_toList] at hv
      exact hv)
  obtain ⟨hk, h3⟩ := hT
  cases hq : P.info? ty with
  | none => simp [hq] at h3
  | some i =>
    have hz : i.size = sub.size := by simpa [hq] using h3
    have hagg : (isAgg ty).run P w = .ok true w := by
      unfold isAgg
      rcases hk with ⟨fs, hu⟩ | ⟨l, e, hu⟩
      · rw [Sem.run_bind, run_underlying hu w]; rfl
      · rw [Sem.run_bind, run_underlying hu w]; rfl
    simp only [Array.length_toList, Array.toArray_toList] at hl
    simp [loadVar, Sem.run_bind, hagg, sizeOf, typeInfo, hq, hz, hl]
theorem run_load_part {P : Program} {o : Oper} {A : Act} {w : World} {ty : TypeId} {x : Operand} {b off : Nat} {t : TypeId} {cs sub : Array Value} {fr : Nat × Nat} (ho : o.op = .load ty x) (hx : A.eval x = .pointer (some ⟨b, off, none⟩)) (hg : w.heap[b]? = some (.cells cs t fr)) (hs : (cs.toList.drop off).take sub.size = sub.toList) (hT : RowTy P ty sub.size) :
    (execOp A.eval o).run P w = .ok (.value (.agg sub)) w := by
  unfold execOp
  simp only [ho, hx, Instr.loadAt, Instr.sureAddr, Sem.run_bind, Sem.run_pure, Result.andThen_ok, load_part hg hs hT]
theorem run_call_fn {P : Program} {o : Oper} {A : Act} {f : FuncId} {args : Array Operand} {tys : Array TypeId} {vals : Array Value} (W : World) (hE : Enters P f) (ho : o.op = .call { callee := .value (.func f), args := args, argTypes := tys }) (hv : args.map A.eval = vals) : (execOp A.eval o).run P W = .ok (.enter f vals) W := by
  have h := hE vals W
  unfold execOp
  simp [ho, resolve, Deferred.ofValue, Act.eval, invoke, hv, h]
section
variable {P : Program} {o : Oper} {A : Act} {t : TypeId} {v u : Value} {W W' : World} {x : Operand} {parts : Array (Nat × Operand)} {ps : Array (Nat × Value)}
theorem run_alloc_of (ho : o.op = .alloc t) (h : (Instr.alloc t true (.tuple #[])).run P W = .ok v W') : (execOp A.eval o).run P W = .ok (.value v) W' := by
  unfold execOp
  simp only [ho, Sem.run_bind, h, Result.andThen_ok]
  rfl
theorem run_box_of (ho : o.op = .box t x) (hx : A.eval x = u) (h : (Instr.box t u).run P W = .ok v W') : (execOp A.eval o).run P W = .ok (.value v) W' := by
  unfold execOp
  simp only [ho, hx, Sem.run_bind, h, Result.andThen_ok]
  rfl
theorem run_build_of (ho : o.op = .build t parts) (hp : (parts.map fun (i, x) => (i, A.eval x)) = ps) (h : (Instr.build t ps).run P W = .ok v W') : (execOp A.eval o).run P W = .ok (.value v) W' := by
  unfold execOp
  simp only [ho, hp, Sem.run_bind, h, Result.andThen_ok]
  rfl
theorem run_slice_of {n : Nat} (ho : o.op = .buildSlice t n parts) (hp : (parts.map fun (i, x) => (i, A.eval x)) = ps) (h : (Instr.buildSlice t n ps).run P W = .ok v W') : (execOp A.eval o).run P W = .ok (.value v) W' := by
  unfold execOp
  simp only [ho, hp, Sem.run_bind, h, Result.andThen_ok]
  rfl
theorem run_field_of {i : Nat} (ho : o.op = .fieldAddr t x i) (hx : A.eval x = u) (h : (Instr.fieldAt t u i).run P W = .ok v W') : (execOp A.eval o).run P W = .ok (.value v) W' := by
  unfold execOp
  simp only [ho, hx, Sem.run_bind, h, Result.andThen_ok]
  rfl
theorem run_index_of {y : Operand} {z : Value} (ho : o.op = .indexAddr t x y) (hx : A.eval x = u) (hy : A.eval y = z) (h : (Instr.indexAt t u z).run P W = .ok v W') : (execOp A.eval o).run P W = .ok (.value v) W' := by
  unfold execOp
  simp only [ho, hx, hy, Sem.run_bind, h, Result.andThen_ok]
  rfl
theorem run_bin_of {op : BinOp} {y : Operand} {z : Value} {t' : TypeId} (ho : o.op = .binOp op t x y t') (hx : A.eval x = u) (hy : A.eval y = z) (h : (do eqGuard op t x y u z; binOp op t u z : Sem Value).run P W = .ok v W') : (execOp A.eval o).run P W = .ok (.value v) W' := by
  unfold execOp
  simp only [ho, hx, hy]
  rw [Sem.run_bind, h]
  rfl
end
theorem run_load_row {P : Program} {o : Oper} {A : Act} {w : World} {ty : TypeId} {x : Operand} {b : Nat} {t : TypeId} {cs : Array Value} {fr : Nat × Nat} (ho : o.op = .load ty x) (hx : A.eval x = .pointer (some ⟨b, 0, none⟩)) (hg : w.heap[b]? = some (.cells cs t fr)) (hT : RowTy P ty cs.size) :
    (execOp A.eval o).run P w = .ok (.value (.agg cs)) w := by
  unfold execOp
  simp only [ho, hx, Instr.loadAt, Instr.sureAddr, Sem.run_bind, Sem.run_pure, Result.andThen_ok, load_of hg hT]
section
variable {P : Program} {ops : Array Oper} {w0 w00 : World} {Q : Act → World → Prop} {o : Oper} {rest : List Oper} {k : Nat} {A : Act} {Ps : List PkW} {ns : List Nat} {M : List Blk}
/-- .. what hangs on no block. -/
theorem inw_pure {v : Value} (h : ∀ W, (execOp A.eval o).run P W = .ok (.value v) W)
    (hf : Ps.filter (waits ops o) = []) (hw : Region.wanted o (yielded ops A.tmps) = true) (hr : wpInw P ops w0 Q rest (k + 1) (A.put o.dst v) Ps ns) : wpInw P ops w0 Q (o :: rest) k A Ps ns :=
  inw_val hf hw (fun _ _ => h _) hr
/-- .. a call. -/
theorem inw_callV {f : FuncId} {args : Array Value} {v : Value} (h : ∀ W, (execOp A.eval o).run P W = .ok (.enter f args) W)
    (hc : ∀ W, Below w0.heap.size w0 W → Calls P f args W fun e w' => e = .returned v ∧ Below W.heap.size W w')
    (hf : Ps.filter (waits ops o) = []) (hw : Region.wanted o (yielded ops A.tmps) = true) (hr : wpInw P ops w0 Q rest (k + 1) (A.put o.dst v) Ps ns) : wpInw P ops w0 Q (o :: rest) k A Ps ns :=
  inw_call hf hw (fun _ _ => h _) (fun d os => hc _ (below_regrown w0 d os)) hr
/-- The end: what was made, one after the other. -/
theorem inw_fin (h : ∀ d os, Given ops (grow (redrawn w0 d) os) Ps A (fun A => Apart ops ns A → Q A (grow (redrawn w0 d) os))) : wpInw P ops w0 Q [] k A Ps ns := h
end
theorem given_new {ops : Array Oper} {w : World} {A : Act} {K : Act → Prop} {j : Nat} {t : Tmp} {B : Nat} {ob : Obj} {ps : List PkW} (hd : dstOf ops j = some t) (h : ∀ b, B ≤ b → w.heap[b]? = some ob → Given ops w ps (A.put (some t) (.pointer (some ⟨b, 0, none⟩))) K) : Given ops w ((j, fun u w' => ∃ b, u = .pointer (some ⟨b, 0, none⟩) ∧ B ≤ b ∧ w'.heap[b]? = some ob) :: ps) A K := by
  rintro u ⟨b, rfl, hB, hb⟩
  show Given ops w ps (A.put (dstOf ops j) (.pointer (some ⟨b, 0, none⟩))) K
  rw [hd]
  exact h b hB hb
theorem given_nil {ops : Array Oper} {w : World} {A : Act} {K : Act → Prop} (h : K A) : Given ops w [] A K := h
section
variable {P : Program} {ops : Array Oper} {w w0 : World} {Q : Exit → Act → World → Prop} {o : Oper} {rest : List Oper} {A : Act} {M : List Blk}
/-- In a region of the text's order. -/
theorem wl_row (hM : Mem w0 M w) (i : Nat) {ty : TypeId} {x : Operand} {b : Nat} {t : TypeId} {cs : Array Value} {fr : Nat × Nat} {v : Value} (ho : o.op = .load ty x) (hx : A.eval x = .pointer (some ⟨b, 0, none⟩)) (hi : M[i]? = some (b, .cells cs t fr)) (hv : v = .agg cs) (hT : RowTy P ty cs.size)
    (hgd : Region.wanted o (yielded ops A.tmps) = true) (hr : wpList P ops Q rest (A.put o.dst v) w) : wpList P ops Q (o :: rest) A w := by
  subst hv
  refine wpList_step fun K hK => ?_
  rw [if_pos hgd]
  unfold Oper.wp
  rw [run_load_row ho hx (hM.get i hi) hT]
  exact hK _ _ hr
theorem wl_far {ty : TypeId} {x : Operand} {b off : Nat} {t : TypeId} {cs sub : Array Value} {fr : Nat × Nat} {v : Value} (hg : w.heap[b]? = some (.cells cs t fr)) (ho : o.op = .load ty x) (hx : A.eval x = .pointer (some ⟨b, off, none⟩)) (hv : v = .agg sub) (hs : (cs.toList.drop off).take sub.size = sub.toList) (hT : RowTy P ty sub.size)
    (hgd : Region.wanted o (yielded ops A.tmps) = true) (hr : wpList P ops Q rest (A.put o.dst v) w) : wpList P ops Q (o :: rest) A w := by
  subst hv
  refine wpList_step fun K hK => ?_
  rw [if_pos hgd]
  unfold Oper.wp
  rw [run_load_part ho hx hg hs hT]
  exact hK _ _ hr
theorem wl_pure {v : Value} (h : ∀ W, (execOp A.eval o).run P W = .ok (.value v) W) (hgd : Region.wanted o (yielded ops A.tmps) = true) (hr : wpList P ops Q rest (A.put o.dst v) w) : wpList P ops Q (o :: rest) A w := by
  refine wpList_step fun K hK => ?_
  rw [if_pos hgd]
  unfold Oper.wp
  rw [h]
  exact hK _ _ hr
theorem wl_new (hM : Mem w0 M w) {f : Nat → Value} {ob : Obj} (h : ∀ W, (execOp A.eval o).run P W = .ok (.value (f W.heap.size)) (W.alloc ob)) (hgd : Region.wanted o (yielded ops A.tmps) = true) (hr : ∀ b W, Mem w0 ((b, ob) :: M) W → wpList P ops Q rest (A.put o.dst (f b)) W) : wpList P ops Q (o :: rest) A w := by
  refine wpList_step fun K hK => ?_
  rw [if_pos hgd]
  unfold Oper.wp
  rw [h]
  exact hK _ _ (hr _ _ (hM.new1 ob))
theorem wl_call (hM : Mem w0 M w) {f : FuncId} {args : Array Value} {v : Value} (h : ∀ W, (execOp A.eval o).run P W = .ok (.enter f args) W) (hc : Calls P f args w fun e w' => e = .returned v ∧ Below w.heap.size w w') (hgd : Region.wanted o (yielded ops A.tmps) = true) (hr : ∀ W, Mem w0 M W → wpList P ops Q rest (A.put o.dst v) W) : wpList P ops Q (o :: rest) A w := by
  refine wpList_step fun K hK => ?_
  rw [if_pos hgd]
  unfold Oper.wp
  rw [h]
  exact hc.mono fun e w' he => by
    obtain ⟨rfl, hb⟩ := he
    exact hK _ _ (hr _ (hM.calls hb))
theorem wp_set (hM : Mem w0 M w) (i : Nat) {K : Act → World → Prop} {ty : TypeId} {x y : Operand} {b : Nat} {t : TypeId} {old cs : Array Value} (ho : o.op = .store ty x y) (hx : A.eval x = .pointer (some ⟨b, 0, none⟩)) (hy : A.eval y = .agg cs) (hi : M[i]? = some (b, .cells old t (0, 0))) (hT : RowTy P ty cs.size) (hs : old.size = cs.size) (h1 : cs.all (·.oneCell') = true)
    (hr : ∀ W, Mem w0 (M.set i (b, .cells cs t (0, 0))) W → K (A.put o.dst undef) W) : o.wp P A w K Q := by
  obtain ⟨_, h3⟩ := hT
  exact wp_store_row ty x y ho b cs hx hy t old (hM.get i hi) h3 hs h1 (hr _ (hM.set i hi))
theorem wl_set (hM : Mem w0 M w) (i : Nat) {ty : TypeId} {x y : Operand} {b : Nat} {t : TypeId} {old cs : Array Value} (ho : o.op = .store ty x y) (hx : A.eval x = .pointer (some ⟨b, 0, none⟩)) (hy : A.eval y = .agg cs) (hi : M[i]? = some (b, .cells old t (0, 0))) (hT : RowTy P ty cs.size) (hs : old.size = cs.size) (h1 : cs.all (·.oneCell') = true)
    (hgd : o.guard = none) (hd : o.dst = none) (hr : ∀ W, Mem w0 (M.set i (b, .cells cs t (0, 0))) W → wpList P ops Q rest A W) : wpList P ops Q (o :: rest) A w :=
  wpList_plain hgd fun _ hK => wp_set hM i ho hx hy hi hT hs h1 fun W hW => by
    rw [hd]
    exact hK _ _ (hr W hW)
end
section
variable {P : Program} {ops : Array Oper} {w w0 : World} {Q : Exit → Act → World → Prop} {o : Oper} {A : Act} {M : List Blk} {md : Region.Mode} {fuel : Nat} {listed : Array Bool}
/-- Behind a drawn region's first operations: a store, all others being behind it. -/
theorem any_set {n : Nat} (hr : Region.ready md ops listed = [n]) (hn : ops[n]? = some o) (hM : Mem w0 M w) (i : Nat) {ty : TypeId} {x y : Operand} {b : Nat} {t : TypeId} {old cs : Array Value} (ho : o.op = .store ty x y) (hx : A.eval x = .pointer (some ⟨b, 0, none⟩)) (hy : A.eval y = .agg cs) (hi : M[i]? = some (b, .cells old t (0, 0))) (hT : RowTy P ty cs.size) (hs : old.size = cs.size) (h1 : cs.all (·.oneCell') = true)
    (hgd : o.guard = none) (hd : o.dst = none) (hk : ∀ W, Mem w0 (M.set i (b, .cells cs t (0, 0))) W → wpAny P md ops Q fuel (listed.setIfInBounds n true) A W) : wpAny P md ops Q (fuel + 1) listed A w :=
  any_one hr hn fun K hK => by
    rw [if_pos (by simp [Region.wanted, hgd])]
    refine wp_set hM i ho hx hy hi hT hs h1 fun W hW => ?_
    rw [hd]
    exact hK _ _ (hk W hW)
theorem any_pure {n : Nat} {v : Value} {t : Tmp} (hr : Region.ready md ops listed = [n]) (hn : ops[n]? = some o) (h : ∀ W, (execOp A.eval o).run P W = .ok (.value v) W) (hgd : o.guard = none) (hd : o.dst = some t) (hk : wpAny P md ops Q fuel (listed.setIfInBounds n true) (A.put (some t) v) w) : wpAny P md ops Q (fuel + 1) listed A w :=
  any_one hr hn fun K hK => by
    rw [← hd] at hk
    rw [if_pos (by simp [Region.wanted, hgd])]
    unfold Oper.wp
    rw [h]
    exact hK _ _ hk
end
theorem Mem.drew {w0 w : World} {M : List Blk} (h : Mem w0 M w) : Mem w0 M w.drew := h.calls ⟨rfl, rfl, rfl, Nat.le_refl _, fun _ _ => rfl⟩
section
variable {P : Program} {ops : Array Oper} {w w0 : World} {Q : Exit → Act → World → Prop} {o : Oper} {A : Act} {M : List Blk} {md : Region.Mode} {fuel : Nat} {listed : Array Bool} {S : World → Prop}
end
end Go.Proofs.YtndifilhfiooaaaDoor
namespace Go.Proofs.YtndifilhfiooaaaDoor
set_option maxRecDepth 20000
set_option linter.unusedSimpArgs false
set_option linter.unusedVariables false
open Go.RowKit Go.Sort
theorem inw_panic {P : Program} {Q : Exit → Act → World → Prop} {l : List Oper} {n k : Nat} {w0 : World} {A : Act} {o : Oper} {f : FuncId} {args : Array Value} {ch : List PanicEntry} (hr : Region.ready .any l.toArray (headUp l.toArray n) = [n]) (ho : l.toArray[n]? = some o) (hw : Region.wanted o (yielded l.toArray A.tmps) = true) (hz : l.length - n = 1)
    (h : ∀ W, (execOp A.eval o).run P W = .ok (.enter f args) W) (hc : ∀ W, Calls P f args W fun e w' => e = .panicked ch ∧ w' = W) (hk : ∀ W, Below w0.heap.size w0 W → Q (.panic ch) A W) :
    wpInw P l.toArray w0 (fun A w' => wpAny P .any l.toArray Q (l.length - n) (headUp l.toArray n) A w') [] k A [] [] :=
  inw_end (Q := fun A w' => wpAny P .any l.toArray Q (l.length - n) (headUp l.toArray n) A w') fun d os => by
    rw [hz]
    refine any_one hr ho fun K hK => ?_
    rw [if_pos hw]
    unfold Oper.wp
    rw [h]
    exact (hc _).mono fun e w' he => by
      obtain ⟨rfl, rfl⟩ := he
      exact hk _ (below_regrown w0 d os)
end Go.Proofs.YtndifilhfiooaaaDoor
namespace Go.Proofs.YtndifilhfiooaaaDoor
set_option maxRecDepth 20000
set_option linter.unusedSimpArgs false
set_option linter.unusedVariables false
open Go.RowKit Go.Lib Go.Shelf
attribute [local go_sem] Oper.semAt_some
abbrev RdT : TypeId := 84
/-- A reader: its text, its place, its map. -/
def rdB (t : ByteArray) (a : Nat) (sh : Value) : Obj := .cells #[.string t, .int .i64 (a : Int), sh] RdT (0, 0)
/-- What giving up brings. -/
def pch (n : Int) : List PanicEntry := [{ v := .iface 80 (.agg #[.int .i64 n]), recovered := false }]
/-- All blocks but one are as they were. -/
structure Oth (b : Nat) (w w' : World) : Prop where
  os : w'.os = w.os
  tape : w'.tape = w.tape
  output : w'.output = w.output
  size : w.heap.size ≤ w'.heap.size
  block : ∀ k, k < w.heap.size → k ≠ b → w'.heap[k]? = w.heap[k]?
theorem Oth.refl (b : Nat) (w : World) : Oth b w w := ⟨rfl, rfl, rfl, Nat.le_refl _, fun _ _ _ => rfl⟩
theorem Oth.trans {b : Nat} {u v w : World} (h : Oth b u v) (k : Oth b v w) : Oth b u w :=
  ⟨k.os.trans h.os, k.tape.trans h.tape, k.output.trans h.output, Nat.le_trans h.size k.size, fun i hi hb => (k.block i (Nat.lt_of_lt_of_le hi h.size) hb).trans (h.block i hi hb)⟩
theorem Oth.below {b : Nat} {v w : World} (h : Below v.heap.size v w) : Oth b v w := ⟨h.os, h.tape, h.output, h.size, fun i hi _ => h.block i hi⟩
theorem Oth.drewN {b : Nat} {u v : World} (h : Oth b u v) (q : Nat) : Oth b u (v.drewN q) := ⟨h.os, h.tape, h.output, h.size, h.block⟩
theorem Oth.setCell {b : Nat} {u v : World} (h : Oth b u v) (o : Nat) (x : Value) : Oth b u (v.setCell ⟨b, o, none⟩ x) :=
  ⟨h.os, h.tape, h.output, by simpa using h.size, fun k hk hb => (Below.heap_setCell v ⟨b, o, none⟩ x k (by simpa using hb)).trans (h.block k hk hb)⟩
theorem Oth.low {b n : Nat} {v w : World} (h : Oth b v w) (hn : n ≤ b) (hs : n ≤ v.heap.size) : Below n v w :=
  ⟨h.os, h.tape, h.output, h.size, fun k hk => h.block k (by omega) (by omega)⟩
section
variable {w : World} {b : Nat} {t : ByteArray} {a : Nat} {sh : Value}
theorem rd_cells (h : w.heap[b]? = some (rdB t a sh)) : w.cell? ⟨b, 0, none⟩ = some (.string t) ∧ w.cell? ⟨b, 1, none⟩ = some (.int .i64 (a : Int)) ∧ w.cell? ⟨b, 2, none⟩ = some sh := by
  refine ⟨?_, ?_, ?_⟩ <;> (rw [Lib.cell_of_heap h]; rfl)
theorem rd_frozen (h : w.heap[b]? = some (rdB t a sh)) (i : Nat) : w.frozen? ⟨b, i, none⟩ = false := Lib.frozen_of_heap h i
theorem rd_set (h : w.heap[b]? = some (rdB t a sh)) (a' : Nat) : (w.setCell ⟨b, 1, none⟩ (.int .i64 (a' : Int))).heap[b]? = some (rdB t a' sh) := by
  simp [World.setCell, Array.getElem?_modify, h, rdB]
theorem rd_setS (h : w.heap[b]? = some (rdB t a sh)) (v : Value) : (w.setCell ⟨b, 2, none⟩ v).heap[b]? = some (rdB t a v) := by
  simp [World.setCell, Array.getElem?_modify, h, rdB]
end
set_option maxRecDepth 100000 in
theorem must_yes (n : Int) (w : World) : Calls Tryd.prog 41 #[.bool true, .int .i64 n] w fun e w' => e = .returned (.tuple #[]) ∧ w' = w := by
  go_enter Tryd.func41, Tryd.ntmps41
  go_wp2
  go_end0
  exact ⟨rfl, rfl⟩
set_option maxRecDepth 100000 in
theorem must_no (n : Int) (w : World) : Calls Tryd.prog 41 #[.bool false, .int .i64 n] w fun e w' => e = .panicked (pch n) ∧ w' = w := by
  go_enter Tryd.func41, Tryd.ntmps41
  go_wp2
  exact ⟨rfl, rfl, rfl⟩
set_option maxRecDepth 100000 in
/-- take, where a byte stands. -/
theorem take_yes (t : ByteArray) (a b : Nat) (sh : Value) (w : World) (hb : w.heap[b]? = some (rdB t a sh)) (ht : t.size ≤ 100000) (ha : a < t.size) :
    Calls Tryd.prog 42 #[.pointer (some ⟨b, 0, none⟩)] w fun e w' => e = .returned (.int .u8 (t[a].toNat : Int)) ∧ w'.heap[b]? = some (rdB t (a + 1) sh) ∧ Oth b w w' := by
  obtain ⟨c0, c1, -⟩ := rd_cells hb
  have f1 := rd_frozen hb 1
  have q1 : (a : Int) < (t.size : Int) := by omega
  have q2 : IntKind.i64.wrap ((a : Int) + 1) = (a : Int) + 1 := by rw [IntKind.wrap_i64]; omega
  have KM := Lib.hid (fun w => must_yes 5 w)
  go_enter Tryd.func42, Tryd.ntmps42
  go_wp2_with (go_quiet ((go_at_call 41; exact Calls.quiet_of_same (KM.out _))))
  go_ret
  exact ⟨rfl, rd_set (w := w.drewN _) hb (a + 1), (((Oth.refl b w).drewN _).setCell 1 _).drewN _⟩
set_option maxRecDepth 100000 in
set_option maxHeartbeats 4000000 in
/-- take, behind the last byte. -/
theorem take_no (t : ByteArray) (a b : Nat) (sh : Value) (w : World) (hb : w.heap[b]? = some (rdB t a sh)) (ht : t.size ≤ 100000) (ha : t.size ≤ a) :
    Calls Tryd.prog 42 #[.pointer (some ⟨b, 0, none⟩)] w fun e w' => e = .panicked (pch 5) ∧ Oth b w w' := by
  obtain ⟨c0, c1, -⟩ := rd_cells hb
  have q1 : ¬ (a : Int) < (t.size : Int) := by omega
  have KM := Lib.hid (fun w => must_no 5 w)
  go_enter Tryd.func42, Tryd.ntmps42
  have d0 := fun d os => cell_regrown c0 d os
  have d1 := fun d os => cell_regrown c1 d os
  go_upto_region 1 with fail
  refine wp_region_inw 10 (by kernel_rfl) (by decide) (by kernel_rfl) (by kernel_rfl) ?_
  repeat (refine inw_val (v := ?_) (by rfl) (by rfl) (fun d os => ?_) ?_; rotate_left; (focus (go_simp; (try with_reducible rfl); done)); simp only [nm0, nm1, nm2, nm3])
  refine inw_panic (n := 10) (f := 41) ?hr rfl ?hw rfl (fun W => ?he) KM.out (fun W hW => ?hk)
  case hr => decide +kernel
  case hw => rfl
  case he => go_simp
  case hk =>
    go_wp2_with fail
    exact ⟨rfl, rfl, Oth.below hW⟩
end Go.Proofs.YtndifilhfiooaaaDoor
namespace Go.Proofs.YtndifilhfiooaaaDoor
set_option maxRecDepth 20000
set_option linter.unusedSimpArgs false
set_option linter.unusedVariables false
open Go.RowKit Go.Lib Go.Shelf
attribute [local go_sem] Oper.semAt_some
/-- A digit's number to the base 16. -/
def hexv (c : Nat) : Option Nat := if 48 ≤ c ∧ c ≤ 57 then some (c - 48) else if 97 ≤ c ∧ c ≤ 102 then some (c - 87) else if 65 ≤ c ∧ c ≤ 70 then some (c - 55) else none
def at_ (L : List UInt8) (a : Nat) : Nat := (L.getD a 0).toNat
/-- So many digits from a place on, behind a number. -/
def fourAt (L : List UInt8) : Nat → Nat → Nat → Except Nat Nat
  | 0, _, n => .ok n
  | k + 1, a, n => if L.length ≤ a then .error 5 else match hexv (at_ L a) with | none => .error 11 | some d => fourAt L k (a + 1) (16 * n + d)
def digL : List UInt8 := [48, 49, 50, 51, 52, 53, 54, 55, 56, 57, 97, 98, 99, 100, 101, 102]
def lowC (c : Nat) : Nat := if 65 ≤ c ∧ c ≤ 70 then c + 32 else c
def hexI (c : Nat) : Int := match hexv c with | some d => (d : Int) | none => -1
theorem idx_low : ∀ c : Fin 256, Lib.indexByte digL (lowC c.val : Int).toNat.toUInt8 = hexI c.val := by decide +kernel
theorem hexv_lt : ∀ {c d : Nat}, hexv c = some d → d < 16 := by
  intro c d h
  unfold hexv at h
  split at h
  · cases h; omega
  · split at h
    · cases h; omega
    · split at h
      · cases h; omega
      · cases h
theorem at_get {t : ByteArray} {a : Nat} (h : a < t.size) : ((t[a]'h).toNat : Int) = (at_ t.data.toList a : Int) := byte_of h
theorem at_lt (L : List UInt8) (a : Nat) : at_ L a < 256 := (L.getD a 0).toNat_lt
theorem len_of (t : ByteArray) : t.data.toList.length = t.size := (Lib.size_eq t).symm
/-- How reading four digits ends. -/
def OutF (t : ByteArray) (a b : Nat) (sh : Value) (e : Ending) (w' : World) : Except Nat Nat → Prop
  | .ok n => e = .returned (.int .i32 (n : Int)) ∧ w'.heap[b]? = some (rdB t (a + 4) sh) ∧ n < 65536 ∧ a + 4 ≤ t.size
  | .error m => e = .panicked (pch (m : Int))
set_option maxRecDepth 100000 in
set_option maxHeartbeats 4000000 in
theorem four_any (t : ByteArray) (a b : Nat) (sh : Value) (w : World) (hb : w.heap[b]? = some (rdB t a sh)) (ht : t.size ≤ 100000) (ha : a ≤ t.size) :
    Calls Tryd.prog 60 #[.pointer (some ⟨b, 0, none⟩)] w fun e w' => Oth b w w' ∧ OutF t a b sh e w' (fourAt t.data.toList 4 a 0) := by
  obtain ⟨R, hR⟩ : ∃ R, fourAt t.data.toList 4 a 0 = R := ⟨_, rfl⟩
  rw [hR]
  go_enter Tryd.func60, Tryd.ntmps60
  go_wp2_with fail
  go_loopw [3, 6] (fun n i wr => ∃ k N : Nat, k ≤ 4 ∧ i = .int .i64 (k : Int) ∧ n = .int .i32 (N : Int) ∧ N < 16 ^ k ∧ R = fourAt t.data.toList (4 - k) (a + k) N ∧ a + k ≤ t.size ∧ wr.heap[b]? = some (rdB t (a + k) sh) ∧ Oth b w wr) (fun _ i _ => 4 - (RowKit.intOf i).toNat)
  case atStart => exact ⟨0, 0, by omega, rfl, rfl, by decide, hR.symm, ha, hb, Oth.refl b w⟩
  case round =>
    obtain ⟨k, N, hk, rfl, rfl, hN, hRk, hak, hbk, hO⟩ := hrel
    by_cases h4 : k < 4
    · have p1 : (k : Int) < 4 := by omega
      obtain ⟨m, hm⟩ : ∃ m, 4 - k = m + 1 := ⟨3 - k, by omega⟩
      have hN2 : N < 65536 := Nat.lt_of_lt_of_le hN (Nat.le_trans (Nat.pow_le_pow_right (by decide) hk) (by decide))
      rw [hm, fourAt, len_of] at hRk
      by_cases hs : a + k < t.size
      · rw [if_neg (by omega)] at hRk
        have KT := Lib.hid (fun w h => take_yes t (a + k) b sh w h ht hs)
        rw [at_get hs] at KT
        obtain ⟨C, hC⟩ : ∃ C, at_ t.data.toList (a + k) = C := ⟨_, rfl⟩
        have hC2 : C < 256 := by rw [← hC]; exact at_lt _ _
        rw [hC] at KT hRk
        have hI := idx_low ⟨C, hC2⟩
        simp only at hI
        have KI := Lib.hid (fun w => Tryd.strings_IndexByte ⟨digL.toArray⟩ (lowC C : Int) w)
        rw [show (⟨digL.toArray⟩ : ByteArray).data.toList = digL from rfl, hI] at KI
        have KY := Lib.hid (fun w => must_yes 11 w)
        have KN := Lib.hid (fun w => must_no 11 w)
        have hOt := Lib.hid hO
        have HK := Lib.hid hbk
        have HR := Lib.hid hRk
        have HN := Lib.hid hN
        clear hI hC hR hb hO hbk hRk hN
        by_cases hU : 65 ≤ C ∧ C ≤ 70
        · have e1 : lowC C = C + 32 := by unfold lowC; rw [if_pos hU]
          rw [e1] at KI
          have q1 : (65 : Int) ≤ (C : Int) := by omega
          have q2 : (C : Int) ≤ 70 := by omega
          have q3 : IntKind.u8.wrap ((C : Int) + 32) = (C : Int) + 32 := IntWalk.u8_in _ (by omega)
          have q4 : hexv C = some (C - 55) := by unfold hexv; rw [if_neg (by omega), if_neg (by omega), if_pos hU]
          have q5 : hexI C = ((C - 55 : Nat) : Int) := by unfold hexI; rw [q4]
          rw [q4] at HR
          rw [q5] at KI
          obtain ⟨d, hd⟩ : ∃ d, C - 55 = d := ⟨_, rfl⟩
          have hd16 : d < 16 := by omega
          rw [hd] at KI HR
          simp only at HR
          have q6 : IntKind.i32.wrap (16 * (N : Int)) = 16 * (N : Int) := IntWalk.i32_in _ (by omega)
          have q7 : IntKind.i32.wrap (d : Int) = (d : Int) := IntWalk.i32_in _ (by omega)
          have q8 : IntKind.i32.wrap (16 * (N : Int) + (d : Int)) = 16 * (N : Int) + (d : Int) := IntWalk.i32_in _ (by omega)
          go_wp2_with fail
          refine (KT.out _ HK.out).mono ?_
          rintro e w1 ⟨rfl, hb1, ho1⟩
          go_wp2_with fail
          refine (KI.out _).mono ?_
          rintro e w2 ⟨rfl, rfl⟩
          go_wp2_with fail
          refine (KY.out _).mono ?_
          rintro e w3 ⟨rfl, rfl⟩
          go_wp2_with fail
          go_roundw
          case rel => exact ⟨k + 1, 16 * N + d, by omega, congrArg (Value.int .i64) (by omega), congrArg (Value.int .i32) (by omega), by have := HN.out; rw [Nat.pow_succ]; omega, by rw [HR.out, show 4 - (k + 1) = m by omega, Nat.add_assoc], by omega, by rw [← Nat.add_assoc]; exact hb1, hOt.out.trans ho1⟩
          case measure => simp [RowKit.intOf]; omega
        · have e1 : lowC C = C := by unfold lowC; rw [if_neg hU]
          rw [e1] at KI
          cases q4 : hexv C with
          | none =>
            have q5 : hexI C = -1 := by unfold hexI; rw [q4]
            rw [q4] at HR
            rw [q5] at KI
            simp only at HR
            by_cases q1 : (65 : Int) ≤ (C : Int)
            · have q2 : ¬ (C : Int) ≤ 70 := by omega
              go_wp2_with fail
              refine (KT.out _ HK.out).mono ?_
              rintro e w1 ⟨rfl, hb1, ho1⟩
              go_wp2_with fail
              refine (KI.out _).mono ?_
              rintro e w2 ⟨rfl, rfl⟩
              go_wp2_with fail
              refine (KN.out _).mono ?_
              rintro e w3 ⟨rfl, rfl⟩
              go_wp2_with fail
              exact ⟨rfl, hOt.out.trans ho1, by rw [HR.out]; exact rfl⟩
            · skip
              go_wp2_with fail
              refine (KT.out _ HK.out).mono ?_
              rintro e w1 ⟨rfl, hb1, ho1⟩
              go_wp2_with fail
              refine (KI.out _).mono ?_
              rintro e w2 ⟨rfl, rfl⟩
              go_wp2_with fail
              refine (KN.out _).mono ?_
              rintro e w3 ⟨rfl, rfl⟩
              go_wp2_with fail
              exact ⟨rfl, hOt.out.trans ho1, by rw [HR.out]; exact rfl⟩
          | some d =>
            have hd16 := hexv_lt q4
            have q5 : hexI C = (d : Int) := by unfold hexI; rw [q4]
            rw [q4] at HR
            rw [q5] at KI
            simp only at HR
            have q6 : IntKind.i32.wrap (16 * (N : Int)) = 16 * (N : Int) := IntWalk.i32_in _ (by omega)
            have q7 : IntKind.i32.wrap (d : Int) = (d : Int) := IntWalk.i32_in _ (by omega)
            have q8 : IntKind.i32.wrap (16 * (N : Int) + (d : Int)) = 16 * (N : Int) + (d : Int) := IntWalk.i32_in _ (by omega)
            by_cases q1 : (65 : Int) ≤ (C : Int)
            · have q2 : ¬ (C : Int) ≤ 70 := by omega
              go_wp2_with fail
              refine (KT.out _ HK.out).mono ?_
              rintro e w1 ⟨rfl, hb1, ho1⟩
              go_wp2_with fail
              refine (KI.out _).mono ?_
              rintro e w2 ⟨rfl, rfl⟩
              go_wp2_with fail
              refine (KY.out _).mono ?_
              rintro e w3 ⟨rfl, rfl⟩
              go_wp2_with fail
              go_roundw
              case rel => exact ⟨k + 1, 16 * N + d, by omega, congrArg (Value.int .i64) (by omega), congrArg (Value.int .i32) (by omega), by have := HN.out; rw [Nat.pow_succ]; omega, by rw [HR.out, show 4 - (k + 1) = m by omega, Nat.add_assoc], by omega, by rw [← Nat.add_assoc]; exact hb1, hOt.out.trans ho1⟩
              case measure => simp [RowKit.intOf]; omega
            · skip
              go_wp2_with fail
              refine (KT.out _ HK.out).mono ?_
              rintro e w1 ⟨rfl, hb1, ho1⟩
              go_wp2_with fail
              refine (KI.out _).mono ?_
              rintro e w2 ⟨rfl, rfl⟩
              go_wp2_with fail
              refine (KY.out _).mono ?_
              rintro e w3 ⟨rfl, rfl⟩
              go_wp2_with fail
              go_roundw
              case rel => exact ⟨k + 1, 16 * N + d, by omega, congrArg (Value.int .i64) (by omega), congrArg (Value.int .i32) (by omega), by have := HN.out; rw [Nat.pow_succ]; omega, by rw [HR.out, show 4 - (k + 1) = m by omega, Nat.add_assoc], by omega, by rw [← Nat.add_assoc]; exact hb1, hOt.out.trans ho1⟩
              case measure => simp [RowKit.intOf]; omega
      · rw [if_pos (by omega)] at hRk
        have KT := Lib.hid (fun w h => take_no t (a + k) b sh w h ht (by omega))
        have HK := Lib.hid hbk
        have hOt := Lib.hid hO
        have HR := Lib.hid hRk
        clear hbk hO hRk hR hb
        go_wp2_with fail
        refine (KT.out _ HK.out).mono ?_
        rintro e w1 ⟨rfl, ho1⟩
        go_wp2_with fail
        exact ⟨rfl, hOt.out.trans ho1, by rw [HR.out]; exact rfl⟩
    · obtain rfl : k = 4 := by omega
      have p1 : ¬ (4 : Int) < 4 := by omega
      have HK := Lib.hid hbk
      clear hbk hb hR
      go_wp2_with fail
      go_ret
      exact ⟨hO, rfl, HK.out, hN, hak⟩
end Go.Proofs.YtndifilhfiooaaaDoor
namespace Go.Proofs.YtndifilhfiooaaaDoor
set_option maxRecDepth 20000
set_option linter.unusedSimpArgs false
set_option linter.unusedVariables false
open Go.RowKit Go.Sort
/-- A type whose values lie in one cell. -/
def CellTy (P : Program) (ty : TypeId) : Prop := (∃ d, P.underlying ty = some d ∧ (match d with | .struct _ | .array _ _ => false | _ => true) = true) ∧ (P.info? ty).map (·.size) = some 1
section
variable {P : Program} {w w0 w00 : World} {M : List Blk} {o : Oper} {A : Act}
theorem load_cell {b off : Nat} {cs : Array Value} {v : Value} {t : TypeId} {fr : Nat × Nat} (hi : w.heap[b]? = some (.cells cs t fr)) (hv : cs[off]? = some v) {ty : TypeId} (hT : CellTy P ty) : (loadVar ty ⟨b, off, none⟩).run P w = .ok v w := by
  obtain ⟨⟨d, hu, hd⟩, _⟩ := hT
  have hagg : (isAgg ty).run P w = .ok false w := by
    unfold isAgg
    rw [Sem.run_bind, run_underlying hu w]
    cases d <;> first | rfl | cases hd
  have hc : w.cell? ⟨b, off, none⟩ = some v := by rw [cell_of_row w b off cs t fr hi, hv]
  unfold loadVar
  rw [Sem.run_bind, hagg]
  simp [hc]
theorem run_load_cell {ty : TypeId} {x : Operand} {b off : Nat} {t : TypeId} {cs : Array Value} {v : Value} {fr : Nat × Nat} (ho : o.op = .load ty x) (hx : A.eval x = .pointer (some ⟨b, off, none⟩)) (hg : w.heap[b]? = some (.cells cs t fr)) (hv : cs[off]? = some v) (hT : CellTy P ty) :
    (execOp A.eval o).run P w = .ok (.value v) w := by
  unfold execOp
  simp only [ho, hx, Instr.loadAt, Instr.sureAddr, Sem.run_bind, Sem.run_pure, Result.andThen_ok, load_cell hg hv hT]
/-- A value of one cell goes into a row's cell. -/
theorem run_store_at {b off : Nat} {cs : Array Value} {v : Value} {t ty : TypeId} (hg : w.heap[b]? = some (.cells cs t (0, 0))) (hl : off < cs.size) (hT : CellTy P ty) (h1 : v.oneCell' = true) : (storeVar ty ⟨b, off, none⟩ v).run P w = .ok () (w.setRow b (cs.setIfInBounds off v)) := by
  have h := run_storeCells_at (P := P) b off t [v] 0 cs w hg (by simp only [List.length_singleton]; omega) (fun x hx => by simp at hx; subst hx; exact h1)
  have hc : v.cells = #[v] := by cases v <;> first | rfl | cases h1
  obtain ⟨_, hi⟩ := hT
  cases hq : P.info? ty with
  | none => simp [hq] at hi
  | some i =>
    have hs : i.size = 1 := by simpa [hq] using hi
    simp [storeVar, hc, sizeOf, typeInfo, hq, hs, Sem.run_bind]
    rw [h]
    congr 2
    refine Array.ext' ?_
    rw [Array.toList_setIfInBounds, List.set_eq_take_append_cons_drop, if_pos (by simpa using hl)]
    simp
end
section
variable {P : Program} {ops : Array Oper} {w w0 w00 : World} {Q : Exit → Act → World → Prop} {Qw : Act → World → Prop} {o : Oper} {rest : List Oper} {A : Act} {M : List Blk} {k : Nat} {Ps : List PkW} {ns : List Nat} {md : Region.Mode} {fuel : Nat} {listed : Array Bool} {S : World → Prop}
end
end Go.Proofs.YtndifilhfiooaaaDoor
namespace Go.Proofs.YtndifilhfiooaaaDoor
set_option maxRecDepth 20000
set_option linter.unusedSimpArgs false
set_option linter.unusedVariables false
open Go.RowKit Go.Sort
section
variable {P : Program} {w w0 w' W : World} {M : List Blk} {o : Oper} {A : Act}
theorem Mem.tail {x : Blk} (h : Mem w0 (x :: M) w) : Mem w0 M w :=
  ⟨h.below, fun p hp => h.low p (List.mem_cons_of_mem _ hp), (List.pairwise_cons.1 h.nod).2, fun p hp => h.at_ p (List.mem_cons_of_mem _ hp)⟩
/-- A value of several cells goes into a row, behind its begin. -/
theorem run_store_part {b off : Nat} {cs sub : Array Value} {t ty : TypeId} (hg : w.heap[b]? = some (.cells cs t (0, 0))) (hl : off + sub.size ≤ cs.size) (hT : (P.info? ty).map (·.size) = some sub.size) (h1 : sub.all (·.oneCell') = true) : (storeVar ty ⟨b, off, none⟩ (.agg sub)).run P w = .ok () (w.setRow b (cs.toList.take off ++ sub.toList ++ cs.toList.drop (off + sub.size)).toArray) := by
  have h := run_storeCells_at (P := P) b off t sub.toList 0 cs w hg (by simpa using hl) (fun x hx => by
    have := Array.all_eq_true'.1 h1 x (by simpa using hx)
    exact this)
  cases hq : P.info? ty with
  | none => simp [hq] at hT
  | some i =>
    have hs : i.size = sub.size := by simpa [hq] using hT
    have hc : (Value.agg sub).cells = sub := rfl
    simp [storeVar, hc, sizeOf, typeInfo, hq, hs, Sem.run_bind]
    rw [h]
    simp
end
end Go.Proofs.YtndifilhfiooaaaDoor
namespace Go.Proofs.YtndifilhfiooaaaDoor
set_option maxRecDepth 20000
set_option linter.unusedSimpArgs false
set_option linter.unusedVariables false
open Go.RowKit Go.Sort
/-- A slice of n elements, in a block of cap ones: what is in it, what lies behind. -/
structure RowOk (xs r : List Value) (size n cap : Nat) : Prop where
  len : xs.length = n * size
  all : (xs ++ r).length = cap * size
  le : n ≤ cap
  max : cap ≤ maxLen
section
variable {P : Program} {w w0 w' W : World} {M : List Blk} {o : Oper} {A : Act}
theorem news_at {b : Nat} {cs : Array Value} {t : TypeId} {fr : Nat × Nat} (h : w.heap[b]? = some (.cells cs t fr)) : ∀ j u, cs.toList[j]? = some u → w.cell? ((⟨b, 0, none⟩ : Addr).add j) = some u := fun j u hu => by
  have hadd : (⟨b, 0, none⟩ : Addr).add j = ⟨b, j, none⟩ := by unfold Addr.add; split <;> simp_all
  rw [hadd, cell_of_row w b j cs t fr h]
  simpa using hu
variable {ops : Array Oper} {md : Region.Mode} {fuel : Nat} {listed : Array Bool} {Q : Exit → Act → World → Prop} {n : Nat}
end
end Go.Proofs.YtndifilhfiooaaaDoor
namespace Go.Proofs.YtndifilhfiooaaaDoor
set_option maxRecDepth 20000
set_option linter.unusedSimpArgs false
set_option linter.unusedVariables false
open Go.RowKit Go.Sort Go.MapKept
section
variable {P : Program} {w w0 : World} {M : List Blk} {o : Oper} {A : Act}
theorem below_setObj {B g : Nat} {w0 w : World} (hb : Below B w0 w) (hBg : B ≤ g) (ob : Obj) : Below B w0 { w with heap := w.heap.setIfInBounds g ob } :=
  hb.trans ⟨rfl, rfl, rfl, by simp, fun k hk => by
    show (w.heap.setIfInBounds g ob)[k]? = _
    rw [Array.getElem?_setIfInBounds, if_neg (by omega)]⟩
theorem Mem.setO (h : Mem w0 M w) (i : Nat) {b : Nat} {old ob : Obj} (hi : M[i]? = some (b, old)) : Mem w0 (M.set i (b, ob)) { w with heap := w.heap.setIfInBounds b ob } := by
  have hlt : i < M.length := (List.getElem?_eq_some_iff.1 hi).1
  have hval : M[i] = (b, old) := (List.getElem?_eq_some_iff.1 hi).2
  have hm : (b, old) ∈ M := List.mem_of_getElem? hi
  have hmap : (M.set i (b, ob)).map Prod.fst = M.map Prod.fst := by
    rw [List.map_set]
    apply List.ext_getElem?
    intro j
    rw [List.getElem?_set]
    split
    · rename_i e
      subst e
      rw [if_pos (by simpa using hlt), List.getElem?_map, hi]
      rfl
    · rfl
  have hp' : (M.map Prod.fst).Pairwise (· ≠ ·) := List.pairwise_map.2 h.nod
  refine ⟨below_setObj h.below (h.low _ hm) ob, fun p hp => ?_, ?_, fun p hp => ?_⟩
  · rcases List.mem_or_eq_of_mem_set hp with hp | rfl
    · exact h.low p hp
    · exact h.low (b, old) hm
  · exact List.pairwise_map.1 (by rw [hmap]; exact hp')
  · obtain ⟨j, hj⟩ := List.getElem?_of_mem hp
    rw [List.getElem?_set] at hj
    show (w.heap.setIfInBounds b ob)[p.1]? = _
    by_cases e : i = j
    · subst e
      rw [if_pos rfl, if_pos hlt] at hj
      cases hj
      exact (heap_set (h.get i hi)).1
    · rw [if_neg e] at hj
      have hpM : p ∈ M := List.mem_of_getElem? hj
      have hne : p.1 ≠ b := by
        have hn := List.pairwise_iff_getElem.1 h.nod
        have hjl : j < M.length := (List.getElem?_eq_some_iff.1 hj).1
        have hjv : M[j] = p := (List.getElem?_eq_some_iff.1 hj).2
        rcases Nat.lt_or_gt_of_ne e with h1 | h1
        · have := hn i j hlt hjl h1
          rw [hval, hjv] at this
          exact fun e => this e.symm
        · have := hn j i hjl hlt h1
          rw [hval, hjv] at this
          exact this
      rw [(heap_set (h.get i hi)).2 p.1 hne]
      exact h.at_ p hpM
/-- What a look-up answers. -/
def lookR (z : Value) : Option (Nat × Value) → Value × Bool
  | some (_, x) => (x, true)
  | none => (z, false)
theorem run_look {t k e : TypeId} {d : TypeDesc} (ht : P.underlying t = some (.map k e)) (hd : P.underlying k = some d) {b : Nat} {es : Array MapEntry} {ck : Nat} (hb : w.heap[b]? = some (.map es ck)) {key : Value} (hk : IsKey d key) {z : Value} (hz : (zeroValue e).run P w = .ok z w) {r : Option (Nat × Value)} (hf : Instr.findNow d key es.toList 0 = some r) (c : Bool) :
    (Instr.lookup t (.map (some b)) key c).run P w = .ok (if c then .tuple #[(lookR z r).1, .bool (lookR z r).2] else (lookR z r).1) w := by
  rcases r with _ | ⟨i, x⟩ <;> cases c <;> simp [Instr.lookup, run_underlying ht, MapKept.run_getObj_map hb, MapKept.run_checkKey hd hk, MapKept.run_findKey hd hf, hz, Result.andThen, lookR]
theorem run_mkmap_of {t : TypeId} (ho : o.op = .makeMap t none) (W : World) : (execOp A.eval o).run P W = .ok (.value (.map (some W.heap.size))) (W.alloc (.map #[] 0)) := by
  unfold execOp
  simp only [ho]
  rfl
theorem run_update_new {t k e : TypeId} {d : TypeDesc} (ht : P.underlying t = some (.map k e)) (hd : P.underlying k = some d) {b : Nat} {es : Array MapEntry} {ck : Nat} (hb : w.heap[b]? = some (.map es ck)) {key val : Value} (hk : IsKey d key) (hf : Instr.findNow d key es.toList 0 = some none) :
    (Instr.mapUpdate t (.map (some b)) key val).run P w = .ok () { w with heap := w.heap.setIfInBounds b (.map (es.push ⟨key, val, ck⟩) (ck + 1)) } := by
  simp [Instr.mapUpdate, run_underlying ht, MapKept.run_getObj_map hb, MapKept.run_checkKey hd hk, MapKept.run_findKey hd hf, MapKept.run_setObj_map _ hb, Result.andThen]
variable {ops : Array Oper} {Q : Exit → Act → World → Prop} {rest : List Oper}
/-- A new key. -/
theorem wp_ins (hM : Mem w0 M w) (i : Nat) {K : Act → World → Prop} {t k e : TypeId} {d : TypeDesc} {m x y : Operand} {b : Nat} {es es' : Array MapEntry} {ck ck' : Nat} {key val : Value} (ho : o.op = .insert t m x y ∨ o.op = .mapUpdate t m x y) (hm : A.eval m = .map (some b)) (hx : A.eval x = key) (hy : A.eval y = val) (hi : M[i]? = some (b, .map es ck)) (ht : P.underlying t = some (.map k e)) (hd : P.underlying k = some d) (hk : IsKey d key) (hf : Instr.findNow d key es.toList 0 = some none) (he : es.push ⟨key, val, ck⟩ = es') (hck : ck + 1 = ck')
    (hr : ∀ W, Mem w0 (M.set i (b, .map es' ck')) W → K (A.put o.dst undef) W) : o.wp P A w K Q := by
  subst he hck
  have hrun := run_update_new ht hd (hM.get i hi) (val := val) hk hf
  unfold Oper.wp execOp
  rcases ho with ho | ho <;> simp only [ho, hm, hx, hy, Sem.run_bind, hrun, Result.andThen_ok] <;> exact hr _ (hM.setO i hi)
theorem wl_ins (hM : Mem w0 M w) (i : Nat) {t k e : TypeId} {d : TypeDesc} {m x y : Operand} {b : Nat} {es es' : Array MapEntry} {ck ck' : Nat} {key val : Value} (ho : o.op = .insert t m x y ∨ o.op = .mapUpdate t m x y) (hm : A.eval m = .map (some b)) (hx : A.eval x = key) (hy : A.eval y = val) (hi : M[i]? = some (b, .map es ck)) (ht : P.underlying t = some (.map k e)) (hd : P.underlying k = some d) (hk : IsKey d key) (hf : Instr.findNow d key es.toList 0 = some none) (he : es.push ⟨key, val, ck⟩ = es') (hck : ck + 1 = ck')
    (hgd : o.guard = none) (hds : o.dst = none) (hr : ∀ W, Mem w0 (M.set i (b, .map es' ck')) W → wpList P ops Q rest A W) : wpList P ops Q (o :: rest) A w :=
  wpList_plain hgd fun _ hK => wp_ins hM i ho hm hx hy hi ht hd hk hf he hck fun W hW => by
    rw [hds]
    exact hK _ _ (hr W hW)
end
end Go.Proofs.YtndifilhfiooaaaDoor
namespace Go.Proofs.YtndifilhfiooaaaDoor
set_option maxRecDepth 20000
set_option linter.unusedSimpArgs false
set_option linter.unusedVariables false
open Go.RowKit Go.Lib Go.Shelf
attribute [local go_sem] Oper.semAt_some
abbrev MapT : TypeId := 82
abbrev i32 (n : Int) : Value := .int .i32 n
def ltE : Array MapEntry := #[⟨i32 34, i32 34, 0⟩, ⟨i32 92, i32 92, 1⟩, ⟨i32 8, i32 98, 2⟩, ⟨i32 9, i32 116, 3⟩, ⟨i32 10, i32 110, 4⟩, ⟨i32 12, i32 102, 5⟩, ⟨i32 13, i32 114, 6⟩]
set_option maxRecDepth 100000 in
theorem letters_any (w : World) : Calls Tryd.prog 61 #[] w fun e w' => ∃ m, e = .returned (.map (some m)) ∧ w'.heap[m]? = some (.map ltE 7) ∧ w.heap.size ≤ m ∧ Below w.heap.size w w' := by
  go_enter Tryd.func61, Tryd.ntmps61
  go_upto_region 1 with fail
  have hM0 := Mem.start w
  refine wp_region_lit ?_
  refine wl_new hM0 (ob := .map #[] 0) (f := fun b => .map (some b)) (fun W => run_mkmap_of rfl W) rfl fun m w1 hM1 => ?_
  simp only [nm0, nm1, nm2, nm3]
  refine wl_ins hM1 0 (es' := #[⟨i32 34, i32 34, 0⟩]) (ck' := 1) (key := i32 34) (val := i32 34) (.inl rfl) rfl rfl rfl rfl Tryd.underlying82 Tryd.underlying21 rfl rfl rfl rfl rfl rfl fun w2 hM2 => ?_
  simp only [nm2, nm3] at hM2
  refine wl_ins hM2 0 (es' := #[⟨i32 34, i32 34, 0⟩, ⟨i32 92, i32 92, 1⟩]) (ck' := 2) (key := i32 92) (val := i32 92) (.inl rfl) rfl rfl rfl rfl Tryd.underlying82 Tryd.underlying21 rfl rfl rfl rfl rfl rfl fun w3 hM3 => ?_
  simp only [nm2, nm3] at hM3
  refine wl_ins hM3 0 (es' := #[⟨i32 34, i32 34, 0⟩, ⟨i32 92, i32 92, 1⟩, ⟨i32 8, i32 98, 2⟩]) (ck' := 3) (key := i32 8) (val := i32 98) (.inl rfl) rfl rfl rfl rfl Tryd.underlying82 Tryd.underlying21 rfl rfl rfl rfl rfl rfl fun w4 hM4 => ?_
  simp only [nm2, nm3] at hM4
  refine wl_ins hM4 0 (es' := #[⟨i32 34, i32 34, 0⟩, ⟨i32 92, i32 92, 1⟩, ⟨i32 8, i32 98, 2⟩, ⟨i32 9, i32 116, 3⟩]) (ck' := 4) (key := i32 9) (val := i32 116) (.inl rfl) rfl rfl rfl rfl Tryd.underlying82 Tryd.underlying21 rfl rfl rfl rfl rfl rfl fun w5 hM5 => ?_
  simp only [nm2, nm3] at hM5
  refine wl_ins hM5 0 (es' := #[⟨i32 34, i32 34, 0⟩, ⟨i32 92, i32 92, 1⟩, ⟨i32 8, i32 98, 2⟩, ⟨i32 9, i32 116, 3⟩, ⟨i32 10, i32 110, 4⟩]) (ck' := 5) (key := i32 10) (val := i32 110) (.inl rfl) rfl rfl rfl rfl Tryd.underlying82 Tryd.underlying21 rfl rfl rfl rfl rfl rfl fun w6 hM6 => ?_
  simp only [nm2, nm3] at hM6
  refine wl_ins hM6 0 (es' := #[⟨i32 34, i32 34, 0⟩, ⟨i32 92, i32 92, 1⟩, ⟨i32 8, i32 98, 2⟩, ⟨i32 9, i32 116, 3⟩, ⟨i32 10, i32 110, 4⟩, ⟨i32 12, i32 102, 5⟩]) (ck' := 6) (key := i32 12) (val := i32 102) (.inl rfl) rfl rfl rfl rfl Tryd.underlying82 Tryd.underlying21 rfl rfl rfl rfl rfl rfl fun w7 hM7 => ?_
  simp only [nm2, nm3] at hM7
  refine wl_ins hM7 0 (es' := #[⟨i32 34, i32 34, 0⟩, ⟨i32 92, i32 92, 1⟩, ⟨i32 8, i32 98, 2⟩, ⟨i32 9, i32 116, 3⟩, ⟨i32 10, i32 110, 4⟩, ⟨i32 12, i32 102, 5⟩, ⟨i32 13, i32 114, 6⟩]) (ck' := 7) (key := i32 13) (val := i32 114) (.inl rfl) rfl rfl rfl rfl Tryd.underlying82 Tryd.underlying21 rfl rfl rfl rfl rfl rfl fun w8 hM8 => ?_
  simp only [nm2, nm3] at hM8
  refine wl_pure (v := .map (some m)) (fun W => rfl) rfl ?_
  simp only [nm0, nm1, nm2, nm3]
  refine wl_pure (v := .map (some m)) (fun W => rfl) rfl ?_
  simp only [nm0, nm1, nm2, nm3]
  refine wpList_nil ?_
  go_wp2_with fail
  go_ret
  exact ⟨m, rfl, hM8.get 0 rfl, hM8.low _ (List.mem_of_getElem? (i := 0) rfl), hM8.below⟩
def meanV (n : Nat) : Option Nat := if n = 47 then some 47 else if n = 34 then some 34 else if n = 92 then some 92 else if n = 98 then some 8 else if n = 116 then some 9 else if n = 110 then some 10 else if n = 102 then some 12 else if n = 114 then some 13 else none
def ansV : Option Nat → Value × Bool
  | some n => (i32 (n : Int), true)
  | none => (i32 0, false)
/-- The map that reading asks: an entry is a letter and what it stands for. -/
def MeanAt (m : Nat) (w : World) : Prop := ∃ es ck, w.heap[m]? = some (.map es ck) ∧ (∀ x ∈ es.toList, ∃ k v : Nat, x.key = i32 k ∧ x.val = i32 v ∧ meanV k = some v) ∧ ∀ k v : Nat, meanV k = some v → ∃ x ∈ es.toList, x.key = i32 k
theorem MeanAt.look {m : Nat} {w : World} (h : MeanAt m w) : ∃ es ck, w.heap[m]? = some (.map es ck) ∧ ∀ n : Nat, ∃ r, Instr.findNow (.int .i32) (i32 (n : Int)) es.toList 0 = some r ∧ lookR (i32 0) r = ansV (meanV n) := by
  obtain ⟨es, ck, hm, h1, h2⟩ := h
  refine ⟨es, ck, hm, fun n => ?_⟩
  rcases MapKept.findNow_spec (d := .int .i32) (k := i32 (n : Int)) rfl es.toList 0 (fun x hx => by obtain ⟨k, v, hk, _⟩ := h1 x hx; rw [hk]; rfl) with ⟨hf, hno⟩ | ⟨j, e, hf, hj, hk⟩
  · refine ⟨none, hf, ?_⟩
    cases hv : meanV n with
    | none => rfl
    | some v =>
      obtain ⟨x, hx, hk⟩ := h2 n v hv
      exact absurd hk (hno x hx)
  · refine ⟨_, hf, ?_⟩
    obtain ⟨k, v, hk', hv, hm⟩ := h1 e (List.mem_of_getElem? hj)
    rw [hk] at hk'
    have : (n : Int) = (k : Int) := by injection hk'
    obtain rfl : n = k := by omega
    rw [hm, hv]
    rfl
theorem MeanAt.keep {m : Nat} {w w' : World} (h : MeanAt m w) (hk : w'.heap[m]? = w.heap[m]?) : MeanAt m w' := by
  obtain ⟨es, ck, hm, h1⟩ := h
  exact ⟨es, ck, hk.trans hm, h1⟩
/-- The pairs of the letters' map, turned. -/
def Vis (seen : Array Nat) (es : Array MapEntry) : Prop := (∀ x ∈ es.toList, ∃ k v : Nat, x.key = i32 k ∧ x.val = i32 v ∧ meanV k = some v ∧ (k = 47 ∨ ∃ y ∈ ltE.toList, seen.contains y.born = true ∧ y.val = i32 k)) ∧
  (∃ x ∈ es.toList, x.key = i32 47) ∧ ∀ y ∈ ltE.toList, seen.contains y.born = true → ∃ x ∈ es.toList, x.key = y.val
theorem lt_all : ∀ y ∈ ltE.toList, ∃ k v : Nat, y.val = i32 k ∧ y.key = i32 v ∧ meanV k = some v ∧ k ≠ 47 := by
  intro y hy
  simp only [ltE, List.mem_cons, List.not_mem_nil, or_false] at hy
  rcases hy with rfl | rfl | rfl | rfl | rfl | rfl | rfl
  · exact ⟨34, 34, rfl, rfl, rfl, by decide⟩
  · exact ⟨92, 92, rfl, rfl, rfl, by decide⟩
  · exact ⟨98, 8, rfl, rfl, rfl, by decide⟩
  · exact ⟨116, 9, rfl, rfl, rfl, by decide⟩
  · exact ⟨110, 10, rfl, rfl, rfl, by decide⟩
  · exact ⟨102, 12, rfl, rfl, rfl, by decide⟩
  · exact ⟨114, 13, rfl, rfl, rfl, by decide⟩
theorem lt_val : ∀ y ∈ ltE.toList, ∀ z ∈ ltE.toList, y.val = z.val → y.born = z.born := by
  intro y hy z hz
  simp only [ltE, List.mem_cons, List.not_mem_nil, or_false] at hy hz
  rcases hy with rfl | rfl | rfl | rfl | rfl | rfl | rfl <;> rcases hz with rfl | rfl | rfl | rfl | rfl | rfl | rfl <;> simp [i32]
theorem mean_lt {k v : Nat} (h : meanV k = some v) : k = 47 ∨ ∃ y ∈ ltE.toList, y.val = i32 k := by
  unfold meanV at h
  simp only [ltE]
  by_cases h0 : k = 47
  · exact .inl h0
  rw [if_neg h0] at h
  refine .inr ?_
  by_cases h1 : k = 34
  · subst h1; exact ⟨_, .head _, rfl⟩
  rw [if_neg h1] at h
  by_cases h2 : k = 92
  · subst h2; exact ⟨_, .tail _ (.head _), rfl⟩
  rw [if_neg h2] at h
  by_cases h3 : k = 98
  · subst h3; exact ⟨_, .tail _ (.tail _ (.head _)), rfl⟩
  rw [if_neg h3] at h
  by_cases h4 : k = 116
  · subst h4; exact ⟨_, .tail _ (.tail _ (.tail _ (.head _))), rfl⟩
  rw [if_neg h4] at h
  by_cases h5 : k = 110
  · subst h5; exact ⟨_, .tail _ (.tail _ (.tail _ (.tail _ (.head _)))), rfl⟩
  rw [if_neg h5] at h
  by_cases h6 : k = 102
  · subst h6; exact ⟨_, .tail _ (.tail _ (.tail _ (.tail _ (.tail _ (.head _))))), rfl⟩
  rw [if_neg h6] at h
  by_cases h7 : k = 114
  · subst h7; exact ⟨_, .tail _ (.tail _ (.tail _ (.tail _ (.tail _ (.tail _ (.head _)))))), rfl⟩
  rw [if_neg h7] at h
  cases h
theorem push_has (seen : Array Nat) (b c : Nat) : (seen.push b).contains c = true ↔ seen.contains c = true ∨ c = b := by
  rw [Array.contains_push]; simp
theorem vis_step {seen : Array Nat} {es : Array MapEntry} {e : MapEntry} {k v : Nat} (h : Vis seen es) (he : e ∈ ltE.toList) (hs : seen.contains e.born = false) (hk : e.val = i32 k) (hv : e.key = i32 v) (ck : Nat) :
    Instr.findNow (.int .i32) (i32 k) es.toList 0 = some none ∧ Vis (seen.push e.born) (es.push ⟨i32 k, i32 v, ck⟩) := by
  obtain ⟨h1, h2, h3⟩ := h
  obtain ⟨k0, v0, ek, ev, hm, h47⟩ := lt_all e he
  have e1 : k = k0 := by have := hk.symm.trans ek; injection this with _ h; omega
  have e2 : v = v0 := by have := hv.symm.trans ev; injection this with _ h; omega
  subst e1 e2
  refine ⟨?_, fun x hx => ?_, ?_, fun y hy hsy => ?_⟩
  · rcases MapKept.findNow_spec (d := .int .i32) (k := i32 (k : Int)) rfl es.toList 0 (fun x hx => by obtain ⟨k, v, hk, _⟩ := h1 x hx; rw [hk]; rfl) with ⟨hf, hno⟩ | ⟨j, x, hf, hj, hkx⟩
    · exact hf
    · exfalso
      obtain ⟨k', v', hk', -, -, h47' | ⟨y, hy, hsy, hyv⟩⟩ := h1 x (List.mem_of_getElem? hj)
      · have := hkx.symm.trans hk'; injection this with _ h; omega
      · have e3 : y.val = e.val := by rw [hyv, hk, ← hk', hkx]
        rw [lt_val y hy e he e3, hs] at hsy
        cases hsy
  · rw [Array.toList_push] at hx
    rcases List.mem_append.1 hx with hx | hx
    · obtain ⟨k', v', a1, a2, a3, a4⟩ := h1 x hx
      exact ⟨k', v', a1, a2, a3, a4.imp_right fun ⟨y, b1, b2, b3⟩ => ⟨y, b1, (push_has _ _ _).2 (.inl b2), b3⟩⟩
    · obtain rfl := List.mem_singleton.1 hx
      exact ⟨k, v, rfl, rfl, hm, .inr ⟨e, he, (push_has _ _ _).2 (.inr rfl), hk⟩⟩
  · obtain ⟨x, hx, hk'⟩ := h2
    exact ⟨x, by rw [Array.toList_push]; exact List.mem_append_left _ hx, hk'⟩
  · rw [Array.toList_push]
    rcases (push_has _ _ _).1 hsy with hsy | hb
    · obtain ⟨x, hx, hk'⟩ := h3 y hy hsy
      exact ⟨x, List.mem_append_left _ hx, hk'⟩
    · refine ⟨_, List.mem_append_right _ (List.mem_singleton.2 rfl), ?_⟩
      have e4 : y = e := born_inj (l := ltE.toList) (by decide) hy he hb
      rw [e4, hk]
theorem vis_end {seen : Array Nat} {es : Array MapEntry} (h : Vis seen es) (hall : ∀ y ∈ ltE.toList, seen.contains y.born = true) {m : Nat} {w : World} {ck : Nat} (hm : w.heap[m]? = some (.map es ck)) : MeanAt m w := by
  obtain ⟨h1, h2, h3⟩ := h
  refine ⟨es, ck, hm, fun x hx => ?_, fun k v hkv => ?_⟩
  · obtain ⟨k, v, a, b, c, -⟩ := h1 x hx
    exact ⟨k, v, a, b, c⟩
  · rcases mean_lt hkv with rfl | ⟨y, hy, hyv⟩
    · exact h2
    · obtain ⟨x, hx, hk⟩ := h3 y hy (hall y hy)
      exact ⟨x, hx, hk.trans hyv⟩
set_option maxRecDepth 100000 in
set_option maxHeartbeats 2000000 in
theorem meanings_any (w : World) : Calls Tryd.prog 56 #[] w fun e w' => ∃ m, e = .returned (.map (some m)) ∧ MeanAt m w' ∧ w.heap.size ≤ m ∧ Below w.heap.size w w' := by
  have KL := Lib.hid (fun w => letters_any w)
  go_enter Tryd.func56, Tryd.ntmps56
  go_upto_region 1 with fail
  have hM0 := Mem.start w
  refine wp_region_lit ?_
  refine wl_new hM0 (ob := .map #[] 0) (f := fun b => .map (some b)) (fun W => run_mkmap_of rfl W) rfl fun m w1 hM1 => ?_
  simp only [nm0, nm1, nm2, nm3]
  refine wl_ins hM1 0 (es' := #[⟨i32 47, i32 47, 0⟩]) (ck' := 1) (key := i32 47) (val := i32 47) (.inl rfl) rfl rfl rfl rfl Tryd.underlying82 Tryd.underlying21 rfl rfl rfl rfl rfl rfl fun w2 hM2 => ?_
  simp only [nm2, nm3] at hM2
  refine wl_pure (v := .map (some m)) (fun W => rfl) rfl ?_
  simp only [nm0, nm1, nm2, nm3]
  refine wl_pure (v := .map (some m)) (fun W => rfl) rfl ?_
  simp only [nm0, nm1, nm2, nm3]
  refine wpList_nil ?_
  go_wp2_with fail
  refine (KL.out _).mono ?_
  rintro e w3 ⟨lm, rfl, hl, hlo, hb⟩
  have hrg := run_range_map (P := Tryd.prog) w3 82 21 21 lm ltE 7 Tryd.underlying82 hl
  have hM3 := (hM2.calls hb)
  have hm3 := hM3.get 0 rfl
  have hlow := hM3.low _ (List.mem_of_getElem? (i := 0) rfl)
  have hbw := hM3.below
  have hml : m < w2.heap.size := (Array.getElem?_eq_some_iff.1 (hM2.get 0 rfl)).1
  have hll : lm < w3.heap.size := (Array.getElem?_eq_some_iff.1 hl).1
  obtain ⟨Z, hZ⟩ : ∃ Z, w3.heap.size = Z := ⟨_, rfl⟩
  rw [hZ] at hrg hll
  clear hM0 hM1 hM2 hM3
  have hmZ : m < Z := by have := hb.size; omega
  have hne : lm ≠ m := by omega
  have setb : ∀ (W : World) (r : Nat) (o o' : Obj), w.heap.size ≤ r → W.heap[r]? = some o → Below w.heap.size w W → (ChangeMaps.setBlock W r o').heap[r]? = some o' ∧ (∀ j, j ≠ r → (ChangeMaps.setBlock W r o').heap[j]? = W.heap[j]?) ∧ Below w.heap.size w (ChangeMaps.setBlock W r o') := fun W r o o' hr ho hbb =>
    ⟨(MapKept.heap_set ho).1, (MapKept.heap_set ho).2, below_setObj hbb hr _⟩
  have hI3 : (w3.alloc (.mapIter (some lm) 7 #[] 7)).heap[Z]? = some (.mapIter (some lm) 7 #[] 7) := by rw [← hZ]; exact World.alloc_heap_new w3 _
  have hm4 := (Below.heap_alloc w3 (.mapIter (some lm) 7 #[] 7) m (by omega)).trans hm3
  have hl4 := (Below.heap_alloc w3 (.mapIter (some lm) 7 #[] 7) lm (by omega)).trans hl
  have hb4 := hbw.alloc (by have := hbw.size; omega) (.mapIter (some lm) 7 #[] 7)
  obtain ⟨w4, hw4⟩ : ∃ w4, w3.alloc (.mapIter (some lm) 7 #[] 7) = w4 := ⟨_, rfl⟩
  rw [hw4] at hrg hI3 hm4 hl4 hb4
  have hlmZ : w.heap.size ≤ Z := by omega
  clear hb hlo hm3 hl hbw hw4 hZ hml
  go_wp2_with fail
  go_loopw [2, 3] (fun _ _ wr => ∃ (es : Array MapEntry) (ck : Nat) (seen : Array Nat), wr.heap[Z]? = some (.mapIter (some lm) 7 seen 7) ∧ wr.heap[m]? = some (.map es ck) ∧ wr.heap[lm]? = some (.map ltE 7) ∧ Vis seen es ∧ Below w.heap.size w wr) (fun _ _ wr => match wr.heap[Z]? with | some (.mapIter _ _ s _) => (leftOf ltE s).size | _ => 0)
  case atStart =>
    refine ⟨_, _, #[], hI3, hm4, hl4, ⟨fun x hx => ?_, ⟨_, List.mem_cons_self, rfl⟩, fun y hy hs => by simp at hs⟩, hb4⟩
    obtain rfl := List.mem_singleton.1 hx
    exact ⟨47, 47, rfl, rfl, rfl, .inl rfl⟩
  case round =>
    obtain ⟨es, ck, seen, hI, hm, hlm, hvis, hbW⟩ := hrel
    rcases run_next_at (P := Tryd.prog) wr 0 Z lm 7 7 seen ltE 7 hI hlm (by decide) (Nat.le_refl _) with ⟨h0, hrun⟩ | ⟨e, he, W1, hW1, hrun⟩
    · have hnx : ∀ ty, (Instr.next (.pointer (some ⟨Z, 0, none⟩)) false ty).run Tryd.prog wr = _ := fun _ => hrun
      clear hrun
      go_wp2_with fail
      go_ret
      exact ⟨m, rfl, vis_end hvis (all_seen ltE seen h0) hm, hlow, hbW⟩
    · obtain ⟨k, v, ek, ev, -, -⟩ := lt_all e (mem_left he).1
      obtain ⟨hf, hv2⟩ := vis_step hvis (mem_left he).1 (mem_left he).2 ek ev ck
      have hms := left_shrinks ltE seen e he
      have hh1 : W1.heap = wr.heap := by rcases hW1 with rfl | rfl <;> rfl
      have hb1 : Below w.heap.size w W1 := by rcases hW1 with h | h <;> rw [h] <;> exact ⟨hbW.os, hbW.tape, hbW.output, hbW.size, hbW.block⟩
      have hI0 := hI
      rw [← hh1] at hI hm hlm
      obtain ⟨s1, s2, s3⟩ := setb W1 Z _ (.mapIter (some lm) 7 (seen.push e.born) 7) hlmZ hI hb1
      have hm2 := (s2 m (by omega)).trans hm
      have hl2 := (s2 lm (by omega)).trans hlm
      obtain ⟨W2, hW2⟩ : ∃ W2, ChangeMaps.setBlock W1 Z (.mapIter (some lm) 7 (seen.push e.born) 7) = W2 := ⟨_, rfl⟩
      rw [hW2] at hrun s1 s3 hm2 hl2
      rw [ek, ev] at hrun
      have hnx : ∀ ty, (Instr.next (.pointer (some ⟨Z, 0, none⟩)) false ty).run Tryd.prog wr = _ := fun _ => hrun
      have hen := run_entry_at (P := Tryd.prog) W2 Z lm 7 seen ltE 7 e s1 hl2 (mem_left he).1 (by decide)
      rw [ek, ev] at hen
      have hup := run_update_new (P := Tryd.prog) (w := W2) (key := i32 k) (val := i32 v) Tryd.underlying82 Tryd.underlying21 hm2 rfl hf
      obtain ⟨t1, t2, t3⟩ := setb W2 m _ (.map (es.push ⟨i32 k, i32 v, ck⟩) (ck + 1)) hlow hm2 s3
      obtain ⟨W3, hW3⟩ : ∃ W3, ({ W2 with heap := W2.heap.setIfInBounds m (.map (es.push ⟨i32 k, i32 v, ck⟩) (ck + 1)) } : World) = W3 := ⟨_, rfl⟩
      have e3 : ChangeMaps.setBlock W2 m (.map (es.push ⟨i32 k, i32 v, ck⟩) (ck + 1)) = W3 := hW3
      rw [e3] at t1 t2 t3
      rw [hW3] at hup
      have g1 := (t2 Z (by omega)).trans s1
      have g2 := (t2 lm (by omega)).trans hl2
      clear hrun hW3 e3 hf hW2 s1 s2 s3 t2 hW1 hm hlm hh1 hb1
      go_wp2_with fail
      go_roundw
      case rel => exact ⟨_, _, _, g1, t1, g2, hv2, t3⟩
      case measure => rw [g1, hI0]; exact hms
end Go.Proofs.YtndifilhfiooaaaDoor
