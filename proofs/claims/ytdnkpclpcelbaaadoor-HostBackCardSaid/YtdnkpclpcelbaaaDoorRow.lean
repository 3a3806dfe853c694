/- Blocks that are known as whole rows: loads, stores, calls and what is made, an operation each; for regions that draw their order and for those that don't. No program in it. -/
import Derived.Test.YtdnkpclpcelbaaaDoorInz
import Derived.Laws.Tables
import Derived.Laws.CopyOwn
import Derived.Laws.Rows
import Derived.Shelf.Abstract
namespace Go.Proofs.YtdnkpclpcelbaaaDoor
set_option maxRecDepth 20000
set_option linter.unusedSimpArgs false
set_option linter.unusedVariables false
open Go.RowKit Go.Sort
abbrev Blk := Nat × Obj
/-- What is known of the blocks that a call has made: their addresses differ, what lay before is as it was. -/
structure Mem (w0 : World) (M : List Blk) (w : World) : Prop where
  below : Below w0.heap.size w0 w
  low : ∀ p ∈ M, w0.heap.size ≤ p.1
  nod : M.Pairwise (fun p q => p.1 ≠ q.1)
  at_ : ∀ p ∈ M, w.heap[p.1]? = some p.2
section
variable {w0 w w' : World} {M : List Blk}
theorem Mem.start (w : World) : Mem w [] w := ⟨Below.refl _ _, by simp, .nil, by simp⟩
theorem Mem.get (h : Mem w0 M w) (i : Nat) {b : Nat} {o : Obj} (hi : M[i]? = some (b, o)) : w.heap[b]? = some o := h.at_ (b, o) (List.mem_of_getElem? hi)
theorem Mem.calls (h : Mem w0 M w) (hb : Below w.heap.size w w') : Mem w0 M w' :=
  ⟨h.below.trans (hb.mono h.below.size), h.low, h.nod, fun p hp => by
    have hg := h.at_ p hp
    rw [hb.block p.1 (Array.getElem?_eq_some_iff.1 hg).1]
    exact hg⟩
theorem Mem.old (h : Mem w0 M w) {b : Nat} {o : Obj} (hb : w0.heap[b]? = some o) : w.heap[b]? = some o := by
  rw [h.below.block b (Array.getElem?_eq_some_iff.1 hb).1]
  exact hb
theorem Mem.lt (h : Mem w0 M w) {p : Blk} (hp : p ∈ M) : p.1 < w.heap.size := (Array.getElem?_eq_some_iff.1 (h.at_ p hp)).1
theorem Mem.news (h : Mem w0 M w) (hb : Below w.heap.size w w') (L : List Blk) (hL : ∀ p ∈ L, w.heap.size ≤ p.1 ∧ w'.heap[p.1]? = some p.2) (hn : L.Pairwise (fun p q => p.1 ≠ q.1)) : Mem w0 (L ++ M) w' := by
  have hk := h.calls hb
  refine ⟨hk.below, fun p hp => ?_, ?_, fun p hp => ?_⟩
  · rcases List.mem_append.1 hp with hp | hp
    · exact Nat.le_trans h.below.size (hL p hp).1
    · exact h.low p hp
  · refine List.pairwise_append.2 ⟨hn, h.nod, fun p hp q hq e => ?_⟩
    have h1 := (hL p hp).1
    have h2 := h.lt hq
    omega
  · rcases List.mem_append.1 hp with hp | hp
    · exact (hL p hp).2
    · exact hk.at_ p hp
theorem Mem.new1 (h : Mem w0 M w) (o : Obj) : Mem w0 ((w.heap.size, o) :: M) (w.alloc o) :=
  h.news (mk_at w o).2 [(w.heap.size, o)] (fun p hp => by
    rcases List.mem_singleton.1 hp with rfl
    exact ⟨Nat.le_refl _, (mk_at w o).1⟩) (by simp)
theorem Mem.news1 (h : Mem w0 M w) (hb : Below w.heap.size w w') {b1 : Nat} {o1 : Obj} (l1 : w.heap.size ≤ b1) (g1 : w'.heap[b1]? = some o1) : Mem w0 ((b1, o1) :: M) w' :=
  h.news hb [(b1, o1)] (fun p hp => by
    rcases List.mem_singleton.1 hp with rfl
    exact ⟨l1, g1⟩) (by simp)
theorem Mem.news2 (h : Mem w0 M w) (hb : Below w.heap.size w w') {b1 b2 : Nat} {o1 o2 : Obj} (l1 : w.heap.size ≤ b1) (g1 : w'.heap[b1]? = some o1) (l2 : w.heap.size ≤ b2) (g2 : w'.heap[b2]? = some o2) (n12 : b1 ≠ b2) : Mem w0 ((b1, o1) :: (b2, o2) :: M) w' :=
  h.news hb [(b1, o1), (b2, o2)] (fun p hp => by
    simp only [List.mem_cons, List.not_mem_nil, or_false] at hp
    rcases hp with rfl | rfl
    · exact ⟨l1, g1⟩
    · exact ⟨l2, g2⟩) (by simp [n12])
theorem Mem.news3 (h : Mem w0 M w) (hb : Below w.heap.size w w') {b1 b2 b3 : Nat} {o1 o2 o3 : Obj} (l1 : w.heap.size ≤ b1) (g1 : w'.heap[b1]? = some o1) (l2 : w.heap.size ≤ b2) (g2 : w'.heap[b2]? = some o2) (l3 : w.heap.size ≤ b3) (g3 : w'.heap[b3]? = some o3) (n12 : b1 ≠ b2) (n13 : b1 ≠ b3) (n23 : b2 ≠ b3) : Mem w0 ((b1, o1) :: (b2, o2) :: (b3, o3) :: M) w' :=
  h.news hb [(b1, o1), (b2, o2), (b3, o3)] (fun p hp => by
    simp only [List.mem_cons, List.not_mem_nil, or_false] at hp
    rcases hp with rfl | rfl | rfl
    · exact ⟨l1, g1⟩
    · exact ⟨l2, g2⟩
    · exact ⟨l3, g3⟩) (by simp [n12, n13, n23])
theorem Mem.news4 (h : Mem w0 M w) (hb : Below w.heap.size w w') {b1 b2 b3 b4 : Nat} {o1 o2 o3 o4 : Obj} (l1 : w.heap.size ≤ b1) (g1 : w'.heap[b1]? = some o1) (l2 : w.heap.size ≤ b2) (g2 : w'.heap[b2]? = some o2) (l3 : w.heap.size ≤ b3) (g3 : w'.heap[b3]? = some o3) (l4 : w.heap.size ≤ b4) (g4 : w'.heap[b4]? = some o4)
    (n12 : b1 ≠ b2) (n13 : b1 ≠ b3) (n14 : b1 ≠ b4) (n23 : b2 ≠ b3) (n24 : b2 ≠ b4) (n34 : b3 ≠ b4) : Mem w0 ((b1, o1) :: (b2, o2) :: (b3, o3) :: (b4, o4) :: M) w' :=
  h.news hb [(b1, o1), (b2, o2), (b3, o3), (b4, o4)] (fun p hp => by
    simp only [List.mem_cons, List.not_mem_nil, or_false] at hp
    rcases hp with rfl | rfl | rfl | rfl
    · exact ⟨l1, g1⟩
    · exact ⟨l2, g2⟩
    · exact ⟨l3, g3⟩
    · exact ⟨l4, g4⟩) (by simp [n12, n13, n14, n23, n24, n34])
theorem Mem.set (h : Mem w0 M w) (i : Nat) {b : Nat} {old cs : Array Value} {t : TypeId} {fr : Nat × Nat} (hi : M[i]? = some (b, .cells old t fr)) : Mem w0 (M.set i (b, .cells cs t fr)) (w.setRow b cs) := by
  have hlt : i < M.length := (List.getElem?_eq_some_iff.1 hi).1
  have hval : M[i] = (b, .cells old t fr) := (List.getElem?_eq_some_iff.1 hi).2
  have hm : (b, Obj.cells old t fr) ∈ M := List.mem_of_getElem? hi
  have hmap : (M.set i (b, .cells cs t fr)).map Prod.fst = M.map Prod.fst := by
    rw [List.map_set]
    apply List.ext_getElem?
    intro j
    rw [List.getElem?_set]
    split
    · rename_i e
      subst e
      rw [if_pos (by simpa using hlt), List.getElem?_map, hi]
      rfl
    · rfl
  have hp' : (M.map Prod.fst).Pairwise (· ≠ ·) := List.pairwise_map.2 h.nod
  refine ⟨below_setRow h.below (h.low _ hm) cs, fun p hp => ?_, ?_, fun p hp => ?_⟩
  · rcases List.mem_or_eq_of_mem_set hp with hp | rfl
    · exact h.low p hp
    · exact h.low (b, .cells old t fr) hm
  · exact List.pairwise_map.1 (by rw [hmap]; exact hp')
  · obtain ⟨j, hj⟩ := List.getElem?_of_mem hp
    rw [List.getElem?_set] at hj
    by_cases e : i = j
    · subst e
      rw [if_pos rfl, if_pos hlt] at hj
      cases hj
      exact setRow_heap w b old cs t fr (h.get i hi)
    · rw [if_neg e] at hj
      have hpM : p ∈ M := List.mem_of_getElem? hj
      have hne : p.1 ≠ b := by
        have hn := List.pairwise_iff_getElem.1 h.nod
        have hjl : j < M.length := (List.getElem?_eq_some_iff.1 hj).1
        have hjv : M[j] = p := (List.getElem?_eq_some_iff.1 hj).2
        rcases Nat.lt_or_gt_of_ne e with h1 | h1
        · have := hn i j hlt hjl h1
          rw [hval, hjv] at this
          exact fun e => this e.symm
        · have := hn j i hjl hlt h1
          rw [hval, hjv] at this
          exact this
      rw [setRow_other w b p.1 cs hne]
      exact h.at_ p hpM
end
/-- A type whose values lie in n cells, as a row. -/
def RowTy (P : Program) (ty : TypeId) (n : Nat) : Prop := ((∃ fs, P.underlying ty = some (.struct fs)) ∨ ∃ l e, P.underlying ty = some (.array l e)) ∧ (P.info? ty).map (·.size) = some n
theorem Mem.load {P : Program} {w0 w : World} {M : List Blk} (h : Mem w0 M w) (i : Nat) {b : Nat} {cs : Array Value} {t : TypeId} {fr : Nat × Nat} (hi : M[i]? = some (b, .cells cs t fr)) {ty : TypeId} (hT : RowTy P ty cs.size) : (loadVar ty ⟨b, 0, none⟩).run P w = .ok (.agg cs) w := by
  rcases hT with ⟨⟨fs, h1⟩ | ⟨l, e, h1⟩, h3⟩
  · exact run_loadVar_row w b t ty cs fr _ (h.get i hi) h1 rfl h3
  · exact run_loadVar_row w b t ty cs fr _ (h.get i hi) h1 rfl h3
theorem load_of {P : Program} {w : World} {b : Nat} {cs : Array Value} {t : TypeId} {fr : Nat × Nat} (hi : w.heap[b]? = some (.cells cs t fr)) {ty : TypeId} (hT : RowTy P ty cs.size) : (loadVar ty ⟨b, 0, none⟩).run P w = .ok (.agg cs) w := by
  rcases hT with ⟨⟨fs, h1⟩ | ⟨l, e, h1⟩, h3⟩
  · exact run_loadVar_row w b t ty cs fr _ hi h1 rfl h3
  · exact run_loadVar_row w b t ty cs fr _ hi h1 rfl h3
/-- Part of a row is loaded. -/
theorem load_part {P : Program} {w : World} {b off : Nat} {cs sub : Array Value} {t : TypeId} {fr : Nat × Nat} (hi : w.heap[b]? = some (.cells cs t fr)) (hs : (cs.toList.drop off).take sub.size = sub.toList) {ty : TypeId} (hT : RowTy P ty sub.size) : (loadVar ty ⟨b, off, none⟩).run P w = .ok (.agg sub) w := by
  have hl : (loadCells ⟨b, off, none⟩ sub.toList.length).run P w = .ok sub.toList.toArray w :=
    run_loadCells_list (P := P) w ⟨b, off, none⟩ sub.toList (fun j v hv => by
      have hadd : (⟨b, off, none⟩ : Addr).add j = ⟨b, off + j, none⟩ := by unfold Addr.add; split <;> simp_all
      rw [hadd, cell_of_row w b (off + j) cs t fr hi]
      rw [← hs] at hv
      have hj : j < sub.size := by
        have := (List.getElem?_eq_some_iff.1 hv).1
        rw [List.length_take] at this
        omega
      rw [List.getElem?_take_of_lt hj, List.getElem?_drop, Array.getElem?_toList] at hv
      exact hv)
  obtain ⟨hk, h3⟩ := hT
  cases hq : P.info? ty with
  | none => simp [hq] at h3
  | some i =>
    have hz : i.size = sub.size := by simpa [hq] using h3
    have hagg : (isAgg ty).run P w = .ok true w := by
      unfold isAgg
      rcases hk with ⟨fs, hu⟩ | ⟨l, e, hu⟩
      · rw [Sem.run_bind, run_underlying hu w]; rfl
      · rw [Sem.run_bind, run_underlying hu w]; rfl
    simp only [Array.length_toList, Array.toArray_toList] at hl
    simp [loadVar, Sem.run_bind, hagg, sizeOf, typeInfo, hq, hz, hl]
theorem run_load_part {P : Program} {o : Oper} {A : Act} {w : World} {ty : TypeId} {x : Operand} {b off : Nat} {t : TypeId} {cs sub : Array Value} {fr : Nat × Nat} (ho : o.op = .load ty x) (hx : A.eval x = .pointer (some ⟨b, off, none⟩)) (hg : w.heap[b]? = some (.cells cs t fr)) (hs : (cs.toList.drop off).take sub.size = sub.toList) (hT : RowTy P ty sub.size) :
    (execOp A.eval o).run P w = .ok (.value (.agg sub)) w := by
  unfold execOp
  simp only [ho, hx, Instr.loadAt, Instr.sureAddr, Sem.run_bind, Sem.run_pure, Result.andThen_ok, load_part hg hs hT]
theorem results_arr4 {P : Program} {fn : Func} {tmps : Array Value} {w : World} {v1 v2 v3 v4 : Value} {a1 t1 b1 a2 t2 b2 a3 t3 b3 a4 t4 b4 : Nat} (h : fn.results = #[.cell a1 t1, .cell a2 t2, .cell a3 t3, .cell a4 t4]) (h1 : tmps.getD a1 undef = .pointer (some ⟨b1, 0, none⟩)) (h2 : tmps.getD a2 undef = .pointer (some ⟨b2, 0, none⟩)) (h3 : tmps.getD a3 undef = .pointer (some ⟨b3, 0, none⟩)) (h4 : tmps.getD a4 undef = .pointer (some ⟨b4, 0, none⟩))
    (l1 : (loadVar t1 ⟨b1, 0, none⟩).run P w = .ok v1 w) (l2 : (loadVar t2 ⟨b2, 0, none⟩).run P w = .ok v2 w) (l3 : (loadVar t3 ⟨b3, 0, none⟩).run P w = .ok v3 w) (l4 : (loadVar t4 ⟨b4, 0, none⟩).run P w = .ok v4 w) : (results fn tmps).run P w = .ok (.tuple #[v1, v2, v3, v4]) w := by
  have g1 : tmps[a1]?.getD undef = .pointer (some ⟨b1, 0, none⟩) := by simpa using h1
  have g2 : tmps[a2]?.getD undef = .pointer (some ⟨b2, 0, none⟩) := by simpa using h2
  have g3 : tmps[a3]?.getD undef = .pointer (some ⟨b3, 0, none⟩) := by simpa using h3
  have g4 : tmps[a4]?.getD undef = .pointer (some ⟨b4, 0, none⟩) := by simpa using h4
  simp [results, h, g1, g2, g3, g4, asAddr, l1, l2, l3, l4]
theorem results_slot {P : Program} {fn : Func} {tmps : Array Value} {w : World} {u : Value} {s : Nat} (h : fn.results = #[.tmp s]) (hs : tmps.getD s undef = u) : (results fn tmps).run P w = .ok u w := by
  have h2 : tmps[s]?.getD undef = u := by simpa using hs
  simp [results, h, h2]
theorem run_call_fn {P : Program} {o : Oper} {A : Act} {f : FuncId} {args : Array Operand} {tys : Array TypeId} {vals : Array Value} (W : World) (hE : Enters P f) (ho : o.op = .call { callee := .value (.func f), args := args, argTypes := tys }) (hv : args.map A.eval = vals) : (execOp A.eval o).run P W = .ok (.enter f vals) W := by
  have h := hE vals W
  unfold execOp
  simp [ho, resolve, Deferred.ofValue, Act.eval, invoke, hv, h]
section
variable {P : Program} {o : Oper} {A : Act} {t : TypeId} {v u : Value} {W W' : World} {x : Operand} {parts : Array (Nat × Operand)} {ps : Array (Nat × Value)}
theorem run_alloc_of (ho : o.op = .alloc t) (h : (Instr.alloc t true (.tuple #[])).run P W = .ok v W') : (execOp A.eval o).run P W = .ok (.value v) W' := by
  unfold execOp
  simp only [ho, Sem.run_bind, h, Result.andThen_ok]
  rfl
theorem run_box_of (ho : o.op = .box t x) (hx : A.eval x = u) (h : (Instr.box t u).run P W = .ok v W') : (execOp A.eval o).run P W = .ok (.value v) W' := by
  unfold execOp
  simp only [ho, hx, Sem.run_bind, h, Result.andThen_ok]
  rfl
theorem run_build_of (ho : o.op = .build t parts) (hp : (parts.map fun (i, x) => (i, A.eval x)) = ps) (h : (Instr.build t ps).run P W = .ok v W') : (execOp A.eval o).run P W = .ok (.value v) W' := by
  unfold execOp
  simp only [ho, hp, Sem.run_bind, h, Result.andThen_ok]
  rfl
theorem run_slice_of {n : Nat} (ho : o.op = .buildSlice t n parts) (hp : (parts.map fun (i, x) => (i, A.eval x)) = ps) (h : (Instr.buildSlice t n ps).run P W = .ok v W') : (execOp A.eval o).run P W = .ok (.value v) W' := by
  unfold execOp
  simp only [ho, hp, Sem.run_bind, h, Result.andThen_ok]
  rfl
theorem run_field_of {i : Nat} (ho : o.op = .fieldAddr t x i) (hx : A.eval x = u) (h : (Instr.fieldAt t u i).run P W = .ok v W') : (execOp A.eval o).run P W = .ok (.value v) W' := by
  unfold execOp
  simp only [ho, hx, Sem.run_bind, h, Result.andThen_ok]
  rfl
theorem run_index_of {y : Operand} {z : Value} (ho : o.op = .indexAddr t x y) (hx : A.eval x = u) (hy : A.eval y = z) (h : (Instr.indexAt t u z).run P W = .ok v W') : (execOp A.eval o).run P W = .ok (.value v) W' := by
  unfold execOp
  simp only [ho, hx, hy, Sem.run_bind, h, Result.andThen_ok]
  rfl
theorem run_bin_of {op : BinOp} {y : Operand} {z : Value} {t' : TypeId} (ho : o.op = .binOp op t x y t') (hx : A.eval x = u) (hy : A.eval y = z) (h : (do eqGuard op t x y u z; binOp op t u z : Sem Value).run P W = .ok v W') : (execOp A.eval o).run P W = .ok (.value v) W' := by
  unfold execOp
  simp only [ho, hx, hy]
  rw [Sem.run_bind, h]
  rfl
end
theorem run_load_row {P : Program} {o : Oper} {A : Act} {w : World} {ty : TypeId} {x : Operand} {b : Nat} {t : TypeId} {cs : Array Value} {fr : Nat × Nat} (ho : o.op = .load ty x) (hx : A.eval x = .pointer (some ⟨b, 0, none⟩)) (hg : w.heap[b]? = some (.cells cs t fr)) (hT : RowTy P ty cs.size) :
    (execOp A.eval o).run P w = .ok (.value (.agg cs)) w := by
  unfold execOp
  simp only [ho, hx, Instr.loadAt, Instr.sureAddr, Sem.run_bind, Sem.run_pure, Result.andThen_ok, load_of hg hT]
section
variable {P : Program} {ops : Array Oper} {w0 w00 : World} {Q : Act → World → Prop} {o : Oper} {rest : List Oper} {k : Nat} {A : Act} {Ps : List PkW} {ns : List Nat} {M : List Blk}
/-- In a region that draws: a row is loaded. -/
theorem inw_row (hM : Mem w00 M w0) (i : Nat) {ty : TypeId} {x : Operand} {b : Nat} {t : TypeId} {cs : Array Value} {fr : Nat × Nat} {v : Value} (ho : o.op = .load ty x) (hx : A.eval x = .pointer (some ⟨b, 0, none⟩)) (hi : M[i]? = some (b, .cells cs t fr)) (hv : v = .agg cs) (hT : RowTy P ty cs.size)
    (hf : Ps.filter (waits ops o) = []) (hw : Region.wanted o (yielded ops A.tmps) = true) (hr : wpInw P ops w0 Q rest (k + 1) (A.put o.dst v) Ps ns) : wpInw P ops w0 Q (o :: rest) k A Ps ns := by
  subst hv
  exact inw_val hf hw (fun d os => run_load_row ho hx ((hM.calls (below_regrown w0 d os)).get i hi) hT) hr
theorem inw_part (hM : Mem w00 M w0) (i : Nat) {ty : TypeId} {x : Operand} {b off : Nat} {t : TypeId} {cs sub : Array Value} {fr : Nat × Nat} {v : Value} (ho : o.op = .load ty x) (hx : A.eval x = .pointer (some ⟨b, off, none⟩)) (hi : M[i]? = some (b, .cells cs t fr)) (hv : v = .agg sub) (hs : (cs.toList.drop off).take sub.size = sub.toList) (hT : RowTy P ty sub.size)
    (hf : Ps.filter (waits ops o) = []) (hw : Region.wanted o (yielded ops A.tmps) = true) (hr : wpInw P ops w0 Q rest (k + 1) (A.put o.dst v) Ps ns) : wpInw P ops w0 Q (o :: rest) k A Ps ns := by
  subst hv
  exact inw_val hf hw (fun d os => run_load_part ho hx ((hM.calls (below_regrown w0 d os)).get i hi) hs hT) hr
/-- .. what hangs on no block. -/
theorem inw_pure {v : Value} (h : ∀ W, (execOp A.eval o).run P W = .ok (.value v) W)
    (hf : Ps.filter (waits ops o) = []) (hw : Region.wanted o (yielded ops A.tmps) = true) (hr : wpInw P ops w0 Q rest (k + 1) (A.put o.dst v) Ps ns) : wpInw P ops w0 Q (o :: rest) k A Ps ns :=
  inw_val hf hw (fun _ _ => h _) hr
/-- .. a slice is made of values. -/
theorem inw_slice {n : Nat} {L : Array Value} {T : TypeId} (h : ∀ W, (execOp A.eval o).run P W = .ok (.value (.slice (some ⟨W.heap.size, 0, none⟩) n n)) (W.alloc (.cells L T (0, 0))))
    (hf : Ps.filter (waits ops o) = []) (hw : Region.wanted o (yielded ops A.tmps) = true)
    (hr : wpInw P ops w0 Q rest (k + 1) A (Ps ++ [(k, fun u w' => ∃ b, u = .slice (some ⟨b, 0, none⟩) n n ∧ w'.heap[b]? = some (.cells L T (0, 0)))]) ns) : wpInw P ops w0 Q (o :: rest) k A Ps ns :=
  inw_mk (fun b => .slice (some ⟨b, 0, none⟩) n n) (.cells L T (0, 0)) hf hw (fun _ _ => h _) hr
/-- .. a call. -/
theorem inw_callV {f : FuncId} {args : Array Value} {v : Value} (h : ∀ W, (execOp A.eval o).run P W = .ok (.enter f args) W)
    (hc : ∀ W, Below w0.heap.size w0 W → Calls P f args W fun e w' => e = .returned v ∧ Below W.heap.size W w')
    (hf : Ps.filter (waits ops o) = []) (hw : Region.wanted o (yielded ops A.tmps) = true) (hr : wpInw P ops w0 Q rest (k + 1) (A.put o.dst v) Ps ns) : wpInw P ops w0 Q (o :: rest) k A Ps ns :=
  inw_call hf hw (fun _ _ => h _) (fun d os => hc _ (below_regrown w0 d os)) hr
/-- .. a call of the slice made at operation j. -/
theorem inw_callS (j : Nat) (t : Tmp) {f : FuncId} {n : Nat} {L : Array Value} {T : TypeId} {v : Value} (hf : Ps.filter (waits ops o) = [(j, fun u w' => ∃ b, u = .slice (some ⟨b, 0, none⟩) n n ∧ w'.heap[b]? = some (.cells L T (0, 0)))]) (hd : dstOf ops j = some t)
    (hw : ∀ b, Region.wanted o (yielded ops (A.put (some t) (.slice (some ⟨b, 0, none⟩) n n)).tmps) = true)
    (h : ∀ b W, (execOp (A.put (some t) (.slice (some ⟨b, 0, none⟩) n n)).eval o).run P W = .ok (.enter f #[.slice (some ⟨b, 0, none⟩) n n]) W)
    (hc : ∀ b W, W.heap[b]? = some (.cells L T (0, 0)) → Calls P f #[.slice (some ⟨b, 0, none⟩) n n] W fun e w' => e = .returned v ∧ Below W.heap.size W w')
    (hr : wpInw P ops w0 Q rest (k + 1) (A.put o.dst v) Ps ns) : wpInw P ops w0 Q (o :: rest) k A Ps ns :=
  inw_callp (args := fun b => #[.slice (some ⟨b, 0, none⟩) n n]) (v0 := fun b => .slice (some ⟨b, 0, none⟩) n n) hf hd hw (fun b _ _ => h b _) hc hr
/-- The end: what was made, one after the other. -/
theorem inw_fin (h : ∀ d os, Given ops (grow (redrawn w0 d) os) Ps A (fun A => Apart ops ns A → Q A (grow (redrawn w0 d) os))) : wpInw P ops w0 Q [] k A Ps ns := h
end
theorem given_mk {ops : Array Oper} {w : World} {A : Act} {K : Act → Prop} {j : Nat} {t : Tmp} {v0 : Nat → Value} {ob : Obj} {ps : List PkW} (hd : dstOf ops j = some t) (h : ∀ b, Given ops w ps (A.put (some t) (v0 b)) K) : Given ops w ((j, fun u w' => ∃ b, u = v0 b ∧ w'.heap[b]? = some ob) :: ps) A K := by
  rintro u ⟨b, rfl, _⟩
  show Given ops w ps (A.put (dstOf ops j) (v0 b)) K
  rw [hd]
  exact h b
theorem given_new {ops : Array Oper} {w : World} {A : Act} {K : Act → Prop} {j : Nat} {t : Tmp} {B : Nat} {ob : Obj} {ps : List PkW} (hd : dstOf ops j = some t) (h : ∀ b, B ≤ b → w.heap[b]? = some ob → Given ops w ps (A.put (some t) (.pointer (some ⟨b, 0, none⟩))) K) : Given ops w ((j, fun u w' => ∃ b, u = .pointer (some ⟨b, 0, none⟩) ∧ B ≤ b ∧ w'.heap[b]? = some ob) :: ps) A K := by
  rintro u ⟨b, rfl, hB, hb⟩
  show Given ops w ps (A.put (dstOf ops j) (.pointer (some ⟨b, 0, none⟩))) K
  rw [hd]
  exact h b hB hb
theorem given_nil {ops : Array Oper} {w : World} {A : Act} {K : Act → Prop} (h : K A) : Given ops w [] A K := h
theorem Apart.ne {ops : Array Oper} {ns : List Nat} {A : Act} (h : Apart ops ns A) (i j : Nat) (hi : ns.contains i = true) (hj : ns.contains j = true) (hne : (i == j) = false) {d d' : Tmp} {b b' : Nat} (e1 : dstOf ops i = some d) (e2 : dstOf ops j = some d') (e3 : A.tmps[d]? = some (.pointer (some ⟨b, 0, none⟩))) (e4 : A.tmps[d']? = some (.pointer (some ⟨b', 0, none⟩))) : b ≠ b' :=
  h i (by simpa using hi) j (by simpa using hj) (by simpa using hne) d d' b b' e1 e2 e3 e4
section
variable {P : Program} {ops : Array Oper} {w w0 : World} {Q : Exit → Act → World → Prop} {o : Oper} {rest : List Oper} {A : Act} {M : List Blk}
/-- In a region of the text's order. -/
theorem wl_row (hM : Mem w0 M w) (i : Nat) {ty : TypeId} {x : Operand} {b : Nat} {t : TypeId} {cs : Array Value} {fr : Nat × Nat} {v : Value} (ho : o.op = .load ty x) (hx : A.eval x = .pointer (some ⟨b, 0, none⟩)) (hi : M[i]? = some (b, .cells cs t fr)) (hv : v = .agg cs) (hT : RowTy P ty cs.size)
    (hgd : Region.wanted o (yielded ops A.tmps) = true) (hr : wpList P ops Q rest (A.put o.dst v) w) : wpList P ops Q (o :: rest) A w := by
  subst hv
  refine wpList_step fun K hK => ?_
  rw [if_pos hgd]
  unfold Oper.wp
  rw [run_load_row ho hx (hM.get i hi) hT]
  exact hK _ _ hr
theorem wl_part (hM : Mem w0 M w) (i : Nat) {ty : TypeId} {x : Operand} {b off : Nat} {t : TypeId} {cs sub : Array Value} {fr : Nat × Nat} {v : Value} (ho : o.op = .load ty x) (hx : A.eval x = .pointer (some ⟨b, off, none⟩)) (hi : M[i]? = some (b, .cells cs t fr)) (hv : v = .agg sub) (hs : (cs.toList.drop off).take sub.size = sub.toList) (hT : RowTy P ty sub.size)
    (hgd : Region.wanted o (yielded ops A.tmps) = true) (hr : wpList P ops Q rest (A.put o.dst v) w) : wpList P ops Q (o :: rest) A w := by
  subst hv
  refine wpList_step fun K hK => ?_
  rw [if_pos hgd]
  unfold Oper.wp
  rw [run_load_part ho hx (hM.get i hi) hs hT]
  exact hK _ _ hr
theorem wl_far {ty : TypeId} {x : Operand} {b off : Nat} {t : TypeId} {cs sub : Array Value} {fr : Nat × Nat} {v : Value} (hg : w.heap[b]? = some (.cells cs t fr)) (ho : o.op = .load ty x) (hx : A.eval x = .pointer (some ⟨b, off, none⟩)) (hv : v = .agg sub) (hs : (cs.toList.drop off).take sub.size = sub.toList) (hT : RowTy P ty sub.size)
    (hgd : Region.wanted o (yielded ops A.tmps) = true) (hr : wpList P ops Q rest (A.put o.dst v) w) : wpList P ops Q (o :: rest) A w := by
  subst hv
  refine wpList_step fun K hK => ?_
  rw [if_pos hgd]
  unfold Oper.wp
  rw [run_load_part ho hx hg hs hT]
  exact hK _ _ hr
theorem wl_pure {v : Value} (h : ∀ W, (execOp A.eval o).run P W = .ok (.value v) W) (hgd : Region.wanted o (yielded ops A.tmps) = true) (hr : wpList P ops Q rest (A.put o.dst v) w) : wpList P ops Q (o :: rest) A w := by
  refine wpList_step fun K hK => ?_
  rw [if_pos hgd]
  unfold Oper.wp
  rw [h]
  exact hK _ _ hr
theorem wl_new (hM : Mem w0 M w) {f : Nat → Value} {ob : Obj} (h : ∀ W, (execOp A.eval o).run P W = .ok (.value (f W.heap.size)) (W.alloc ob)) (hgd : Region.wanted o (yielded ops A.tmps) = true) (hr : ∀ b W, Mem w0 ((b, ob) :: M) W → wpList P ops Q rest (A.put o.dst (f b)) W) : wpList P ops Q (o :: rest) A w := by
  refine wpList_step fun K hK => ?_
  rw [if_pos hgd]
  unfold Oper.wp
  rw [h]
  exact hK _ _ (hr _ _ (hM.new1 ob))
theorem wl_call (hM : Mem w0 M w) {f : FuncId} {args : Array Value} {v : Value} (h : ∀ W, (execOp A.eval o).run P W = .ok (.enter f args) W) (hc : Calls P f args w fun e w' => e = .returned v ∧ Below w.heap.size w w') (hgd : Region.wanted o (yielded ops A.tmps) = true) (hr : ∀ W, Mem w0 M W → wpList P ops Q rest (A.put o.dst v) W) : wpList P ops Q (o :: rest) A w := by
  refine wpList_step fun K hK => ?_
  rw [if_pos hgd]
  unfold Oper.wp
  rw [h]
  exact hc.mono fun e w' he => by
    obtain ⟨rfl, hb⟩ := he
    exact hK _ _ (hr _ (hM.calls hb))
theorem wl_callN (hM : Mem w0 M w) {f : FuncId} {args : Array Value} {v : Nat → Value} {ob : Obj} (h : ∀ W, (execOp A.eval o).run P W = .ok (.enter f args) W) (hc : Calls P f args w fun e w' => ∃ g, e = .returned (v g) ∧ w'.heap[g]? = some ob ∧ w.heap.size ≤ g ∧ Below w.heap.size w w') (hgd : Region.wanted o (yielded ops A.tmps) = true) (hr : ∀ g W, Mem w0 ((g, ob) :: M) W → wpList P ops Q rest (A.put o.dst (v g)) W) : wpList P ops Q (o :: rest) A w := by
  refine wpList_step fun K hK => ?_
  rw [if_pos hgd]
  unfold Oper.wp
  rw [h]
  exact hc.mono fun e w' he => by
    obtain ⟨g, rfl, hg, hl, hb⟩ := he
    exact hK _ _ (hr g _ (hM.news1 hb hl hg))
theorem wl_skip (hw : Region.wanted o (yielded ops A.tmps) = false) (hr : wpList P ops Q rest (A.put o.dst undef) w) : wpList P ops Q (o :: rest) A w := by
  refine wpList_step fun K hK => ?_
  rw [if_neg (by rw [hw]; decide)]
  exact hK _ _ hr
theorem wp_set (hM : Mem w0 M w) (i : Nat) {K : Act → World → Prop} {ty : TypeId} {x y : Operand} {b : Nat} {t : TypeId} {old cs : Array Value} (ho : o.op = .store ty x y) (hx : A.eval x = .pointer (some ⟨b, 0, none⟩)) (hy : A.eval y = .agg cs) (hi : M[i]? = some (b, .cells old t (0, 0))) (hT : RowTy P ty cs.size) (hs : old.size = cs.size) (h1 : cs.all (·.oneCell') = true)
    (hr : ∀ W, Mem w0 (M.set i (b, .cells cs t (0, 0))) W → K (A.put o.dst undef) W) : o.wp P A w K Q := by
  obtain ⟨_, h3⟩ := hT
  exact wp_store_row ty x y ho b cs hx hy t old (hM.get i hi) h3 hs h1 (hr _ (hM.set i hi))
theorem wl_set (hM : Mem w0 M w) (i : Nat) {ty : TypeId} {x y : Operand} {b : Nat} {t : TypeId} {old cs : Array Value} (ho : o.op = .store ty x y) (hx : A.eval x = .pointer (some ⟨b, 0, none⟩)) (hy : A.eval y = .agg cs) (hi : M[i]? = some (b, .cells old t (0, 0))) (hT : RowTy P ty cs.size) (hs : old.size = cs.size) (h1 : cs.all (·.oneCell') = true)
    (hgd : o.guard = none) (hd : o.dst = none) (hr : ∀ W, Mem w0 (M.set i (b, .cells cs t (0, 0))) W → wpList P ops Q rest A W) : wpList P ops Q (o :: rest) A w :=
  wpList_plain hgd fun _ hK => wp_set hM i ho hx hy hi hT hs h1 fun W hW => by
    rw [hd]
    exact hK _ _ (hr W hW)
end
section
variable {P : Program} {ops : Array Oper} {w w0 : World} {Q : Exit → Act → World → Prop} {o : Oper} {A : Act} {M : List Blk} {md : Region.Mode} {fuel : Nat} {listed : Array Bool}
/-- Behind a drawn region's first operations: a store, all others being behind it. -/
theorem any_set {n : Nat} (hr : Region.ready md ops listed = [n]) (hn : ops[n]? = some o) (hM : Mem w0 M w) (i : Nat) {ty : TypeId} {x y : Operand} {b : Nat} {t : TypeId} {old cs : Array Value} (ho : o.op = .store ty x y) (hx : A.eval x = .pointer (some ⟨b, 0, none⟩)) (hy : A.eval y = .agg cs) (hi : M[i]? = some (b, .cells old t (0, 0))) (hT : RowTy P ty cs.size) (hs : old.size = cs.size) (h1 : cs.all (·.oneCell') = true)
    (hgd : o.guard = none) (hd : o.dst = none) (hk : ∀ W, Mem w0 (M.set i (b, .cells cs t (0, 0))) W → wpAny P md ops Q fuel (listed.setIfInBounds n true) A W) : wpAny P md ops Q (fuel + 1) listed A w :=
  any_one hr hn fun K hK => by
    rw [if_pos (by simp [Region.wanted, hgd])]
    refine wp_set hM i ho hx hy hi hT hs h1 fun W hW => ?_
    rw [hd]
    exact hK _ _ (hk W hW)
theorem any_pure {n : Nat} {v : Value} {t : Tmp} (hr : Region.ready md ops listed = [n]) (hn : ops[n]? = some o) (h : ∀ W, (execOp A.eval o).run P W = .ok (.value v) W) (hgd : o.guard = none) (hd : o.dst = some t) (hk : wpAny P md ops Q fuel (listed.setIfInBounds n true) (A.put (some t) v) w) : wpAny P md ops Q (fuel + 1) listed A w :=
  any_one hr hn fun K hK => by
    rw [← hd] at hk
    rw [if_pos (by simp [Region.wanted, hgd])]
    unfold Oper.wp
    rw [h]
    exact hK _ _ hk
end
theorem Mem.drew {w0 w : World} {M : List Blk} (h : Mem w0 M w) : Mem w0 M w.drew := h.calls ⟨rfl, rfl, rfl, Nat.le_refl _, fun _ _ => rfl⟩
section
variable {P : Program} {ops : Array Oper} {w w0 : World} {Q : Exit → Act → World → Prop} {o : Oper} {A : Act} {M : List Blk} {md : Region.Mode} {fuel : Nat} {listed : Array Bool} {S : World → Prop}
/-- In a region that neither calls nor makes: what reads comes first. -/
theorem hd_take (n : Nat) (d : Tmp) {v : Value} (L : Array Bool) (hL : listed.setIfInBounds n true = L) (hn : ops[n]? = some o) (hdd : o.dst = some d) (hs : Region.noSelect ops = true) (hf : Region.free md ops listed n = true) (hr : (Region.ready md ops listed).contains n = true) (hw : Region.wanted o (yielded ops A.tmps) = true) (hy : ∀ W, S W → (execOp A.eval o).run P W = .ok (.value v) W) (hS : S w)
    (h : wpAnyH P md ops (NoPanic Q) S fuel L (A.put (some d) v) w) : wpAnyH P md ops (NoPanic Q) S (fuel + 1) listed A w :=
  wpAnyH_take hn hs hf hr (fun _ _ _ h => h) (.inl ⟨hw, hy⟩) hS (by rw [hL, hdd]; exact h)
theorem hd_row (n : Nat) (d : Tmp) {v : Value} {ty : TypeId} {x : Operand} {b : Nat} {t : TypeId} {cs : Array Value} {fr : Nat × Nat} (L : Array Bool) (hL : listed.setIfInBounds n true = L) (hn : ops[n]? = some o) (hdd : o.dst = some d) (ho : o.op = .load ty x) (hx : A.eval x = .pointer (some ⟨b, 0, none⟩)) (hg : ∀ W, S W → W.heap[b]? = some (.cells cs t fr)) (hv : v = .agg cs) (hT : RowTy P ty cs.size) (hs : Region.noSelect ops = true) (hf : Region.free md ops listed n = true) (hr : (Region.ready md ops listed).contains n = true) (hw : Region.wanted o (yielded ops A.tmps) = true) (hS : S w)
    (h : wpAnyH P md ops (NoPanic Q) S fuel L (A.put (some d) v) w) : wpAnyH P md ops (NoPanic Q) S (fuel + 1) listed A w := by
  subst hv
  exact hd_take n d L hL hn hdd hs hf hr hw (fun W hW => run_load_row ho hx (hg W hW) hT) hS h
theorem hd_part (n : Nat) (d : Tmp) {v : Value} {ty : TypeId} {x : Operand} {b off : Nat} {t : TypeId} {cs sub : Array Value} {fr : Nat × Nat} (L : Array Bool) (hL : listed.setIfInBounds n true = L) (hn : ops[n]? = some o) (hdd : o.dst = some d) (ho : o.op = .load ty x) (hx : A.eval x = .pointer (some ⟨b, off, none⟩)) (hg : ∀ W, S W → W.heap[b]? = some (.cells cs t fr)) (hv : v = .agg sub) (hsub : (cs.toList.drop off).take sub.size = sub.toList) (hT : RowTy P ty sub.size) (hs : Region.noSelect ops = true) (hf : Region.free md ops listed n = true) (hr : (Region.ready md ops listed).contains n = true) (hw : Region.wanted o (yielded ops A.tmps) = true) (hS : S w)
    (h : wpAnyH P md ops (NoPanic Q) S fuel L (A.put (some d) v) w) : wpAnyH P md ops (NoPanic Q) S (fuel + 1) listed A w := by
  subst hv
  exact hd_take n d L hL hn hdd hs hf hr hw (fun W hW => run_load_part ho hx (hg W hW) hsub hT) hS h
theorem hd_set {n : Nat} (L : Array Bool) (hL : listed.setIfInBounds n true = L) (hr : Region.ready md ops listed = [n]) (hn : ops[n]? = some o) (hM : Mem w0 M w) (i : Nat) {ty : TypeId} {x y : Operand} {b : Nat} {t : TypeId} {old cs : Array Value} (ho : o.op = .store ty x y) (hx : A.eval x = .pointer (some ⟨b, 0, none⟩)) (hy : A.eval y = .agg cs) (hi : M[i]? = some (b, .cells old t (0, 0))) (hT : RowTy P ty cs.size) (hs : old.size = cs.size) (h1 : cs.all (·.oneCell') = true)
    (hgd : o.guard = none) (hd : o.dst = none) (hSW : ∀ W, Mem w0 (M.set i (b, .cells cs t (0, 0))) W → S W) (hk : ∀ W, Mem w0 (M.set i (b, .cells cs t (0, 0))) W → wpAnyH P md ops Q S fuel L A W) : wpAnyH P md ops Q S (fuel + 1) listed A w :=
  wpAnyH_ready hr (by simp) fun j hj => by
    obtain rfl : j = n := by simpa using hj
    unfold wpOp
    simp only [hn]
    rw [if_pos (by simp [Region.wanted, hgd])]
    refine .inl (wp_set hM i ho hx hy hi hT hs h1 fun W hW => ?_)
    rw [hd]
    rw [hL]
    exact ⟨hSW W hW, hk W hW⟩
end
end Go.Proofs.YtdnkpclpcelbaaaDoor
