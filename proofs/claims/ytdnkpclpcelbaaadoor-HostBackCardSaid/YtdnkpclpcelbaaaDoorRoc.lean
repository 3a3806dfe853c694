/- Blocks of one cell, and one cell of a row: loads and stores, for XRow's rules. No program in it. -/
import Derived.Test.YtdnkpclpcelbaaaDoorRow
import Derived.Great.BuildSlice
import Derived.Laws.CopyRow
namespace Go.Proofs.YtdnkpclpcelbaaaDoor
set_option maxRecDepth 20000
set_option linter.unusedSimpArgs false
set_option linter.unusedVariables false
open Go.RowKit Go.Sort
/-- A type whose values lie in one cell. -/
def CellTy (P : Program) (ty : TypeId) : Prop := (∃ d, P.underlying ty = some d ∧ (match d with | .struct _ | .array _ _ => false | _ => true) = true) ∧ (P.info? ty).map (·.size) = some 1
section
variable {P : Program} {w w0 w00 : World} {M : List Blk} {o : Oper} {A : Act}
/-- A function value that has taken variables is called. -/
theorem run_call_dyn {f : FuncId} {x : Operand} {args : Array Operand} {tys : Array TypeId} {vals first cap all : Array Value} (W : World) (hE : Enters P f) (ho : o.op = .call { callee := .value x, args := args, argTypes := tys }) (hx : A.eval x = .func (.func f) first cap) (hv : args.map A.eval = vals) (ha : first ++ vals ++ cap = all) : (execOp A.eval o).run P W = .ok (.enter f all) W := by
  have h := hE all W
  unfold execOp
  simp [ho, resolve, Deferred.ofValue, hx, invoke, hv]
  rw [← Array.append_assoc, ha, h]
theorem run_makeFunc_of {fn : Fn} {first cap : Array Operand} {v : Value} {W W' : World} (ho : o.op = .makeFunc fn first cap) (h : (Instr.makeFunc fn (first.map A.eval) (cap.map A.eval)).run P W = .ok v W') : (execOp A.eval o).run P W = .ok (.value v) W' := by
  unfold execOp
  simp only [ho, Sem.run_bind, h, Result.andThen_ok]
  rfl
theorem load_cell {b off : Nat} {cs : Array Value} {v : Value} {t : TypeId} {fr : Nat × Nat} (hi : w.heap[b]? = some (.cells cs t fr)) (hv : cs[off]? = some v) {ty : TypeId} (hT : CellTy P ty) : (loadVar ty ⟨b, off, none⟩).run P w = .ok v w := by
  obtain ⟨⟨d, hu, hd⟩, _⟩ := hT
  have hagg : (isAgg ty).run P w = .ok false w := by
    unfold isAgg
    rw [Sem.run_bind, run_underlying hu w]
    cases d <;> first | rfl | cases hd
  have hc : w.cell? ⟨b, off, none⟩ = some v := by rw [cell_of_row w b off cs t fr hi, hv]
  unfold loadVar
  rw [Sem.run_bind, hagg]
  simp [hc]
theorem run_load_cell {ty : TypeId} {x : Operand} {b off : Nat} {t : TypeId} {cs : Array Value} {v : Value} {fr : Nat × Nat} (ho : o.op = .load ty x) (hx : A.eval x = .pointer (some ⟨b, off, none⟩)) (hg : w.heap[b]? = some (.cells cs t fr)) (hv : cs[off]? = some v) (hT : CellTy P ty) :
    (execOp A.eval o).run P w = .ok (.value v) w := by
  unfold execOp
  simp only [ho, hx, Instr.loadAt, Instr.sureAddr, Sem.run_bind, Sem.run_pure, Result.andThen_ok, load_cell hg hv hT]
/-- A value of one cell goes into a row's cell. -/
theorem run_store_at {b off : Nat} {cs : Array Value} {v : Value} {t ty : TypeId} (hg : w.heap[b]? = some (.cells cs t (0, 0))) (hl : off < cs.size) (hT : CellTy P ty) (h1 : v.oneCell' = true) : (storeVar ty ⟨b, off, none⟩ v).run P w = .ok () (w.setRow b (cs.setIfInBounds off v)) := by
  have h := run_storeCells_at (P := P) b off t [v] 0 cs w hg (by simp only [List.length_singleton]; omega) (fun x hx => by simp at hx; subst hx; exact h1)
  have hc : v.cells = #[v] := by cases v <;> first | rfl | cases h1
  obtain ⟨_, hi⟩ := hT
  cases hq : P.info? ty with
  | none => simp [hq] at hi
  | some i =>
    have hs : i.size = 1 := by simpa [hq] using hi
    simp [storeVar, hc, sizeOf, typeInfo, hq, hs, Sem.run_bind]
    rw [h]
    congr 2
    refine Array.ext' ?_
    rw [Array.toList_setIfInBounds, List.set_eq_take_append_cons_drop, if_pos (by simpa using hl)]
    simp
end
section
variable {P : Program} {ops : Array Oper} {w w0 w00 : World} {Q : Exit → Act → World → Prop} {Qw : Act → World → Prop} {o : Oper} {rest : List Oper} {A : Act} {M : List Blk} {k : Nat} {Ps : List PkW} {ns : List Nat} {md : Region.Mode} {fuel : Nat} {listed : Array Bool} {S : World → Prop}
theorem wl_cell (hM : Mem w0 M w) (i : Nat) {ty : TypeId} {x : Operand} {b off : Nat} {t : TypeId} {cs : Array Value} {fr : Nat × Nat} {v : Value} (ho : o.op = .load ty x) (hx : A.eval x = .pointer (some ⟨b, off, none⟩)) (hi : M[i]? = some (b, .cells cs t fr)) (hv : cs[off]? = some v) (hT : CellTy P ty)
    (hgd : Region.wanted o (yielded ops A.tmps) = true) (hr : wpList P ops Q rest (A.put o.dst v) w) : wpList P ops Q (o :: rest) A w := by
  refine wpList_step fun K hK => ?_
  rw [if_pos hgd]
  unfold Oper.wp
  rw [run_load_cell ho hx (hM.get i hi) hv hT]
  exact hK _ _ hr
theorem inw_cell (hM : Mem w00 M w0) (i : Nat) {ty : TypeId} {x : Operand} {b off : Nat} {t : TypeId} {cs : Array Value} {fr : Nat × Nat} {v : Value} (ho : o.op = .load ty x) (hx : A.eval x = .pointer (some ⟨b, off, none⟩)) (hi : M[i]? = some (b, .cells cs t fr)) (hv : cs[off]? = some v) (hT : CellTy P ty)
    (hf : Ps.filter (waits ops o) = []) (hw : Region.wanted o (yielded ops A.tmps) = true) (hr : wpInw P ops w0 Qw rest (k + 1) (A.put o.dst v) Ps ns) : wpInw P ops w0 Qw (o :: rest) k A Ps ns :=
  inw_val hf hw (fun d os => run_load_cell ho hx ((hM.calls (below_regrown w0 d os)).get i hi) hv hT) hr
theorem hd_cell (n : Nat) (d : Tmp) {v : Value} {ty : TypeId} {x : Operand} {b off : Nat} {t : TypeId} {cs : Array Value} {fr : Nat × Nat} (L : Array Bool) (hL : listed.setIfInBounds n true = L) (hn : ops[n]? = some o) (hdd : o.dst = some d) (ho : o.op = .load ty x) (hx : A.eval x = .pointer (some ⟨b, off, none⟩)) (hg : ∀ W, S W → W.heap[b]? = some (.cells cs t fr)) (hv : cs[off]? = some v) (hT : CellTy P ty) (hs : Region.noSelect ops = true) (hf : Region.free md ops listed n = true) (hr : (Region.ready md ops listed).contains n = true) (hw : Region.wanted o (yielded ops A.tmps) = true) (hS : S w)
    (h : wpAnyH P md ops (NoPanic Q) S fuel L (A.put (some d) v) w) : wpAnyH P md ops (NoPanic Q) S (fuel + 1) listed A w :=
  hd_take n d L hL hn hdd hs hf hr hw (fun W hW => run_load_cell ho hx (hg W hW) hv hT) hS h
/-- A value of one cell is stored. -/
theorem wp_setat (hM : Mem w0 M w) (i : Nat) {K : Act → World → Prop} {ty : TypeId} {x y : Operand} {b off : Nat} {t : TypeId} {cs cs' : Array Value} {v : Value} (ho : o.op = .store ty x y) (hx : A.eval x = .pointer (some ⟨b, off, none⟩)) (hy : A.eval y = v) (hi : M[i]? = some (b, .cells cs t (0, 0))) (hl : off < cs.size) (hc : cs.setIfInBounds off v = cs') (hT : CellTy P ty) (h1 : v.oneCell' = true)
    (hr : ∀ W, Mem w0 (M.set i (b, .cells cs' t (0, 0))) W → K (A.put o.dst undef) W) : o.wp P A w K Q := by
  subst hc
  unfold Oper.wp execOp
  simp only [ho, hx, hy, Instr.storeAt, Instr.sureAddr, Sem.run_bind, Sem.run_pure, Result.andThen_ok, run_store_at (hM.get i hi) hl hT h1]
  exact hr _ (hM.set i hi)
theorem wl_setat (hM : Mem w0 M w) (i : Nat) {ty : TypeId} {x y : Operand} {b off : Nat} {t : TypeId} {cs cs' : Array Value} {v : Value} (ho : o.op = .store ty x y) (hx : A.eval x = .pointer (some ⟨b, off, none⟩)) (hy : A.eval y = v) (hi : M[i]? = some (b, .cells cs t (0, 0))) (hl : off < cs.size) (hc : cs.setIfInBounds off v = cs') (hT : CellTy P ty) (h1 : v.oneCell' = true)
    (hgd : Region.wanted o (yielded ops A.tmps) = true) (hd : o.dst = none) (hr : ∀ W, Mem w0 (M.set i (b, .cells cs' t (0, 0))) W → wpList P ops Q rest A W) : wpList P ops Q (o :: rest) A w := by
  refine wpList_step fun K hK => ?_
  rw [if_pos hgd]
  refine wp_setat hM i ho hx hy hi hl hc hT h1 fun W hW => ?_
  rw [hd]
  exact hK _ _ (hr W hW)
theorem any_setat {n : Nat} (hr : Region.ready md ops listed = [n]) (hn : ops[n]? = some o) (hM : Mem w0 M w) (i : Nat) {ty : TypeId} {x y : Operand} {b off : Nat} {t : TypeId} {cs cs' : Array Value} {v : Value} (ho : o.op = .store ty x y) (hx : A.eval x = .pointer (some ⟨b, off, none⟩)) (hy : A.eval y = v) (hi : M[i]? = some (b, .cells cs t (0, 0))) (hl : off < cs.size) (hc : cs.setIfInBounds off v = cs') (hT : CellTy P ty) (h1 : v.oneCell' = true)
    (hgd : o.guard = none) (hd : o.dst = none) (hk : ∀ W, Mem w0 (M.set i (b, .cells cs' t (0, 0))) W → wpAny P md ops Q fuel (listed.setIfInBounds n true) A W) : wpAny P md ops Q (fuel + 1) listed A w :=
  any_one hr hn fun K hK => by
    rw [if_pos (by simp [Region.wanted, hgd])]
    refine wp_setat hM i ho hx hy hi hl hc hT h1 fun W hW => ?_
    rw [hd]
    exact hK _ _ (hk W hW)
theorem hd_setat {n : Nat} (L : Array Bool) (hL : listed.setIfInBounds n true = L) (hr : Region.ready md ops listed = [n]) (hn : ops[n]? = some o) (hM : Mem w0 M w) (i : Nat) {ty : TypeId} {x y : Operand} {b off : Nat} {t : TypeId} {cs cs' : Array Value} {v : Value} (ho : o.op = .store ty x y) (hx : A.eval x = .pointer (some ⟨b, off, none⟩)) (hy : A.eval y = v) (hi : M[i]? = some (b, .cells cs t (0, 0))) (hl : off < cs.size) (hc : cs.setIfInBounds off v = cs') (hT : CellTy P ty) (h1 : v.oneCell' = true)
    (hgd : o.guard = none) (hd : o.dst = none) (hSW : ∀ W, Mem w0 (M.set i (b, .cells cs' t (0, 0))) W → S W) (hk : ∀ W, Mem w0 (M.set i (b, .cells cs' t (0, 0))) W → wpAnyH P md ops Q S fuel L A W) : wpAnyH P md ops Q S (fuel + 1) listed A w :=
  wpAnyH_ready hr (by simp) fun j hj => by
    obtain rfl : j = n := by simpa using hj
    unfold wpOp
    simp only [hn]
    rw [if_pos (by simp [Region.wanted, hgd])]
    refine .inl (wp_setat hM i ho hx hy hi hl hc hT h1 fun W hW => ?_)
    rw [hd, hL]
    exact ⟨hSW W hW, hk W hW⟩
end
end Go.Proofs.YtdnkpclpcelbaaaDoor
