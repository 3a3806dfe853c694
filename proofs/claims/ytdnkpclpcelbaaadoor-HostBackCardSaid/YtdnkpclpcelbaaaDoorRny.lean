/- Regions in a round of a range over a function, walked by the plain calculus; rows of a call's own beside what it lists. No program in it. -/
import Derived.Test.YtdnkpclpcelbaaaDoorRgn
import Derived.Test.YtdnkpclpcelbaaaDoorRnx
import Derived.Test.YtdnkpclpcelbaaaDoorApp
import Derived.TacticsInMore
import Derived.OwnWalkIn
namespace Go.Proofs.YtdnkpclpcelbaaaDoor
set_option maxRecDepth 20000
set_option linter.unusedSimpArgs false
set_option linter.unusedVariables false
open Go.RowKit Go.Sort
section
variable {P : Program} {ops : Array Oper} {Q : Exit → Act → World → Prop} {l n : Nat}
theorem listIn_of (hL : ¬ LetsOut Q) : ∀ (ls : List Oper) (a : Act) (w : World), ls.all notDefer = true → wpList P ops Q ls a w → wpListIn (Fence.wide.inRound l) n P ops Q ls a w
  | [], _, _, _, h => h
  | o :: rest, a, w, hp, h => by
    rw [List.all_cons, Bool.and_eq_true] at hp
    unfold wpList at h
    unfold wpListIn
    split
    · rename_i hw
      rw [if_pos hw] at h
      rcases h with h | ⟨-, h⟩
      · exact Oper.wpIn_mono (fun a w => listIn_of hL rest a w hp.2) (opIn_of hp.1 h)
      · exact absurd h hL
    · rename_i hw
      rw [if_neg hw] at h
      exact ⟨fun _ _ => trivial, listIn_of hL rest _ w hp.2 h⟩
theorem regionL_inRound {id : Nat} {a : Act} {w : World} {ls : List Oper} (R : Act → World → Prop) (hp : ls.all notDefer = true) (h : wpList P ls.toArray (fun e A W' => e = .normal ∧ R A W') ls a w) (hQ : ∀ A W', R A W' → Q .normal A W') : (Code.region id ls.toArray false).wpIn (Fence.wide.inRound l) n P Q a w :=
  wpIn_mono (wpIn_region_lit (listIn_of (by rintro ⟨a, w, h, -⟩; cases h) ls a w hp h)) (by rintro e A W' ⟨rfl, h⟩; exact hQ A W' h)
end
section
variable {P : Program} {w w' : World} {ops : Array Oper} {Q : Exit → Act → World → Prop} {o : Oper} {rest : List Oper} {A : Act}
/-- An operation that leaves a world which is known. -/
theorem lw_valW {v : Value} (h : (execOp A.eval o).run P w = .ok (.value v) w') (hgd : Region.wanted o (yielded ops A.tmps) = true) (hr : wpList P ops Q rest (A.put o.dst v) w') : wpList P ops Q (o :: rest) A w := by
  refine wpList_step fun K hK => ?_
  rw [if_pos hgd]
  unfold Oper.wp
  rw [h]
  exact hK _ _ hr
theorem lw_skipW (h : (execOp A.eval o).run P w = .ok .skip w') (hgd : Region.wanted o (yielded ops A.tmps) = true) (hd : o.dst = none) (hr : wpList P ops Q rest A w') : wpList P ops Q (o :: rest) A w := by
  refine wpList_step fun K hK => ?_
  rw [if_pos hgd]
  unfold Oper.wp
  rw [h]
  show K (A.put o.dst undef) w'
  rw [hd]
  exact hK _ _ hr
end
section
variable {F : Fence} {n : Nat} {P : Program} {ops : Array Oper} {Q : Exit → Act → World → Prop} {o : Oper} {rest : List Oper} {A : Act} {w w' : World}
theorem wi_val {v : Value} (hF : ∀ f, F.fn f) (hnd : ∀ c, o.op ≠ .defer c) (h : (execOp A.eval o).run P w = .ok (.value v) w') (hgd : o.guard = none) (hr : wpListIn F n P ops Q rest (A.put o.dst v) w') : wpListIn F n P ops Q (o :: rest) A w := by
  refine wpListIn_plain hgd ?_
  intro K hK
  refine ⟨fun f _ => hF f, ?_⟩
  rw [Oper.semAt_eq _ _ _ hnd, h]
  exact hK _ _ hr
theorem wi_skip (hF : ∀ f, F.fn f) (hnd : ∀ c, o.op ≠ .defer c) (h : (execOp A.eval o).run P w = .ok .skip w') (hgd : o.guard = none) (hd : o.dst = none) (hr : wpListIn F n P ops Q rest A w') : wpListIn F n P ops Q (o :: rest) A w := by
  refine wpListIn_plain hgd ?_
  intro K hK
  refine ⟨fun f _ => hF f, ?_⟩
  rw [Oper.semAt_eq _ _ _ hnd, h]
  show K (A.put o.dst undef) w'
  rw [hd]
  exact hK _ _ hr
theorem wpIn_fr {c : Code} {t t' : Array Value} {W : World} (e : t = t') (h : c.wpIn F n P Q { tmps := t', defers := [] } W) : c.wpIn F n P Q { tmps := t, defers := [] } W := by
  rw [e]; exact h
theorem run_store_whole {ty : TypeId} {x y : Operand} {b : Nat} {t : TypeId} {old cs : Array Value} (hg : w.heap[b]? = some (.cells old t (0, 0))) (ho : o.op = .store ty x y) (hx : A.eval x = .pointer (some ⟨b, 0, none⟩)) (hy : A.eval y = .agg cs) (hT : RowTy P ty cs.size) (hs : old.size = cs.size) (h1 : cs.all (·.oneCell') = true) : (execOp A.eval o).run P w = .ok .skip (w.setRow b cs) := by
  have h := run_store_part (P := P) (off := 0) (sub := cs) hg (by omega) hT.2 h1
  have e : (old.toList.take 0 ++ cs.toList ++ old.toList.drop (0 + cs.size)).toArray = cs := by
    rw [List.take_zero, List.nil_append, Nat.zero_add, ← hs, List.drop_eq_nil_of_le (by simp), List.append_nil, Array.toArray_toList]
  rw [e] at h
  unfold execOp
  simp only [ho, hx, hy, Instr.storeAt, Instr.sureAddr, Sem.run_bind, Sem.run_pure, Result.andThen_ok, h]
end
theorem setRow_keeps (W : World) (b B : Nat) (cs : Array Value) (h : b < B) : KeepsFrom B W (W.setRow b cs) :=
  ⟨by simp, fun k o hk hg _ => by rw [setRow_other W b k cs (by omega)]; exact hg⟩
theorem below_keeps {W W' : World} (h : Below W.heap.size W W') (B : Nat) : KeepsFrom B W W' :=
  ⟨h.size, fun k o _ hg _ => (h.block k (Array.getElem?_eq_some_iff.1 hg).1).trans hg⟩
/-- A list's element and all ahead of it. -/
theorem pre_mem {α : Type} {L pre : List α} {x : α} (h : pre ++ [x] <+: L) : ∃ r, L = pre ++ x :: r := by
  obtain ⟨r, rfl⟩ := h
  exact ⟨r, by simp⟩
theorem run_store_one {P : Program} {w : World} {o : Oper} {A : Act} {ty : TypeId} {x y : Operand} {b : Nat} {t : TypeId} {u v : Value} (hg : w.heap[b]? = some (.cells #[u] t (0, 0))) (ho : o.op = .store ty x y) (hx : A.eval x = .pointer (some ⟨b, 0, none⟩)) (hy : A.eval y = v) (hT : CellTy P ty) (h1 : v.oneCell' = true) : (execOp A.eval o).run P w = .ok .skip (w.setRow b #[v]) := by
  have h := run_store_at (P := P) (off := 0) (v := v) hg (by simp) hT h1
  unfold execOp
  simp only [ho, hx, hy, Instr.storeAt, Instr.sureAddr, Sem.run_bind, Sem.run_pure, Result.andThen_ok, h]
  rfl
/-- append onto a slice of the call's own, as it is run. -/
theorem run_app_of {P : Program} {w : World} {o : Oper} {A : Act} {s x : Operand} {t : TypeId} (ho : o.op = .call { callee := .builtin .append, args := #[s, x], argTypes := #[t, t] }) {u a v' : Value} {w' : World} (hs : A.eval s = u) (hx : A.eval x = a) (h : (Builtin.append_ #[t, t] o.type #[u, a]).run P w = .ok v' w') : (execOp A.eval o).run P w = .ok (.value v') w' := by
  unfold execOp
  simp only [ho, resolve, invoke, builtin, Sem.run_bind, Sem.run_pure, Result.andThen_ok, List.map_toArray, List.map_cons, List.map_nil, hs, hx, h]
section
variable {w0 w w' : World} {M : List Blk}
theorem mem_grown {row : Option Nat} (h : Mem w0 M w) (hg : w.grownBy w' row) (hr : ∀ g, row = some g → w0.heap.size ≤ g ∧ ∀ p ∈ M, p.1 ≠ g) : Mem w0 M w' := by
  refine ⟨⟨hg.os.trans h.below.os, hg.tape.trans h.below.tape, hg.output.trans h.below.output, Nat.le_trans h.below.size hg.size, fun k hk => ?_⟩, h.low, h.nod, fun p hp => ?_⟩
  · exact (hg.block k (Nat.lt_of_lt_of_le hk h.below.size) (fun e => by have := (hr k e.symm).1; omega)).trans (h.below.block k hk)
  · exact (hg.block p.1 (h.lt hp) (fun e => (hr _ e.symm).2 p hp rfl)).trans (h.at_ p hp)
/-- What is listed, all of it cells, stays while blocks of other kinds are turned. -/
theorem mem_own {row : Option Nat} {D : Nat} (h : Mem w0 M w) (hc : ∀ p ∈ M, p.2.isCells = true) (hD : w0.heap.size ≤ D) (hg : w.grownBy w' row) (hr : ∀ r, row = some r → D ≤ r ∧ ∃ o : Obj, w.heap[r]? = some o ∧ o.isCells = false) : Mem w0 M w' :=
  mem_grown h hg fun g e => by
    obtain ⟨h1, o, h2, h3⟩ := hr g e
    refine ⟨by omega, fun p hp e => ?_⟩
    subst e
    rw [h.at_ p hp] at h2
    cases h2
    rw [hc p hp] at h3
    cases h3
theorem cells_own {row : Option Nat} {k : Nat} {cs : Array Value} {T : TypeId} {fr : Nat × Nat} (h : w.heap[k]? = some (.cells cs T fr)) (hg : w.grownBy w' row) (hr : ∀ r, row = some r → ∃ o : Obj, w.heap[r]? = some o ∧ o.isCells = false) : w'.heap[k]? = some (.cells cs T fr) :=
  (hg.block k (Array.getElem?_eq_some_iff.1 h).1 (fun e => by
    obtain ⟨o, h2, h3⟩ := hr k e.symm
    rw [h] at h2
    cases h2
    cases h3)).trans h
theorem owns_own {row : Option Nat} {D sz n : Nat} {e : TypeId} {v : Value} {xs : List Value} (h : w.ownsRow D e sz v n xs) (hg : w.grownBy w' row) (hr : ∀ r, row = some r → ∃ o : Obj, w.heap[r]? = some o ∧ o.isCells = false) : w'.ownsRow D e sz v n xs := by
  obtain ⟨hl, h⟩ := h
  refine ⟨hl, ?_⟩
  rcases h with h | ⟨g, cap, cur, h1, h2, h3, h4, h5, h6, h7⟩
  · exact .inl h
  · exact .inr ⟨g, cap, cur, h1, h2, cells_own h3 hg hr, h4, h5, h6, h7⟩
theorem owns_setRow {D sz n c : Nat} {e : TypeId} {v : Value} {xs : List Value} {cs : Array Value} (h : w.ownsRow D e sz v n xs) (hc : c < D) : (w.setRow c cs).ownsRow D e sz v n xs := by
  obtain ⟨hl, h⟩ := h
  refine ⟨hl, ?_⟩
  rcases h with h | ⟨g, cap, cur, h1, h2, h3, h4, h5, h6, h7⟩
  · exact .inl h
  · exact .inr ⟨g, cap, cur, h1, h2, by rw [setRow_other _ _ _ _ (by omega)]; exact h3, h4, h5, h6, h7⟩
theorem owns_below {D sz n B : Nat} {e : TypeId} {v : Value} {xs : List Value} (h : w.ownsRow D e sz v n xs) (hb : Below w.heap.size w w') (hB : B ≤ D) : w'.ownsRow B e sz v n xs := by
  obtain ⟨hl, h⟩ := h
  refine ⟨hl, ?_⟩
  rcases h with h | ⟨g, cap, cur, h1, h2, h3, h4, h5, h6, h7⟩
  · exact .inl h
  · exact .inr ⟨g, cap, cur, h1, by omega, (hb.block g (Array.getElem?_eq_some_iff.1 h3).1).trans h3, h4, h5, h6, h7⟩
/-- Where a slice's row lies. -/
theorem owns_lt {D sz n g : Nat} {e : TypeId} {v : Value} {xs : List Value} (h : w.ownsRow D e sz v n xs) (hv : v.ownBlock = some g) : D ≤ g ∧ g < w.heap.size ∧ ∃ cs, w.heap[g]? = some (.cells cs e (0, 0)) := by
  obtain ⟨hl, h⟩ := h
  rcases h with h | ⟨g', cap, cur, rfl, h2, h3, h4, h5, h6, h7⟩
  · obtain ⟨rfl, rfl⟩ | ⟨rfl, -⟩ := Or.inl (b := v = .slice none 0 0 ∧ True) h
    · cases hv
    · cases hv
  · have e : g' = g := by simpa [Value.ownBlock] using hv
    subst e
    exact ⟨h2, (Array.getElem?_eq_some_iff.1 h3).1, cur, h3⟩
end
/-- Where the row of the slice that a block holds lies. -/
def rowOf (c : Nat) (W : World) : Option Nat := (W.cell? ⟨c, 0, none⟩).bind Value.ownBlock
theorem rowOf_of {c : Nat} {W : World} {v : Value} {T : TypeId} (h : W.heap[c]? = some (.cells #[v] T (0, 0))) : rowOf c W = v.ownBlock := by
  unfold rowOf
  rw [show W.cell? ⟨c, 0, none⟩ = some v by rw [cell_of_row W c 0 #[v] T (0, 0) h]; rfl]
  rfl
theorem rowOf_same {c : Nat} {A B : World} (h : B.heap[c]? = A.heap[c]?) : rowOf c B = rowOf c A := by
  unfold rowOf
  rw [World.cell?_of_block h]
/-- A block that ranges over its own slice: what is not its own. -/
def FrC (c D : Nat) (W : World) (k : Nat) : Prop := k ≠ c ∧ k ≠ D + 1 ∧ rowOf c W ≠ some k
def InvC (c D : Nat) (W : World) : Prop := c < W.heap.size ∧ D + 1 < W.heap.size ∧ ∀ k, rowOf c W = some k → k < W.heap.size
theorem frC_up (c D : Nat) : FrUp (InvC c D) (FrC c D) := fun A B k ⟨i1, i2, i3⟩ hb hk => by
  have e : rowOf c B = rowOf c A := rowOf_same (hb.block c i1)
  unfold FrC
  rw [e]
  rcases Nat.lt_or_ge k A.heap.size with h | h
  · exact hk h
  · exact ⟨by omega, by omega, fun h2 => by have := i3 k h2; omega⟩
theorem kpF_loop {c D : Nat} (hc : c ≠ D + 1) (W : World) (r r' : Loop) (h : W.heap[D + 1]? = some (.loop r)) : KpF (FrC c D) W (W.putObj (D + 1) (.loop r')) := by
  refine ⟨(grownBy_putObj' W (D + 1) _).size, fun k ob hk hf => ?_⟩
  have e : rowOf c (W.putObj (D + 1) (.loop r')) = rowOf c W := rowOf_same (World.putObj_heap_other hc)
  refine ⟨(World.putObj_heap_other hf.2.1).trans hk, hf.1, hf.2.1, ?_⟩
  rw [e]
  exact hf.2.2
theorem kpF_below {c D : Nat} {W W' : World} (hc : c < W.heap.size) (hb : Below W.heap.size W W') : KpF (FrC c D) W W' := by
  refine ⟨hb.size, fun k ob hk hf => ⟨(hb.block k (Array.getElem?_eq_some_iff.1 hk).1).trans hk, hf.1, hf.2.1, ?_⟩⟩
  rw [rowOf_same (hb.block c hc)]
  exact hf.2.2
theorem owns_one {w : World} {D sz n : Nat} {e : TypeId} {v : Value} {xs : List Value} (h : w.ownsRow D e sz v n xs) : v.oneCell' = true := by
  obtain ⟨hl, h⟩ := h
  rcases h with h | ⟨g, cap, cur, rfl, -⟩
  · obtain ⟨rfl, -⟩ | h := Or.inl (b := False) h
    · rfl
    · cases h
  · rfl
theorem info_partsT {i : Option TypeInfo} {z : Value} {s b : Nat} (h : i.map (fun i => (i.zero, i.size, i.bytes)) = some (some z, s, b)) : ∃ i0, i = some i0 ∧ i0.zero = some z ∧ i0.size = s ∧ i0.bytes = b := by
  cases i with
  | none => cases h
  | some i0 =>
    simp only [Option.map_some, Option.some.injEq, Prod.mk.injEq] at h
    exact ⟨i0, rfl, h.1, h.2.1, h.2.2⟩
/-- A store that is the one thing that may come next, as it is run. -/
theorem any_skipW {P : Program} {md : Region.Mode} {ops : Array Oper} {Q : Exit → Act → World → Prop} {fuel : Nat} {listed : Array Bool} {A : Act} {w w' : World} {o : Oper} {n : Nat} (hr : Region.ready md ops listed = [n]) (hn : ops[n]? = some o) (hgd : o.guard = none) (hd : o.dst = none) (h : (execOp A.eval o).run P w = .ok .skip w') (hk : wpAny P md ops Q fuel (listed.setIfInBounds n true) A w') : wpAny P md ops Q (fuel + 1) listed A w :=
  any_one hr hn fun K hK => by
    rw [if_pos (by simp [Region.wanted, hgd])]
    unfold Oper.wp
    rw [h]
    show K (A.put o.dst undef) w'
    rw [hd]
    exact hK _ _ hk
theorem results_ccc {P : Program} {w : World} {fn : Func} {tmps : Array Value} {v1 v2 v3 : Value} {a1 t1 b1 a2 t2 b2 a3 t3 b3 : Nat} (h : fn.results = #[.cell a1 t1, .cell a2 t2, .cell a3 t3]) (h1 : tmps.getD a1 undef = .pointer (some ⟨b1, 0, none⟩)) (h2 : tmps.getD a2 undef = .pointer (some ⟨b2, 0, none⟩)) (h3 : tmps.getD a3 undef = .pointer (some ⟨b3, 0, none⟩))
    (l1 : (loadVar t1 ⟨b1, 0, none⟩).run P w = .ok v1 w) (l2 : (loadVar t2 ⟨b2, 0, none⟩).run P w = .ok v2 w) (l3 : (loadVar t3 ⟨b3, 0, none⟩).run P w = .ok v3 w) : (results fn tmps).run P w = .ok (.tuple #[v1, v2, v3]) w := by
  have g1 : tmps[a1]?.getD undef = .pointer (some ⟨b1, 0, none⟩) := by simpa using h1
  have g2 : tmps[a2]?.getD undef = .pointer (some ⟨b2, 0, none⟩) := by simpa using h2
  have g3 : tmps[a3]?.getD undef = .pointer (some ⟨b3, 0, none⟩) := by simpa using h3
  simp [results, h, g1, g2, g3, asAddr, l1, l2, l3]
theorem setCell_row {w : World} {b : Nat} {u v : Value} {t : TypeId} (h : w.heap[b]? = some (.cells #[u] t (0, 0))) : w.setCell ⟨b, 0, none⟩ v = w.setRow b #[v] := by
  unfold World.setCell World.setRow
  congr 1
  apply Array.ext_getElem?
  intro k
  by_cases e : b = k
  · subst e
    simp [Array.getElem?_modify, h]
  · simp [Array.getElem?_modify, e]
end Go.Proofs.YtdnkpclpcelbaaaDoor
