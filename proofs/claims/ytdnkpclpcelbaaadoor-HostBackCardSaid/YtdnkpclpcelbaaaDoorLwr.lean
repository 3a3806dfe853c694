/- The rules for a region's operations in the text's order once more, behind a structure: the goal is then not unfolded by each tactic (a run of unwanted operations made that cost four times as much with each one). No program in it. -/
import Derived.Test.YtdnkpclpcelbaaaDoorRny
import Derived.Test.YtdnkpclpcelbaaaDoorStr
namespace Go.Proofs.YtdnkpclpcelbaaaDoor
set_option maxRecDepth 20000
set_option linter.unusedSimpArgs false
set_option linter.unusedVariables false
open Go.RowKit Go.Sort
structure LW (P : Program) (ops : Array Oper) (Q : Exit → Act → World → Prop) (l : List Oper) (A : Act) (w : World) : Prop where
  out : wpList P ops Q l A w
section
variable {P : Program} {w w' w0 : World} {ops : Array Oper} {Q : Exit → Act → World → Prop} {o : Oper} {rest : List Oper} {A : Act} {M : List Blk}
theorem sw_pure {v : Value} (h : ∀ W, (execOp A.eval o).run P W = .ok (.value v) W) (hgd : Region.wanted o (yielded ops A.tmps) = true) (hr : LW P ops Q rest (A.put o.dst v) w) : LW P ops Q (o :: rest) A w := ⟨wl_pure h hgd hr.out⟩
theorem sw_val {v : Value} (h : (execOp A.eval o).run P w = .ok (.value v) w') (hgd : Region.wanted o (yielded ops A.tmps) = true) (hr : LW P ops Q rest (A.put o.dst v) w') : LW P ops Q (o :: rest) A w := ⟨lw_valW h hgd hr.out⟩
theorem sw_store (h : (execOp A.eval o).run P w = .ok .skip w') (hgd : Region.wanted o (yielded ops A.tmps) = true) (hd : o.dst = none) (hr : LW P ops Q rest A w') : LW P ops Q (o :: rest) A w := ⟨lw_skipW h hgd hd hr.out⟩
theorem sw_skip (hw : Region.wanted o (yielded ops A.tmps) = false) (hr : LW P ops Q rest (A.put o.dst undef) w) : LW P ops Q (o :: rest) A w := ⟨wl_skip hw hr.out⟩
theorem sw_callE {f : FuncId} {args : Array Value} {R : Ending → World → Prop} (h : ∀ W, (execOp A.eval o).run P W = .ok (.enter f args) W) (hc : Calls P f args w R) (hgd : Region.wanted o (yielded ops A.tmps) = true) (hr : ∀ e w', R e w' → ∃ v, e = .returned v ∧ LW P ops Q rest (A.put o.dst v) w') : LW P ops Q (o :: rest) A w := by
  refine ⟨wpList_step fun K hK => ?_⟩
  rw [if_pos hgd]
  unfold Oper.wp
  rw [h]
  exact hc.mono fun e w' he => by
    obtain ⟨v, rfl, h2⟩ := hr e w' he
    exact hK _ _ h2.out
/-- A call that leaves the world as it was. -/
theorem sw_callS {f : FuncId} {args : Array Value} {v : Value} (h : ∀ W, (execOp A.eval o).run P W = .ok (.enter f args) W) (hc : Calls P f args w fun e w' => e = .returned v ∧ w = w') (hgd : Region.wanted o (yielded ops A.tmps) = true) (hr : LW P ops Q rest (A.put o.dst v) w) : LW P ops Q (o :: rest) A w :=
  sw_callE h hc hgd fun e w' ⟨h1, h2⟩ => ⟨v, h1, by subst h2; exact hr⟩
theorem sw_call (hM : Mem w0 M w) {f : FuncId} {args : Array Value} {v : Value} (h : ∀ W, (execOp A.eval o).run P W = .ok (.enter f args) W) (hc : Calls P f args w fun e w' => e = .returned v ∧ Below w.heap.size w w') (hgd : Region.wanted o (yielded ops A.tmps) = true) (hr : ∀ W, Mem w0 M W → LW P ops Q rest (A.put o.dst v) W) : LW P ops Q (o :: rest) A w :=
  sw_callE h hc hgd fun e w' ⟨h1, h2⟩ => ⟨v, h1, hr w' (hM.calls h2)⟩
theorem sw_new (hM : Mem w0 M w) {f : Nat → Value} {ob : Obj} (h : ∀ W, (execOp A.eval o).run P W = .ok (.value (f W.heap.size)) (W.alloc ob)) (hgd : Region.wanted o (yielded ops A.tmps) = true) (hr : ∀ b W, Mem w0 ((b, ob) :: M) W → LW P ops Q rest (A.put o.dst (f b)) W) : LW P ops Q (o :: rest) A w := ⟨wl_new hM h hgd fun b W h => (hr b W h).out⟩
theorem sw_nil (h : Q .normal A w) : LW P ops Q [] A w := ⟨wpList_nil h⟩
theorem sw_lit {id : Nat} {l : List Oper} (h : LW P l.toArray Q l A w) : (Code.region id l.toArray false).wp P Q A w := wp_region_lit h.out
theorem sw_at {l n id : Nat} {ls : List Oper} (A1 : Act) (W1 : World) (hp : ls.all notDefer = true) (h : LW P ls.toArray (fun e A W' => e = .normal ∧ A = A1 ∧ W' = W1) ls A w) (hQ : Q .normal A1 W1) : (Code.region id ls.toArray false).wpIn (Fence.wide.inRound l) n P Q A w :=
  regionL_inRound (fun A W' => A = A1 ∧ W' = W1) hp h.out (by rintro A W' ⟨rfl, rfl⟩; exact hQ)
end
end Go.Proofs.YtdnkpclpcelbaaaDoor
