/- XHld's rules for operations with a guard that is met; whole rows stored. No program in it. -/
import Derived.Test.YtbheiglbejokmaaFldL
namespace Go.Proofs.Ytbheiglbejokmaa
set_option maxRecDepth 20000
set_option linter.unusedSimpArgs false
set_option linter.unusedVariables false
open Go.RowKit Go.Sort
section
variable {P : Program} {ops : Array Oper} {Q : Exit → Act → World → Prop} {md : Region.Mode} {S : World → Prop} {st n i : Nat} {l : Array Bool} {a : Act} {w w0 : World} {o : Oper} {v : Value} {d : Tmp} {M : List Blk} {fuel : Nat}
theorem hw_take (i : Nat) (d : Tmp) (path : List Nat) (L : Array Bool) (hL : l.setIfInBounds i true = L) (hi : ops[i]? = some o) (hd : o.dst = some d) (hsel : Region.noSelect ops = true) (hst : path.contains st = true) (hch : chainB md ops (i :: path) = true) (hpd : (path.all fun k => (k != i) && !(l.getD k true)) = true) (hf : Region.free md ops l i = true) (hr : (Region.ready md ops l).contains i = true) (hw : Region.wanted o (yielded ops a.tmps) = true) (hy : ∀ W, S W → (execOp a.eval o).run P W = .ok (.value v) W) (hS : S w)
    (h : Hold P md ops (NoPanic Q) S st n L (a.put (some d) v) w) : Hold P md ops (NoPanic Q) S st (n + 1) l a w := by
  subst hL
  exact hold_take hi hd hsel (by simpa using hst) hch (fun _ _ _ h => h) n l a w (Region.free_spec hi hf) (by simpa using hr) (fun k hk => by
    have h1 := List.all_eq_true.1 hpd k hk
    rw [Bool.and_eq_true, Bool.not_eq_true', bne_iff_ne] at h1
    exact h1) (.inl ⟨hw, hy⟩) hS h
theorem hw_pure (i : Nat) (d : Tmp) (L : Array Bool) (hL : l.setIfInBounds i true = L) (hi : ops[i]? = some o) (hd : o.dst = some d) (hsel : Region.noSelect ops = true) (hne : (i == st) = false) (hf : Region.free md ops l i = true) (hr : (Region.ready md ops l).contains i = true) (hw : Region.wanted o (yielded ops a.tmps) = true) (hy : ∀ W, (execOp a.eval o).run P W = .ok (.value v) W) (hS : l.getD st true = false → S w)
    (h : Hold P md ops (NoPanic Q) S st n L (a.put (some d) v) w) : Hold P md ops (NoPanic Q) S st (n + 1) l a w := by
  subst hL
  exact hold_takeP hi hd hsel (by simpa using hne) (fun _ _ _ h => h) n l a w (Region.free_spec hi hf) (by simpa using hr) (.inl ⟨hw, fun W _ => hy W⟩) hS h
theorem hw_call {f : FuncId} {args : Array Value} {R : Ending → World → Prop} (hn : ops[n]? = some o) (hdd : o.dst = some d) (hw : Region.wanted o (yielded ops a.tmps) = true) (h : ∀ W, (execOp a.eval o).run P W = .ok (.enter f args) W) (hc : Calls P f args w R) (L : Array Bool) (hL : l.setIfInBounds n true = L) (hk : ∀ e w', R e w' → ∃ v, e = .returned v ∧ (L.getD st true = false → S w') ∧ Hold P md ops Q S st fuel L (a.put (some d) v) w') :
    Go.wpOp P ops Q n (fun a' w' => ((l.setIfInBounds n true).getD st true = false → S w') ∧ Hold P md ops Q S st fuel (l.setIfInBounds n true) a' w') a w := by
  unfold Go.wpOp
  simp only [hn]
  rw [if_pos hw]
  refine .inl ?_
  unfold Oper.wp
  rw [h, hL]
  refine hc.mono fun e w' he => ?_
  obtain ⟨v, rfl, h1, h2⟩ := hk e w' he
  rw [← hdd] at h2
  exact ⟨h1, h2⟩
theorem hw_val (hn : ops[n]? = some o) (hdd : o.dst = some d) (hw : Region.wanted o (yielded ops a.tmps) = true) (h : (execOp a.eval o).run P w = .ok (.value v) w) (L : Array Bool) (hL : l.setIfInBounds n true = L) (hS : L.getD st true = false → S w) (hk : Hold P md ops Q S st fuel L (a.put (some d) v) w) :
    Go.wpOp P ops Q n (fun a' w' => ((l.setIfInBounds n true).getD st true = false → S w') ∧ Hold P md ops Q S st fuel (l.setIfInBounds n true) a' w') a w := by
  unfold Go.wpOp
  simp only [hn]
  rw [if_pos hw]
  refine .inl ?_
  unfold Oper.wp
  rw [h, hL]
  show (_ → S _) ∧ Hold P md ops Q S st fuel L (a.put o.dst _) _
  rw [hdd]
  exact ⟨hS, hk⟩
theorem hw_new {f : Nat → Value} {ob : Obj} (hn : ops[n]? = some o) (hdd : o.dst = some d) (hgd : o.guard = none) (hM : Mem w0 M w) (h : ∀ W, (execOp a.eval o).run P W = .ok (.value (f W.heap.size)) (W.alloc ob)) (L : Array Bool) (hL : l.setIfInBounds n true = L) (hk : ∀ b W, Mem w0 ((b, ob) :: M) W → (L.getD st true = false → S W) ∧ Hold P md ops Q S st fuel L (a.put (some d) (f b)) W) :
    Go.wpOp P ops Q n (fun a' w' => ((l.setIfInBounds n true).getD st true = false → S w') ∧ Hold P md ops Q S st fuel (l.setIfInBounds n true) a' w') a w := by
  unfold Go.wpOp
  simp only [hn]
  rw [if_pos (by simp [Region.wanted, hgd])]
  refine .inl ?_
  unfold Oper.wp
  rw [h, hL]
  show (_ → S _) ∧ Hold P md ops Q S st fuel L (a.put o.dst _) _
  rw [hdd]
  exact hk _ _ (hM.new1 ob)
theorem hw_set (hn : ops[n]? = some o) (hdd : o.dst = none) (hgd : o.guard = none) (hM : Mem w0 M w) (i : Nat) {ty : TypeId} {x y : Operand} {b : Nat} {t : TypeId} {old cs : Array Value} (ho : o.op = .store ty x y) (hx : a.eval x = .pointer (some ⟨b, 0, none⟩)) (hy : a.eval y = .agg cs) (hi : M[i]? = some (b, .cells old t (0, 0))) (hT : RowTy P ty cs.size) (hs : old.size = cs.size) (h1 : cs.all (·.oneCell') = true) (L : Array Bool) (hL : l.setIfInBounds n true = L)
    (hk : ∀ W, Mem w0 (M.set i (b, .cells cs t (0, 0))) W → (L.getD st true = false → S W) ∧ Hold P md ops Q S st fuel L a W) : Go.wpOp P ops Q n (fun a' w' => ((l.setIfInBounds n true).getD st true = false → S w') ∧ Hold P md ops Q S st fuel (l.setIfInBounds n true) a' w') a w := by
  unfold Go.wpOp
  simp only [hn]
  rw [if_pos (by simp [Region.wanted, hgd])]
  refine .inl (wp_set hM i ho hx hy hi hT hs h1 fun W hW => ?_)
  rw [hdd, hL]
  exact hk W hW
end
end Go.Proofs.Ytbheiglbejokmaa
