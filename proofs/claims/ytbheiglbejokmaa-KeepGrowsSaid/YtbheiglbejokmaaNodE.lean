/- Rules for a round of a range over a function, over whole rows. No program in it. -/
import Derived.Test.YtbheiglbejokmaaNodB
import Derived.Test.YtbheiglbejokmaaPrt
import Derived.RangeFuncNested
import Derived.TacticsInMore
namespace Go.Proofs.Ytbheiglbejokmaa
set_option maxRecDepth 20000
set_option linter.unusedSimpArgs false
set_option linter.unusedVariables false
open Go.RowKit Go.Sort
section
variable {F : Fence} {n : Nat} {P : Program} {ops : Array Oper} {Q : Exit → Act → World → Prop} {o : Oper} {rest : List Oper} {A : Act} {w w' : World}
theorem wi_val {v : Value} (hF : ∀ f, F.fn f) (hnd : ∀ c, o.op ≠ .defer c) (h : (execOp A.eval o).run P w = .ok (.value v) w') (hgd : o.guard = none) (hr : wpListIn F n P ops Q rest (A.put o.dst v) w') : wpListIn F n P ops Q (o :: rest) A w := by
  refine wpListIn_plain hgd ?_
  intro K hK
  refine ⟨fun f _ => hF f, ?_⟩
  rw [Oper.semAt_eq _ _ _ hnd, h]
  exact hK _ _ hr
theorem wi_skip (hF : ∀ f, F.fn f) (hnd : ∀ c, o.op ≠ .defer c) (h : (execOp A.eval o).run P w = .ok .skip w') (hgd : o.guard = none) (hd : o.dst = none) (hr : wpListIn F n P ops Q rest A w') : wpListIn F n P ops Q (o :: rest) A w := by
  refine wpListIn_plain hgd ?_
  intro K hK
  refine ⟨fun f _ => hF f, ?_⟩
  rw [Oper.semAt_eq _ _ _ hnd, h]
  show K (A.put o.dst undef) w'
  rw [hd]
  exact hK _ _ hr
end
section
variable {P : Program} {w w0 : World} {M : List Blk} {o : Oper} {A : Act}
theorem run_store_whole {ty : TypeId} {x y : Operand} {b : Nat} {t : TypeId} {old cs : Array Value} (hg : w.heap[b]? = some (.cells old t (0, 0))) (ho : o.op = .store ty x y) (hx : A.eval x = .pointer (some ⟨b, 0, none⟩)) (hy : A.eval y = .agg cs) (hT : RowTy P ty cs.size) (hs : old.size = cs.size) (h1 : cs.all (·.oneCell') = true) : (execOp A.eval o).run P w = .ok .skip (w.setRow b cs) := by
  have h := run_store_part (P := P) (off := 0) (sub := cs) hg (by omega) hT.2 h1
  have e : (old.toList.take 0 ++ cs.toList ++ old.toList.drop (0 + cs.size)).toArray = cs := by
    rw [List.take_zero, List.nil_append, Nat.zero_add, ← hs, List.drop_eq_nil_of_le (by simp), List.append_nil, Array.toArray_toList]
  rw [e] at h
  unfold execOp
  simp only [ho, hx, hy, Instr.storeAt, Instr.sureAddr, Sem.run_bind, Sem.run_pure, Result.andThen_ok, h]
theorem run_store_one {ty : TypeId} {x y : Operand} {b : Nat} {t : TypeId} {u v : Value} (hg : w.heap[b]? = some (.cells #[u] t (0, 0))) (ho : o.op = .store ty x y) (hx : A.eval x = .pointer (some ⟨b, 0, none⟩)) (hy : A.eval y = v) (hT : CellTy P ty) (h1 : v.oneCell' = true) : (execOp A.eval o).run P w = .ok .skip (w.setRow b #[v]) := by
  have h := run_store_at (P := P) (off := 0) (v := v) hg (by simp) hT h1
  unfold execOp
  simp only [ho, hx, hy, Instr.storeAt, Instr.sureAddr, Sem.run_bind, Sem.run_pure, Result.andThen_ok, h]
  rfl
theorem setRow_keeps (W : World) (b B : Nat) (cs : Array Value) (h : b < B) : KeepsFrom B W (W.setRow b cs) :=
  ⟨by simp, fun k o hk hg _ => by rw [setRow_other W b k cs (by omega)]; exact hg⟩
theorem below_keeps {W W' : World} (h : Below W.heap.size W W') (B : Nat) : KeepsFrom B W W' :=
  ⟨h.size, fun k o _ hg _ => (h.block k (Array.getElem?_eq_some_iff.1 hg).1).trans hg⟩
end
end Go.Proofs.Ytbheiglbejokmaa
