/- Deferred calls in texts of whole rows. No program in it. -/
import Derived.Test.YtdnkpclpcelbaaaDoorRoc
import Derived.Defers
namespace Go.Proofs.YtdnkpclpcelbaaaDoor
set_option maxRecDepth 20000
set_option linter.unusedSimpArgs false
set_option linter.unusedVariables false
open Go.RowKit Go.Sort
section
variable {P : Program} {ops : Array Oper} {w : World} {Q : Exit → Act → World → Prop} {o : Oper} {rest : List Oper} {A : Act}
theorem wl_defer {d : Deferred} (h : ∀ W, (execOp A.eval o).run P W = .ok (.defer d) W) (hd : o.dst = none) (hgd : Region.wanted o (yielded ops A.tmps) = true) (hr : wpList P ops Q rest { tmps := A.tmps, defers := d :: A.defers } w) : wpList P ops Q (o :: rest) A w := by
  refine wpList_step fun K hK => ?_
  rw [if_pos hgd]
  unfold Oper.wp
  rw [h]
  refine hK _ _ ?_
  rw [hd]
  exact hr
theorem run_defer_of {x : Operand} {fn : Fn} {first cap : Array Value} (W : World) (ho : o.op = .defer { callee := .value x, args := #[], argTypes := #[] }) (hx : A.eval x = .func fn first cap) : (execOp A.eval o).run P W = .ok (.defer { target := .fn fn cap, args := first }) W := by
  unfold execOp
  simp [ho, resolve, hx, Deferred.ofValue]
end
end Go.Proofs.YtdnkpclpcelbaaaDoor
