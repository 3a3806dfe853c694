/- A region that draws its order and reads alone, and whose last operation is a call that panics. No program in it. -/
import Derived.Test.YtdnkpclpcelbaaaDoorRow
namespace Go.Proofs.YtdnkpclpcelbaaaDoor
set_option maxRecDepth 20000
set_option linter.unusedSimpArgs false
set_option linter.unusedVariables false
open Go.RowKit Go.Sort
theorem inw_panic {P : Program} {Q : Exit → Act → World → Prop} {l : List Oper} {n k : Nat} {w0 : World} {A : Act} {o : Oper} {f : FuncId} {args : Array Value} {ch : List PanicEntry} (hr : Region.ready .any l.toArray (headUp l.toArray n) = [n]) (ho : l.toArray[n]? = some o) (hw : Region.wanted o (yielded l.toArray A.tmps) = true) (hz : l.length - n = 1)
    (h : ∀ W, (execOp A.eval o).run P W = .ok (.enter f args) W) (hc : ∀ W, Calls P f args W fun e w' => e = .panicked ch ∧ w' = W) (hk : ∀ W, Below w0.heap.size w0 W → Q (.panic ch) A W) :
    wpInw P l.toArray w0 (fun A w' => wpAny P .any l.toArray Q (l.length - n) (headUp l.toArray n) A w') [] k A [] [] :=
  inw_end (Q := fun A w' => wpAny P .any l.toArray Q (l.length - n) (headUp l.toArray n) A w') fun d os => by
    rw [hz]
    refine any_one hr ho fun K hK => ?_
    rw [if_pos hw]
    unfold Oper.wp
    rw [h]
    exact (hc _).mono fun e w' he => by
      obtain ⟨rfl, rfl⟩ := he
      exact hk _ (below_regrown w0 d os)
end Go.Proofs.YtdnkpclpcelbaaaDoor
