/- Short names for what an act's slots are rewritten by. No program in it. -/
import Derived.Lib.QuietBelow
namespace Go.Proofs.YtdnkpclpcelbaaaDoor
set_option maxRecDepth 20000
set_option linter.unusedSimpArgs false
set_option linter.unusedVariables false
open Go
theorem nm0 (a : Act) (t : Tmp) (v : Value) : a.put (some t) v = { tmps := a.tmps.setIfInBounds t v, defers := a.defers } := rfl
theorem nm1 {α : Type} (l : List α) (i : Nat) (a : α) : l.toArray.setIfInBounds i a = (l.set i a).toArray := List.setIfInBounds_toArray l i a
theorem nm2 {α : Type} (x : α) (l : List α) (a : α) : (x :: l).set 0 a = a :: l := rfl
theorem nm3 {α : Type} (x : α) (l : List α) (i : Nat) (a : α) : (x :: l).set (i + 1) a = x :: l.set i a := rfl
end Go.Proofs.YtdnkpclpcelbaaaDoor
