/- EscBack for its frame. -/
import Derived.Test.YtcadklhjhjbhaaaDoorEscR
import Derived.Test.YtcadklhjhjbhaaaDoorEscU
namespace Go.Proofs.YtcadklhjhjbhaaaDoor
set_option maxRecDepth 20000
set_option linter.unusedSimpArgs false
set_option linter.unusedVariables false
open Go.RowKit Go.Lib
theorem tabs_eback {W : World} (h : laidMetH Tryd.prog Rows.escBackRow.laid W) : Tabs W := tabs_of_list h
theorem escBack_walk (s t : ByteArray) (W : World) (_ : s.size ≤ maxLen) (_ : t.size ≤ maxLen) (h : Tabs W) :
    Calls Tryd.prog 5 #[.string s, .string t] W fun e W' => e = .returned (.bool true) ∧ Below W.heap.size W W' := escBack_w s t W h
end Go.Proofs.YtcadklhjhjbhaaaDoor
