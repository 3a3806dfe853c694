/- EscQuotes for its frame. -/
import Derived.Test.YtcadklhjhjbhaaaDoorEscR
import Derived.Test.YtcadklhjhjbhaaaDoorEscS
namespace Go.Proofs.YtcadklhjhjbhaaaDoor
set_option maxRecDepth 20000
set_option linter.unusedSimpArgs false
set_option linter.unusedVariables false
open Go.RowKit Go.Lib
theorem tabs_equotes {W : World} (h : laidMetH Tryd.prog Rows.escQuotesRow.laid W) : Tabs W := tabs_of_list h
theorem escQuotes_walk (s : ByteArray) (W : World) (_ : s.size ≤ maxLen) (h : Tabs W) :
    Calls Tryd.prog 3 #[.string s] W fun e W' => e = .returned (.bool true) ∧ Below W.heap.size W W' := escQuotes_w s W h
end Go.Proofs.YtcadklhjhjbhaaaDoor
