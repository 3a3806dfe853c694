/- The document's examples (layer 3). -/
import Derived.Test.YtcadklhjhjbhaaaDoorUtfI
namespace Go.Proofs.YtcadklhjhjbhaaaDoor
set_option maxRecDepth 20000
set_option linter.unusedSimpArgs false
set_option linter.unusedVariables false
open Go.RowKit Go.Lib
theorem okP_233 : okP [233] 1 := fun i hi => by obtain rfl : i = 0 := by omega
                                                rfl
theorem forms_233 : formsB [233] 1 = [195, 169] := by rfl
theorem nx_c0 : nx [192, 128] = none := by rfl
theorem nx_ed : nx [237, 160, 128] = none := by rfl
theorem nx_233 : nx [195, 169] = some (233, 2) := by rfl
theorem valid_233 : validB [195, 169] = true := by
  have h := (Read.zero [195, 169]).step (by decide) (show nx (List.drop 0 [195, 169]) = some (233, 2) from nx_233)
  have h2 := (h.last (show nx (List.drop (0 + 2) [195, 169]) = none from rfl)).2
  unfold validB
  rw [h2]
  rfl
end Go.Proofs.YtcadklhjhjbhaaaDoor
