/- What the reference's Scan answers behind a sign. Written by gen_numf.py. -/
import Derived.Test.YtdnkpclpcelbaaaDoorLnuF
namespace Go.Proofs.YtdnkpclpcelbaaaDoor
set_option maxRecDepth 20000
set_option linter.unusedSimpArgs false
set_option linter.unusedVariables false
open Go.RowKit
end Go.Proofs.YtdnkpclpcelbaaaDoor
