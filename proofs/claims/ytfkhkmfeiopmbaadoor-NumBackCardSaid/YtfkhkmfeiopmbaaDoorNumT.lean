/- From what the rows list to the table that the walks read. -/
import Derived.Test.YtfkhkmfeiopmbaaDoorNumK
import Derived.Test.YtfkhkmfeiopmbaaDoorRows
import Derived.Lib.LaidTab
import Derived.LaidSub
import Derived.ProofKit
namespace Go.Proofs.YtfkhkmfeiopmbaaDoor
open Go.RowKit
theorem gTabType : (Tryd.prog.globals[0]?).map (·.type) = some 42 := by kernel_rfl
theorem cellsTab : Tryd.prog.cellsOf 42 = 20 := by kernel_rfl
theorem cellsU64 : Tryd.prog.cellsOf 31 = 1 := by kernel_rfl
theorem laidPow : (Rows.laid_internal_strconv_uint64pow10 : DataW Unit) = Lib.tabData .u64 Lib.pow10Tab := by rfl
theorem tab_of {W : World} (h : laidMetH Tryd.prog Rows.numShowsRow.laid W) : Tab W := by
  have h2 := laidMetH.filter (fun x => x.1 == "internal/strconv.uint64pow10") h
  have e : (Rows.numShowsRow.laid.filter fun x => x.1 == "internal/strconv.uint64pow10") = [("internal/strconv.uint64pow10", Lib.tabData .u64 Lib.pow10Tab)] := by
    rw [← laidPow]
    rfl
  rw [e] at h2
  exact Lib.tabIs_of_head (rest := []) gTab gTabType Tryd.underlying42 Tryd.underlying31 cellsU64 cellsTab h2
theorem tab_of_back {W : World} (h : laidMetH Tryd.prog Rows.numBackRow.laid W) : Tab W := tab_of h
end Go.Proofs.YtfkhkmfeiopmbaaDoor
