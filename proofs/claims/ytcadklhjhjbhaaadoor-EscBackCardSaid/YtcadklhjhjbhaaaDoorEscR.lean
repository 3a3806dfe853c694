/- The tables of unicode/utf8, out of a row's list; EscReads for its frame. -/
import Derived.Test.YtcadklhjhjbhaaaDoorEscQ
import Derived.Lib.LaidU8
import Derived.PinnedBridge
import Derived.LaidSub
namespace Go.Proofs.YtcadklhjhjbhaaaDoor
set_option maxRecDepth 20000
set_option linter.unusedSimpArgs false
set_option linter.unusedVariables false
open Go.RowKit Go.Lib
theorem accept_eq : (Rows.laid_unicode_utf8_acceptRanges : DataW Unit) = acceptData := by kernel_rfl
theorem first_eq : Rows.laid_unicode_utf8_first = firstData := Pinned.utf8First_eq
theorem tabs_of_list {W : World} (h : laidMetH Tryd.prog [("unicode/utf8.acceptRanges", Rows.laid_unicode_utf8_acceptRanges), ("unicode/utf8.first", Rows.laid_unicode_utf8_first)] W) : Tabs W := by
  have h1 := (laidMetH_iff.1 h).1
  rw [accept_eq, first_eq] at h1
  have m1 : ("unicode/utf8.first", firstData) ∈ List.filter (fun x : String × DataW Unit => x.2.handleName?.isNone) [("unicode/utf8.acceptRanges", acceptData), ("unicode/utf8.first", firstData)] := List.mem_filter.2 ⟨.tail _ (.head _), by kernel_rfl⟩
  have m2 : ("unicode/utf8.acceptRanges", acceptData) ∈ List.filter (fun x : String × DataW Unit => x.2.handleName?.isNone) [("unicode/utf8.acceptRanges", acceptData), ("unicode/utf8.first", firstData)] := List.mem_filter.2 ⟨.head _, by kernel_rfl⟩
  exact utf8Tabs_of_reads (ρ := Tryd.lays197_ren) { Tryd.lays197 with } ⟨by kernel_rfl, by kernel_rfl, by kernel_rfl, by kernel_rfl, by kernel_rfl, by kernel_rfl, by kernel_rfl⟩ (Lib.laidMet.reads h1 m1) (Lib.laidMet.reads h1 m2)
theorem tabs_ereads {W : World} (h : laidMetH Tryd.prog Rows.escReadsRow.laid W) : Tabs W := tabs_of_list h
theorem escReads_walk (t : ByteArray) (at_ : Int) (W : World) (_ : t.size ≤ maxLen) (_ : (Lit.int .i64 at_).wf = true) (h : Tabs W) :
    Calls Tryd.prog 4 #[.string t, .int .i64 at_] W fun e w' => e = .returned (.bool true) ∧ Below W.heap.size W w' := escReads_w t at_ W h
end Go.Proofs.YtcadklhjhjbhaaaDoor
