/- The tables of unicode/utf8, out of a row's list; UtfOrders for its frame. -/
import Derived.Test.YtdggijibmpbpdaaDoorUtfL
import Derived.Lib.LaidU8
import Derived.PinnedBridge
import Derived.LaidSub
namespace Go.Proofs.YtdggijibmpbpdaaDoor
open Go.RowKit Go.Lib
theorem accept_eq : (Rows.laid_unicode_utf8_acceptRanges : DataW Unit) = acceptData := by kernel_rfl
theorem first_eq : Rows.laid_unicode_utf8_first = firstData := Pinned.utf8First_eq
theorem tabs_of_list {W : World} (h : laidMetH Tryd.prog [("unicode/utf8.acceptRanges", Rows.laid_unicode_utf8_acceptRanges), ("unicode/utf8.first", Rows.laid_unicode_utf8_first)] W) : Tabs W := by
  have h1 := (laidMetH_iff.1 h).1
  rw [accept_eq, first_eq] at h1
  have m1 : ("unicode/utf8.first", firstData) ∈ List.filter (fun x : String × DataW Unit => x.2.handleName?.isNone) [("unicode/utf8.acceptRanges", acceptData), ("unicode/utf8.first", firstData)] := List.mem_filter.2 ⟨.tail _ (.head _), by kernel_rfl⟩
  have m2 : ("unicode/utf8.acceptRanges", acceptData) ∈ List.filter (fun x : String × DataW Unit => x.2.handleName?.isNone) [("unicode/utf8.acceptRanges", acceptData), ("unicode/utf8.first", firstData)] := List.mem_filter.2 ⟨.head _, by kernel_rfl⟩
  exact utf8Tabs_of_reads (ρ := Tryd.lays197_ren) { Tryd.lays197 with } ⟨by kernel_rfl, by kernel_rfl, by kernel_rfl, by kernel_rfl, by kernel_rfl, by kernel_rfl, by kernel_rfl⟩ (Lib.laidMet.reads h1 m1) (Lib.laidMet.reads h1 m2)
theorem tabs_orders {W : World} (h : laidMetH Tryd.prog Rows.utfOrdersRow.laid W) : Tabs W := tabs_of_list h
theorem utfOrders_walk (a b : ByteArray) (W : World) (_ : a.size ≤ maxLen) (_ : b.size ≤ maxLen) (h : Tabs W) :
    Calls Tryd.prog 5 #[.string a, .string b] W fun e w' => e = .returned (.bool true) ∧ Below W.heap.size W w' := utfOrders_w a b W h
end Go.Proofs.YtdggijibmpbpdaaDoor
