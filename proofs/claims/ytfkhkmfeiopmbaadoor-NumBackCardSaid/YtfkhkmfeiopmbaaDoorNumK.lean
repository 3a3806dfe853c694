/- Show, under the table of powers that it reads; the laws NumShows and NumBack: they return true. -/
import Derived.Test.YtfkhkmfeiopmbaaDoorNumS
import Derived.Test.YtfkhkmfeiopmbaaDoorNumJ
import Derived.Test.YtfkhkmfeiopmbaaDoorShelf
import Derived.Lib.AppendIntMem
namespace Go.Proofs.YtfkhkmfeiopmbaaDoor
open Go.RowKit
/-- The table that the library's numerals are reckoned with. -/
def Tab (w : World) : Prop := Lib.TabIs Tryd.prog w "internal/strconv.uint64pow10" .u64 Lib.pow10Tab
theorem gTab : Tryd.prog.globalNamed "internal/strconv.uint64pow10" = some 0 := by kernel_rfl
theorem tab_below {w w' : World} (h : Tab w) (hb : Below w.heap.size w w') : Tab w' := by
  obtain ⟨g, hg⟩ : ∃ g, Tryd.prog.globalNamed "internal/strconv.uint64pow10" = some g := ⟨_, gTab⟩
  unfold Tab Lib.TabIs World.var? at *
  rw [hg] at h ⊢
  simp only [Option.bind_some] at h ⊢
  have hlt : g < w.heap.size := by
    apply Nat.lt_of_not_le
    intro hle
    rw [Array.getElem?_eq_none hle] at h
    simp at h
  rw [hb.block g hlt]
  exact h
theorem show_any (n : Int) (w : World) (h0 : -9223372036854775808 ≤ n) (h1 : n ≤ 9223372036854775807) (ht : Tab w) :
    Calls Tryd.prog 5 #[.int .i64 n] w fun e w' => e = .returned (.string (showB n)) ∧ Below w.heap.size w w' := by
  go_enter Tryd.func5, Tryd.ntmps5
  go_wp2_with (go_at_call 10; refine (Tryd.strconv_FormatInt_10 n h0 h1 _ ht).mono ?_; rintro e w' ⟨rfl, k, os, rfl⟩)
  go_ret
  exact ⟨rfl, Lib.below_grow _ _ (Nat.le_refl _) _ _⟩
theorem numShows_walk (n : Int) (w : World) (hwf : (Lit.int .i64 n).wf = true) (ht : Tab w) :
    Calls Tryd.prog 3 #[.int .i64 n] w fun e w' => e = .returned (.bool true) ∧ Below w.heap.size w w' := by
  have h2 : -9223372036854775808 ≤ n ∧ n ≤ 9223372036854775807 := by simpa [Lit.wf, IntKind.min, IntKind.max, IntKind.signed, IntKind.bits] using hwf
  obtain ⟨h0, h1⟩ := h2
  have SA := show_any n w h0 h1 ht
  have RA := fun w => rshow_any n w h0 h1
  have FA := fun w => fits_any n w
  generalize showB n = X at SA RA
  have hc : (-9007199254740991 ≤ n ∧ n ≤ 9007199254740991) ∨ n < -9007199254740991 ∨ 9007199254740991 < n := by omega
  rcases hc with ⟨c1, c2⟩ | c1 | c1
  · rw [show (decide (-9007199254740991 ≤ n) && decide (n ≤ 9007199254740991)) = true by simp [c1, c2]] at FA
    go_enter Tryd.func3, Tryd.ntmps3
    go_wp2_with (first
      | (go_at_call 5; refine SA.mono ?_; rintro e w' ⟨rfl, hb⟩)
      | (go_at_call 6; refine (RA _).mono ?_; rintro e w' ⟨rfl, hb⟩)
      | (go_at_call 7; refine (FA _).mono ?_; rintro e w' ⟨rfl, rfl⟩)
      | (go_at_call 8; refine (lives_any _).mono ?_; rintro e w' ⟨rfl, hb⟩))
    go_ret
    refine ⟨rfl, ?_⟩
    repeat (first | exact Below.refl _ _ | refine gr_step ?_ (by assumption))
  · have c2 : ¬ -9007199254740991 ≤ n := by omega
    have c3 : n ≤ 9007199254740991 := by omega
    rw [show (decide (-9007199254740991 ≤ n) && decide (n ≤ 9007199254740991)) = false by simp [c2]] at FA
    go_enter Tryd.func3, Tryd.ntmps3
    go_wp2_with (first
      | (go_at_call 5; refine SA.mono ?_; rintro e w' ⟨rfl, hb⟩)
      | (go_at_call 6; refine (RA _).mono ?_; rintro e w' ⟨rfl, hb⟩)
      | (go_at_call 7; refine (FA _).mono ?_; rintro e w' ⟨rfl, rfl⟩)
      | (go_at_call 8; refine (lives_any _).mono ?_; rintro e w' ⟨rfl, hb⟩))
    go_ret
    refine ⟨rfl, ?_⟩
    repeat (first | exact Below.refl _ _ | refine gr_step ?_ (by assumption))
  · have c2 : ¬ n ≤ 9007199254740991 := by omega
    have c3 : -9007199254740991 ≤ n := by omega
    have c4 : decide (n ≤ 9007199254740991) = false := by simpa using c2
    rw [show (decide (-9007199254740991 ≤ n) && decide (n ≤ 9007199254740991)) = false by simp [c2]] at FA
    go_enter Tryd.func3, Tryd.ntmps3
    go_wp2_with (first
      | (go_at_call 5; refine SA.mono ?_; rintro e w' ⟨rfl, hb⟩)
      | (go_at_call 6; refine (RA _).mono ?_; rintro e w' ⟨rfl, hb⟩)
      | (go_at_call 7; refine (FA _).mono ?_; rintro e w' ⟨rfl, rfl⟩)
      | (go_at_call 8; refine (lives_any _).mono ?_; rintro e w' ⟨rfl, hb⟩))
    go_ret
    refine ⟨rfl, ?_⟩
    repeat (first | exact Below.refl _ _ | refine gr_step ?_ (by assumption))
end Go.Proofs.YtfkhkmfeiopmbaaDoor
