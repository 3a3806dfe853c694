/- host (layer 27): number. -/
import Derived.Test.YtdnkpclpcelbaaaDoorLnuH
import Derived.Test.YtdnkpclpcelbaaaDoorStr
namespace Go.Proofs.YtdnkpclpcelbaaaDoor
set_option maxRecDepth 20000
set_option linter.unusedSimpArgs false
set_option linter.unusedVariables false
open Go.RowKit Go.Lib Go.Shelf
attribute [local go_sem] Oper.semAt_some
/-- The number that a text shows, if it is one from `lo` to `hi`. -/
def numI (s : ByteArray) (lo hi : Int) : Int × Bool :=
  if (scanI s 0).2.2 = 0 ∧ (scanI s 0).2.1 = (s.size : Int) ∧ lo ≤ (scanI s 0).1 ∧ (scanI s 0).1 ≤ hi then ((scanI s 0).1, true) else (0, false)
abbrev retNB (r : Int × Bool) : Ending := .returned (.tuple #[.int .i64 r.1, .bool r.2])
theorem number_any (s : ByteArray) (lo hi : Int) (w : World) (hs : s.size ≤ 140737488355328) :
    Calls Tryd.prog 31 #[.string s, .int .i64 lo, .int .i64 hi] w fun e w' => e = retNB (numI s lo hi) ∧ Below w.heap.size w w' := by
  have SA := fun w => scan_any s 0 w hs
  have HE : ∀ r : Int × Bool, numI s lo hi = r → RowKit.Hid (numI s lo hi = r) := fun r h => Lib.hid h
  by_cases he : (scanI s 0).2.2 = 0
  · by_cases hx : (scanI s 0).2.1 = (s.size : Int)
    · by_cases hl : lo ≤ (scanI s 0).1
      · by_cases hh : (scanI s 0).1 ≤ hi
        · have E1 := HE _ (if_pos ⟨he, hx, hl, hh⟩)
          clear HE
          generalize scanI s 0 = r at *
          obtain ⟨n, x, e⟩ := r
          simp only [retI] at *
          have q1 : ¬ n < lo := by omega
          have q2 : ¬ hi < n := by omega
          subst he hx
          go_enter Tryd.func31, Tryd.ntmps31
          go_wp2_with (go_at_call 60; refine (SA _).mono ?_; rintro e w' ⟨rfl, hb⟩)
          go_ret2
          exact ⟨(congrArg retNB E1.out).symm, by assumption⟩
        · have E1 := HE _ (if_neg fun h => hh h.2.2.2)
          clear HE
          generalize scanI s 0 = r at *
          obtain ⟨n, x, e⟩ := r
          simp only [retI] at *
          have q1 : ¬ n < lo := by omega
          have q2 : hi < n := by omega
          subst he hx
          go_enter Tryd.func31, Tryd.ntmps31
          go_wp2_with (go_at_call 60; refine (SA _).mono ?_; rintro e w' ⟨rfl, hb⟩)
          go_ret2
          exact ⟨(congrArg retNB E1.out).symm, by assumption⟩
      · have E1 := HE _ (if_neg fun h => hl h.2.2.1)
        clear HE
        generalize scanI s 0 = r at *
        obtain ⟨n, x, e⟩ := r
        simp only [retI] at *
        have q1 : n < lo := by omega
        subst he hx
        go_enter Tryd.func31, Tryd.ntmps31
        go_wp2_with (go_at_call 60; refine (SA _).mono ?_; rintro e w' ⟨rfl, hb⟩)
        go_ret2
        exact ⟨(congrArg retNB E1.out).symm, by assumption⟩
    · have E1 := HE _ (if_neg fun h => hx h.2.1)
      clear HE
      generalize scanI s 0 = r at *
      obtain ⟨n, x, e⟩ := r
      simp only [retI] at *
      subst he
      go_enter Tryd.func31, Tryd.ntmps31
      go_wp2_with (go_at_call 60; refine (SA _).mono ?_; rintro e w' ⟨rfl, hb⟩)
      go_ret2
      exact ⟨(congrArg retNB E1.out).symm, by assumption⟩
  · have E1 := HE _ (if_neg fun h => he h.1)
    clear HE
    generalize scanI s 0 = r at *
    obtain ⟨n, x, e⟩ := r
    simp only [retI] at *
    go_enter Tryd.func31, Tryd.ntmps31
    go_wp2_with (go_at_call 60; refine (SA _).mono ?_; rintro e w' ⟨rfl, hb⟩)
    go_ret2
    exact ⟨(congrArg retNB E1.out).symm, by assumption⟩
end Go.Proofs.YtdnkpclpcelbaaaDoor
