/- The law MatchGlobs (layer 52): it returns true. -/
import Derived.Test.YtkaigdmoccfbfaaDoorGloC
namespace Go.Proofs.YtkaigdmoccfbfaaDoor
open Go.RowKit
theorem glob_yes (p s : ByteArray) (m : Int) (w : World) (hm : w.cell? ⟨0, 0, none⟩ = some (.int .i64 m)) (hp : p.size ≤ 1000) (hs : s.size ≤ 1000) (h : Mt p.data.toList s.data.toList) :
    Calls Tryd.prog 5 #[.string p, .string s] w fun e w' => e = .returned (.bool true) ∧ Below w.heap.size w w' :=
  (glob_any p s m w hm hp hs).mono fun e w' ⟨b, he, hb, hbe⟩ => ⟨by rw [he, hb.2 h], hbe⟩
theorem glob_no (p s : ByteArray) (m : Int) (w : World) (hm : w.cell? ⟨0, 0, none⟩ = some (.int .i64 m)) (hp : p.size ≤ 1000) (hs : s.size ≤ 1000) (h : ¬ Mt p.data.toList s.data.toList) :
    Calls Tryd.prog 5 #[.string p, .string s] w fun e w' => e = .returned (.bool false) ∧ Below w.heap.size w w' :=
  (glob_any p s m w hm hp hs).mono fun e w' ⟨b, he, hb, hbe⟩ => ⟨by rw [he]; cases b with | true => exact absurd (hb.1 rfl) h | false => rfl, hbe⟩
theorem rglob_yes (p s : ByteArray) (w : World) (hp : p.size ≤ 500) (hs : s.size ≤ 500) (h : Mt p.data.toList s.data.toList) :
    Calls Tryd.prog 6 #[.string p, .string s] w fun e w' => e = .returned (.bool true) ∧ Below w.heap.size w w' :=
  (rglob_any p s w hp hs).mono fun e w' ⟨b, he, hb, hbe⟩ => ⟨by rw [he, hb.2 h], hbe⟩
theorem rglob_no (p s : ByteArray) (w : World) (hp : p.size ≤ 500) (hs : s.size ≤ 500) (h : ¬ Mt p.data.toList s.data.toList) :
    Calls Tryd.prog 6 #[.string p, .string s] w fun e w' => e = .returned (.bool false) ∧ Below w.heap.size w w' :=
  (rglob_any p s w hp hs).mono fun e w' ⟨b, he, hb, hbe⟩ => ⟨by rw [he]; cases b with | true => exact absurd (hb.1 rfl) h | false => rfl, hbe⟩
theorem ex1 : Mt [109, 46, 42] [109, 46, 114, 111, 111, 109] := by
  rw [mt_parts, show parts [109, 46, 42] = [[109, 46], []] by decide]
  exact ⟨[114, 111, 111, 109], [], rfl, rfl⟩
theorem ex2 : Mt [97, 42, 98, 42, 99] [97, 120, 98, 99] := by
  rw [mt_parts, show parts [97, 42, 98, 42, 99] = [[97], [98], [99]] by decide]
  exact ⟨[120], [98, 99], rfl, [], [99], rfl, rfl⟩
theorem ex3 : ¬ Mt [97, 42, 98] [97] := by
  rw [mt_parts, show parts [97, 42, 98] = [[97], [98]] by decide]
  rintro ⟨t, u, h, hu⟩
  have hu' : u = [98] := hu
  have := congrArg List.length h
  rw [hu'] at this
  simp at this
theorem low_cell {w w' : World} {m : Int} (hm : w.cell? ⟨0, 0, none⟩ = some (.int .i64 m)) (hb : Below w.heap.size w w') : w'.cell? ⟨0, 0, none⟩ = some (.int .i64 m) := by
  have h0 : 0 < w.heap.size := by
    apply Nat.lt_of_not_le
    intro hle
    simp [World.cell?, Array.getElem?_eq_none hle] at hm
  rw [← hm]; exact hb.cell h0
theorem lives52 (m : Int) (w : World) (hm : w.cell? ⟨0, 0, none⟩ = some (.int .i64 m)) : Calls Tryd.prog 4 #[] w fun e w' => e = .returned (.bool true) ∧ Below w.heap.size w w' := by
  have K1 := Lib.hid (glob_yes ⟨#[109, 46, 42]⟩ ⟨#[109, 46, 114, 111, 111, 109]⟩ m w hm (by decide) (by decide) ex1)
  have HM := Lib.hid hm
  clear hm
  go_enter Tryd.func4, Tryd.ntmps4
  go_wp2_with fail
  refine K1.out.mono ?_
  rintro e w1 ⟨rfl, hb1⟩
  have K2 := Lib.hid (glob_yes ⟨#[97, 42, 98, 42, 99]⟩ ⟨#[97, 120, 98, 99]⟩ m w1 (low_cell HM.out hb1) (by decide) (by decide) ex2)
  go_wp2_with fail
  refine K2.out.mono ?_
  rintro e w2 ⟨rfl, hb2⟩
  have K3 := Lib.hid (glob_no ⟨#[97, 42, 98]⟩ ⟨#[97]⟩ m w2 (low_cell (low_cell HM.out hb1) hb2) (by decide) (by decide) ex3)
  go_wp2_with fail
  refine K3.out.mono ?_
  rintro e w3 ⟨rfl, hb3⟩
  go_wp2_with fail
  go_ret
  exact ⟨rfl, gr_step (gr_step hb1 hb2) hb3⟩
set_option maxHeartbeats 2000000 in
theorem matchGlobs_w (p s : ByteArray) (m : Int) (w : World) (hm : w.cell? ⟨0, 0, none⟩ = some (.int .i64 m)) :
    Calls Tryd.prog 3 #[.string p, .string s] w fun e w' => e = .returned (.bool true) ∧ Below w.heap.size w w' := by
  have HL := Lib.hid (lives52 m)
  have HM := Lib.hid hm
  clear hm
  by_cases hp : 60 < p.size
  · go_enter Tryd.func3, Tryd.ntmps3
    go_wp2_with (go_at_call 4; refine (HL.out _ HM.out).mono ?_; rintro e w' ⟨rfl, hb⟩)
    go_ret
    exact ⟨rfl, hb⟩
  by_cases hs : 60 < s.size
  · go_enter Tryd.func3, Tryd.ntmps3
    go_wp2_with (go_at_call 4; refine (HL.out _ HM.out).mono ?_; rintro e w' ⟨rfl, hb⟩)
    go_ret
    exact ⟨rfl, hb⟩
  have hp' : p.size ≤ 60 := by omega
  have hs' : s.size ≤ 60 := by omega
  have KStar := Lib.hid (fun w hm => glob_yes ⟨#[42]⟩ s m w hm (by decide) (by omega) (show Mt [42] s.data.toList from ⟨s.data.toList, [], by simp, rfl⟩))
  clear hp hs
  by_cases h : Mt p.data.toList s.data.toList
  · have K1 := Lib.hid (fun w hm => glob_yes p s m w hm (by omega) (by omega) h)
    have KR := Lib.hid (fun w => rglob_yes p s w (by omega) (by omega) h)
    have K2 := Lib.hid (fun w hm => glob_yes (p ++ ⟨#[42]⟩) (s ++ p) m w hm (by rw [ByteArray.size_append]; show p.size + 1 ≤ 1000; omega) (by rw [ByteArray.size_append]; omega) (by
      have e1 : (p ++ ⟨#[42]⟩ : ByteArray).data.toList = p.data.toList ++ [42] := by rw [ByteArray.data_append, Array.toList_append]
      have e2 : (s ++ p).data.toList = s.data.toList ++ p.data.toList := by rw [ByteArray.data_append, Array.toList_append]
      rw [e1, e2]
      exact (mt_star _ _).2 ⟨_, _, rfl, h⟩))
    clear h
    go_enter Tryd.func3, Tryd.ntmps3
    go_wp2_with fail
    refine (K1.out _ HM.out).mono ?_
    rintro e w1 ⟨rfl, hb1⟩
    have m1 := Lib.hid (low_cell HM.out hb1)
    go_wp2_with fail
    refine (KR.out _).mono ?_
    rintro e w2 ⟨rfl, hb2⟩
    have m2 := Lib.hid (low_cell m1.out hb2)
    go_wp2_with fail
    refine (K1.out _ m2.out).mono ?_
    rintro e w3 ⟨rfl, hb3⟩
    have m3 := Lib.hid (low_cell m2.out hb3)
    go_wp2_with fail
    refine (K2.out _ m3.out).mono ?_
    rintro e w4 ⟨rfl, hb4⟩
    have m4 := Lib.hid (low_cell m3.out hb4)
    go_wp2_with fail
    refine (KStar.out _ m4.out).mono ?_
    rintro e w5 ⟨rfl, hb5⟩
    have m5 := Lib.hid (low_cell m4.out hb5)
    go_wp2_with fail
    refine (HL.out _ m5.out).mono ?_
    rintro e w6 ⟨rfl, hb6⟩
    go_wp2_with fail
    go_ret
    exact ⟨rfl, gr_step (gr_step (gr_step (gr_step (gr_step hb1 hb2) hb3) hb4) hb5) hb6⟩
  · have K1 := Lib.hid (fun w hm => glob_no p s m w hm (by omega) (by omega) h)
    have KR := Lib.hid (fun w => rglob_no p s w (by omega) (by omega) h)
    clear h
    go_enter Tryd.func3, Tryd.ntmps3
    go_wp2_with fail
    refine (K1.out _ HM.out).mono ?_
    rintro e w1 ⟨rfl, hb1⟩
    have m1 := Lib.hid (low_cell HM.out hb1)
    go_wp2_with fail
    refine (KR.out _).mono ?_
    rintro e w2 ⟨rfl, hb2⟩
    have m2 := Lib.hid (low_cell m1.out hb2)
    go_wp2_with fail
    refine (K1.out _ m2.out).mono ?_
    rintro e w3 ⟨rfl, hb3⟩
    have m3 := Lib.hid (low_cell m2.out hb3)
    go_wp2_with fail
    refine (KStar.out _ m3.out).mono ?_
    rintro e w5 ⟨rfl, hb5⟩
    have m5 := Lib.hid (low_cell m3.out hb5)
    go_wp2_with fail
    refine (HL.out _ m5.out).mono ?_
    rintro e w6 ⟨rfl, hb6⟩
    go_wp2_with fail
    go_ret
    exact ⟨rfl, gr_step (gr_step (gr_step (gr_step hb1 hb2) hb3) hb5) hb6⟩
/-- Behind every row's first world: the search's own variable holds some number. -/
theorem maxlen_of {W : World} (h : W.ShapedOpen Tryd.prog) : ∃ m, W.cell? ⟨0, 0, none⟩ = some (.int .i64 m) := Tryd.laysM145.s1_3 W h
theorem matchGlobs_walk (p s : ByteArray) (W : World) (_ : p.size ≤ maxLen) (_ : s.size ≤ maxLen) (h : W.ShapedOpen Tryd.prog) :
    Calls Tryd.prog 3 #[.string p, .string s] W fun e w' => e = .returned (.bool true) ∧ Below W.heap.size W w' := by
  obtain ⟨m, hm⟩ := maxlen_of h
  exact matchGlobs_w p s m W hm
end Go.Proofs.YtkaigdmoccfbfaaDoor
