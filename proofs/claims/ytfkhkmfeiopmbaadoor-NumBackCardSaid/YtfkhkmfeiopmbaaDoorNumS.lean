/- What num.Scan answers (without the reference's); lives of layer 5. -/
import Derived.Test.YtfkhkmfeiopmbaaDoorNumC
import Derived.Test.YtfkhkmfeiopmbaaDoorNumD
namespace Go.Proofs.YtfkhkmfeiopmbaaDoor
open Go.RowKit
set_option maxHeartbeats 4000000 in
theorem scan_si6 (s : ByteArray) (a f : Nat) (w : World) (hf : f = a + 1) (hfs : f ≤ s.size) (hm : gb s a = 45) (hd : f < s.size → isD (gb s f) = false) (hs : s.size ≤ 140737488355328) :
    Calls Tryd.prog 9 #[.string s, .int .i64 (a : Int)] w fun e w' => e = ret3 (scanF s f 1) ∧ Below w.heap.size w w' := by
  have hp0 : ¬ (a : Int) < 0 := by omega
  have hp1 : ¬ (s.size : Int) < a := by omega
  have ha : a < s.size := by omega
  have ga := (gb_at s a ha).trans hm
  have nata : (a : Int).toNat = a := by omega
  have q3 : (a : Int) < (s.size : Int) := by omega
  have wf : IntKind.i64.wrap ((a : Int) + 1) = (f : Int) := by rw [IntWalk.i64_in _ (by omega)]; omega
  have sf : (a : Int) + 1 = (f : Int) := by omega
  clear hf
  rcases Nat.lt_or_ge f s.size with h | h
  · have g0 := gb_at s f h
    have nat0 : (f : Int).toNat = f := by omega
    have q1 : (f : Int) < (s.size : Int) := by omega
    have q2 : ¬ (f : Int) = (s.size : Int) := by omega
    have g1 := gb_lt s f
    have hd := hd h
    have E1 := Lib.hid (scanF_6 (sg := 1) h hd)
    have D1 : (decide (48 ≤ (gb s f : Int)) && decide ((gb s f : Int) ≤ 57)) = false := by have := isD_no hd; simp; omega
    clear hd
    go_enter Tryd.func9, Tryd.ntmps9
    go_wp2_with fail
    refine wp_scope_fwd 0 rfl ?_
    go_wp2_with (go_at_call 12; refine (digit_any _ _).mono ?_; rintro e w' ⟨rfl, rfl⟩)
    go_step3
    refine ⟨rfl, ?_⟩
    go_wp2_with fail
    try rw [Exit.noGoto_ret]
    go_ret3
    exact ⟨(congrArg ret3 E1.out).symm, Below.refl _ _⟩
  · have E1 := Lib.hid (scanF_5 (sg := 1) (show f = s.size by omega))
    have q2 : (f : Int) = (s.size : Int) := by omega
    have q1 : ¬ (f : Int) < (s.size : Int) := by omega
    clear hd
    go_enter Tryd.func9, Tryd.ntmps9
    go_wp2_with fail
    refine wp_scope_fwd 0 rfl ?_
    go_wp2_with fail
    go_step3
    refine ⟨rfl, ?_⟩
    go_wp2_with fail
    try rw [Exit.noGoto_ret]
    go_ret3
    exact ⟨(congrArg ret3 E1.out).symm, Below.refl _ _⟩
theorem scanI_un {s : ByteArray} {f : Nat} (hf : f ≤ s.size) (hm : gb s f ≠ 45) : scanI s (f : Int) = scanF s f 0 := by
  rw [scanI, if_neg (by omega), Int.toNat_natCast, if_neg hm]
theorem scanI_si {s : ByteArray} {a f : Nat} (hfa : f = a + 1) (hf : f ≤ s.size) (hm : gb s a = 45) : scanI s (a : Int) = scanF s f 1 := by
  rw [scanI, if_neg (by omega), Int.toNat_natCast, if_pos hm, hfa]
theorem sign_in {s : ByteArray} {a : Nat} (hm : gb s a = 45) : a + 1 ≤ s.size := by
  apply Nat.lt_of_not_le
  intro h
  rw [gb_out s a h] at hm
  exact absurd hm (by decide)
theorem scan_any (s : ByteArray) (p : Int) (w : World) (hs : s.size ≤ 140737488355328) :
    Calls Tryd.prog 9 #[.string s, .int .i64 p] w fun e w' => e = ret3 (scanI s p) ∧ Below w.heap.size w w' := by
  by_cases hp : p < 0 ∨ (s.size : Int) < p
  · rw [scanI, if_pos hp]
    exact scan_out s p w hp hs
  · obtain ⟨a, rfl⟩ : ∃ a : Nat, p = (a : Int) := ⟨p.toNat, by omega⟩
    by_cases hm : gb s a = 45
    · have hf := sign_in hm
      rw [scanI_si rfl hf hm]
      by_cases hd : a + 1 < s.size ∧ isD (gb s (a + 1)) = true
      · exact scan_si s a (a + 1) w rfl hd.1 hm hd.2 hs
      · exact scan_si6 s a (a + 1) w rfl hf hm (fun h => by cases hx : isD (gb s (a + 1)) <;> simp_all) hs
    · have hf : a ≤ s.size := by omega
      rw [scanI_un hf hm]
      by_cases hd : a < s.size ∧ isD (gb s a) = true
      · exact scan_un s a w hd.1 hm hd.2 hs
      · exact scan_un6 s a w hf hm (fun h => by cases hx : isD (gb s a) <;> simp_all) hs
theorem ex1 : scanI ⟨#[97, 49, 50, 44]⟩ 1 = (12, 3, 0) := by decide +kernel
theorem ex2 : scanI ⟨#[48, 48, 55]⟩ 0 = (0, 0, 12) := by decide +kernel
theorem ex3 : scanI ⟨#[57, 48, 48, 55, 49, 57, 57, 50, 53, 52, 55, 52, 48, 57, 57, 50]⟩ 0 = (0, 0, 2) := by decide +kernel
theorem lives_any (w : World) :
    Calls Tryd.prog 8 #[] w fun e w' => e = .returned (.bool true) ∧ Below w.heap.size w w' := by
  go_enter Tryd.func8, Tryd.ntmps8
  go_wp2_with (first
    | (go_at_call 9; with_reducible refine (scan_any ⟨#[97, 49, 50, 44]⟩ 1 _ (by decide)).mono ?_; rw [ex1]; simp only [ret3]; rintro e w' ⟨rfl, hb⟩)
    | (go_at_call 9; with_reducible refine (scan_any ⟨#[48, 48, 55]⟩ 0 _ (by decide)).mono ?_; rw [ex2]; simp only [ret3]; rintro e w' ⟨rfl, hb⟩)
    | (go_at_call 9; with_reducible refine (scan_any ⟨#[57, 48, 48, 55, 49, 57, 57, 50, 53, 52, 55, 52, 48, 57, 57, 50]⟩ 0 _ (by decide)).mono ?_; rw [ex3]; simp only [ret3]; rintro e w' ⟨rfl, hb⟩))
  go_ret
  refine ⟨rfl, ?_⟩
  repeat (first | exact Below.refl _ _ | refine gr_step ?_ (by assumption))
end Go.Proofs.YtfkhkmfeiopmbaaDoor
