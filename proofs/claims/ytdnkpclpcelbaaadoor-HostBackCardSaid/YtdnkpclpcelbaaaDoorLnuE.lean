/- num.Scan behind a sign where no digit stands; the reference's digits and small. -/
import Derived.Test.YtdnkpclpcelbaaaDoorLnuB
namespace Go.Proofs.YtdnkpclpcelbaaaDoor
set_option maxRecDepth 20000
set_option linter.unusedSimpArgs false
set_option linter.unusedVariables false
open Go.RowKit
set_option maxHeartbeats 4000000 in
theorem scan_si6 (s : ByteArray) (a f : Nat) (w : World) (hf : f = a + 1) (hfs : f ≤ s.size) (hm : gb s a = 45) (hd : f < s.size → isD (gb s f) = false) (hs : s.size ≤ 140737488355328) :
    Calls Tryd.prog 60 #[.string s, .int .i64 (a : Int)] w fun e w' => e = retI (scanF s f 1) ∧ Below w.heap.size w w' := by
  have hp0 : ¬ (a : Int) < 0 := by omega
  have hp1 : ¬ (s.size : Int) < a := by omega
  have ha : a < s.size := by omega
  have ga := (gb_at s a ha).trans hm
  have nata : (a : Int).toNat = a := by omega
  have q3 : (a : Int) < (s.size : Int) := by omega
  have wf : IntKind.i64.wrap ((a : Int) + 1) = (f : Int) := by rw [IntWalk.i64_in _ (by omega)]; omega
  have sf : (a : Int) + 1 = (f : Int) := by omega
  clear hf
  rcases Nat.lt_or_ge f s.size with h | h
  · have g0 := gb_at s f h
    have nat0 : (f : Int).toNat = f := by omega
    have q1 : (f : Int) < (s.size : Int) := by omega
    have q2 : ¬ (f : Int) = (s.size : Int) := by omega
    have g1 := gb_lt s f
    have hd := hd h
    have E1 := Lib.hid (scanF_6 (sg := 1) h hd)
    have D1 : (decide (48 ≤ (gb s f : Int)) && decide ((gb s f : Int) ≤ 57)) = false := by have := isD_no hd; simp; omega
    clear hd
    go_enter Tryd.func60, Tryd.ntmps60
    go_wp2_with fail
    refine wp_scope_fwd 0 rfl ?_
    go_wp2_with (go_at_call 82; refine (digit_any _ _).mono ?_; rintro e w' ⟨rfl, rfl⟩)
    go_step3
    refine ⟨rfl, ?_⟩
    go_wp2_with fail
    try rw [Exit.noGoto_ret]
    go_ret3
    exact ⟨(congrArg retI E1.out).symm, Below.refl _ _⟩
  · have E1 := Lib.hid (scanF_5 (sg := 1) (show f = s.size by omega))
    have q2 : (f : Int) = (s.size : Int) := by omega
    have q1 : ¬ (f : Int) < (s.size : Int) := by omega
    clear hd
    go_enter Tryd.func60, Tryd.ntmps60
    go_wp2_with fail
    refine wp_scope_fwd 0 rfl ?_
    go_wp2_with fail
    go_step3
    refine ⟨rfl, ?_⟩
    go_wp2_with fail
    try rw [Exit.noGoto_ret]
    go_ret3
    exact ⟨(congrArg retI E1.out).symm, Below.refl _ _⟩
end Go.Proofs.YtdnkpclpcelbaaaDoor
