/- host (layer 27): the bytes' functions and just; the reference's class and most. -/
import Derived.Test.YtdnkpclpcelbaaaDoorLnuH
import Derived.Test.YtdnkpclpcelbaaaDoorStr
import Derived.Test.YtdnkpclpcelbaaaDoorRoc
import Derived.OwnWalkIn
import Derived.TacticsInMore
import Derived.LoopNIn
import Derived.LoopIn
namespace Go.Proofs.YtdnkpclpcelbaaaDoor
set_option maxRecDepth 20000
set_option linter.unusedSimpArgs false
set_option linter.unusedVariables false
open Go.RowKit Go.Lib Go.Shelf
attribute [local go_sem] Oper.semAt_some
/-- May the byte stand in a label? -/
def lab (x : Nat) : Bool := (97 ≤ x && x ≤ 122) || (65 ≤ x && x ≤ 90) || isD x || x == 45
/-- A digit to the base sixteen. -/
def hex (x : Nat) : Bool := isD x || (97 ≤ x && x ≤ 102) || (65 ≤ x && x ≤ 70)
/-- All bytes of a text are such. -/
def allG (g : Nat → Bool) (s : ByteArray) : Bool := s.data.toList.all fun c => g c.toNat
theorem wDig_any (c : Nat) (w : World) :
    Calls Tryd.prog 62 #[.int .u8 (c : Int)] w fun e w' => e = .returned (.bool (isD c)) ∧ w = w' := by
  by_cases h1 : 48 ≤ c
  · by_cases h2 : c ≤ 57
    all_goals
      have q1 : (48 : Int) ≤ c := by omega
      have q2 : isD c = decide (c ≤ 57) := by simp [isD, h1]
      have q3 : decide ((c : Int) ≤ 57) = decide (c ≤ 57) := by simp; omega
      go_enter Tryd.func62, Tryd.ntmps62
      go_wp2_with fail
      go_ret
      exact ⟨ret_bool (by rw [q2]; first | exact q3 | simp [h2] | omega), rfl⟩
  · have q1 : ¬ (48 : Int) ≤ c := by omega
    go_enter Tryd.func62, Tryd.ntmps62
    go_wp2_with fail
    go_ret
    exact ⟨ret_bool (by simp [isD, h1]), rfl⟩
theorem hexd_any (c : Nat) (w : World) :
    Calls Tryd.prog 67 #[.int .u8 (c : Int)] w fun e w' => e = .returned (.bool (hex c)) ∧ w = w' := by
  by_cases h1 : 48 ≤ c <;> by_cases h2 : c ≤ 57 <;> by_cases h3 : 97 ≤ c <;> by_cases h4 : c ≤ 102 <;> by_cases h5 : 65 ≤ c <;> by_cases h6 : c ≤ 70 <;> (first | omega | skip)
  all_goals
    have q1 : decide ((48 : Int) ≤ c) = decide (48 ≤ c) := by simp; omega
    have q2 : decide ((c : Int) ≤ 57) = decide (c ≤ 57) := by simp; omega
    have q3 : decide ((97 : Int) ≤ c) = decide (97 ≤ c) := by simp; omega
    have q4 : decide ((c : Int) ≤ 102) = decide (c ≤ 102) := by simp; omega
    have q5 : decide ((65 : Int) ≤ c) = decide (65 ≤ c) := by simp; omega
    have q6 : decide ((c : Int) ≤ 70) = decide (c ≤ 70) := by simp; omega
    simp only [h1, h2, h3, h4, h5, h6, decide_true, decide_false] at q1 q2 q3 q4 q5 q6
    have q7 := Lib.hid (show hex c = _ from by simp only [hex, isD, h1, h2, h3, h4, h5, h6, decide_true, decide_false, Bool.and_true, Bool.and_false, Bool.or_true, Bool.or_false]; rfl)
    go_enter Tryd.func67, Tryd.ntmps67
    go_wp2_with fail
    go_ret
    exact ⟨ret_bool q7.out.symm, rfl⟩
end Go.Proofs.YtdnkpclpcelbaaaDoor
