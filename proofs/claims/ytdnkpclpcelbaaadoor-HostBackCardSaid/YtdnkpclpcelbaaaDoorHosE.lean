/- host (layer 27): the reference's class and most. -/
import Derived.Test.YtdnkpclpcelbaaaDoorHosC
namespace Go.Proofs.YtdnkpclpcelbaaaDoor
set_option maxRecDepth 20000
set_option linter.unusedSimpArgs false
set_option linter.unusedVariables false
open Go.RowKit Go.Lib Go.Shelf
attribute [local go_sem] Oper.semAt_some
/-- The reference's class of a byte. -/
def cls (x : Nat) : Nat :=
  if isD x then 1 else if (97 ≤ x && x ≤ 102) || (65 ≤ x && x ≤ 70) then 2 else if (97 ≤ x && x ≤ 122) || (65 ≤ x && x ≤ 90) then 3 else if x = 45 then 4 else 0
/-- The greatest class of the first `k` bytes. -/
def mst (s : ByteArray) : Nat → Nat
  | 0 => 0
  | k + 1 => max (mst s k) (cls (gb s k))
def most (s : ByteArray) : Nat := if allG (fun x => cls x != 0) s then mst s s.size else 9
theorem cls_lab : ∀ c : Fin 256, lab c.val = (cls c.val != 0) := by decide +kernel
theorem cls_hex : ∀ c : Fin 256, hex c.val = (cls c.val != 0 && decide (cls c.val ≤ 2)) := by decide +kernel
theorem cls_dig : ∀ c : Fin 256, isD c.val = (cls c.val != 0 && decide (cls c.val ≤ 1)) := by decide +kernel
set_option maxHeartbeats 4000000 in
theorem class_any (c : Nat) (w : World) :
    Calls Tryd.prog 70 #[.int .u8 (c : Int)] w fun e w' => e = .returned (.int .i64 (cls c : Int)) ∧ w = w' := by
  by_cases h1 : 48 ≤ c <;> by_cases h2 : c ≤ 57 <;> by_cases h3 : 97 ≤ c <;> by_cases h4 : c ≤ 102 <;> by_cases h5 : 65 ≤ c <;> by_cases h6 : c ≤ 70 <;> by_cases h7 : c ≤ 122 <;> by_cases h8 : c ≤ 90 <;> by_cases h9 : c = 45 <;> (first | omega | skip)
  all_goals
    have q1 : decide ((48 : Int) ≤ c) = decide (48 ≤ c) := by simp; omega
    have q2 : decide ((c : Int) ≤ 57) = decide (c ≤ 57) := by simp; omega
    have q3 : decide ((97 : Int) ≤ c) = decide (97 ≤ c) := by simp; omega
    have q4 : decide ((c : Int) ≤ 102) = decide (c ≤ 102) := by simp; omega
    have q5 : decide ((65 : Int) ≤ c) = decide (65 ≤ c) := by simp; omega
    have q6 : decide ((c : Int) ≤ 70) = decide (c ≤ 70) := by simp; omega
    have q7 : decide ((c : Int) ≤ 122) = decide (c ≤ 122) := by simp; omega
    have q8 : decide ((c : Int) ≤ 90) = decide (c ≤ 90) := by simp; omega
    have q9 : ((c : Int) == 45) = decide (c = 45) := by
      by_cases h : c = 45
      · subst h; rfl
      · simp [h]; omega
    simp only [h1, h2, h3, h4, h5, h6, h7, h8, h9, decide_true, decide_false] at q1 q2 q3 q4 q5 q6 q7 q8 q9
    have q10 := Lib.hid (show cls c = _ from by simp [cls, isD, h1, h2, h3, h4, h5, h6, h7, h8, h9]; rfl)
    go_enter Tryd.func70, Tryd.ntmps70
    go_wp2_with fail
    go_ret
    exact ⟨by rw [q10.out]; rfl, rfl⟩
theorem cls_le (x : Nat) : cls x ≤ 4 := by unfold cls; split <;> (try split) <;> (try split) <;> (try split) <;> omega
theorem mst_le (s : ByteArray) : ∀ k, mst s k ≤ 4
  | 0 => by simp [mst]
  | k + 1 => by have := mst_le s k; have := cls_le (gb s k); rw [mst]; omega
set_option maxHeartbeats 4000000 in
theorem most_any (s : ByteArray) (w : World) (hs : s.size ≤ 140737488355328) :
    Calls Tryd.prog 69 #[.string s] w fun e w' => e = .returned (.int .i64 (most s : Int)) ∧ w = w' := by
  obtain ⟨r, hr⟩ : ∃ r, most s = r := ⟨_, rfl⟩
  rw [hr]
  have HR := Lib.hid hr
  clear hr
  go_enter Tryd.func69, Tryd.ntmps69
  go_wp2_with fail
  go_loop [3, 4] (fun n p => ∃ k : Nat, n = .int .i64 (mst s k : Int) ∧ p = .int .i64 (k : Int) ∧ k ≤ s.size ∧ ∀ i, i < k → (cls (gb s i) != 0) = true) (fun _ p => s.size - (Go.RowKit.intOf p).toNat)
  case atStart => exact ⟨0, rfl, rfl, by omega, fun i h => by omega⟩
  case round =>
    obtain ⟨k, rfl, rfl, hk, hb⟩ := hrel
    by_cases hlt : k < s.size
    · have p1 : (k : Int) < (s.size : Int) := by omega
      have natk : (k : Int).toNat = k := by omega
      obtain ⟨c, hc⟩ : ∃ c, gb s k = c := ⟨_, rfl⟩
      have hcl : c < 256 := by rw [← hc]; exact gb_lt s k
      have gk := (gb_at s k hlt).trans hc
      have w1 : IntKind.i64.wrap ((k : Int) + 1) = (k : Int) + 1 := IntWalk.i64_in _ (by omega)
      have KC := fun W => class_any c W
      obtain ⟨m, em⟩ : ∃ m, mst s k = m := ⟨_, rfl⟩
      obtain ⟨z, ez⟩ : ∃ z, cls c = z := ⟨_, rfl⟩
      rw [em]
      rw [ez] at KC
      have HB := Lib.hid hb
      have HC := Lib.hid hc
      have HM := Lib.hid em
      have HZ := Lib.hid ez
      clear hb hc em ez
      by_cases hz : z = 0
      · subst hz
        go_wp2_with (go_at_call 70; refine (KC _).mono ?_; rintro e w' ⟨rfl, rfl⟩)
        go_ret
        exact ⟨by rw [← HR.out, most, if_neg (by rw [allG_no hlt (by rw [HC.out, HZ.out]; rfl)]; simp)]; rfl, rfl⟩
      · have q0 : ((z : Int) == 0) = false := by simp; omega
        have q1 : ¬ (z : Int) = 0 := by omega
        go_wp2_with (go_at_call 70; refine (KC _).mono ?_; rintro e w' ⟨rfl, rfl⟩)
        go_round
        case rel => exact ⟨k + 1, congrArg (Value.int .i64) (by rw [mst, HM.out, HC.out, HZ.out]; omega), congrArg (Value.int .i64) (by omega), hlt, fun i hi => by
          by_cases h : i < k
          · exact HB.out i h
          · rw [show i = k by omega, HC.out, HZ.out]; simpa using hz⟩
        case measure => simp [Go.RowKit.intOf]; omega
    · have p1 : ¬ (k : Int) < (s.size : Int) := by omega
      have ek : k = s.size := by omega
      have HB := Lib.hid hb
      clear hb
      go_wp2_with fail
      go_ret
      exact ⟨by rw [← HR.out, most, if_pos (allG_of fun i hi => HB.out i (by omega))]; rfl, rfl⟩
end Go.Proofs.YtdnkpclpcelbaaaDoor
