/- What num.Scan answers: its walk; the goto leads forward alone. -/
import Derived.Test.YtdnkpclpcelbaaaDoorLnuA
import Derived.WalkMore
import Derived.ScopeJumps
import Derived.OwnWalk
namespace Go.Proofs.YtdnkpclpcelbaaaDoor
set_option maxRecDepth 20000
set_option linter.unusedSimpArgs false
set_option linter.unusedVariables false
open Go.RowKit
section
variable {P : Program} {a : Act} {w : World} {Q : Exit → Act → World → Prop}
@[go_sem] theorem jump_ret (l : Nat) (J : Act → World → Prop) : Exit.jump l J Q .ret a w = Q .ret a w := rfl
@[go_sem] theorem jump_normal (l : Nat) (J : Act → World → Prop) : Exit.jump l J Q .normal a w = Q .normal a w := rfl
@[go_sem] theorem jump_exit (l id : Nat) (J : Act → World → Prop) : Exit.jump l J Q (.exit id) a w = Q (.exit id) a w := rfl
/-- A scope in which each goto leads forward to one label, behind which there is none. -/
theorem wp_scope_fwd {c rest : Code} (l : Nat) (hf : findLabel c l = some rest)
    (first : c.wp P (Exit.jump l (fun a' w' => rest.wp P (Exit.noGoto Q) a' w') Q) a w) : (Code.scope c).wp P Q a w := by
  refine wp_scope_jumps l (fun a' w' => rest.wp P (Exit.noGoto Q) a' w') (fun _ _ => 0) hf first ?_
  intro a w h b k cs
  obtain ⟨e, a₁, w₁, hq, harr⟩ := h b k cs
  refine ⟨e, a₁, w₁, ?_, harr⟩
  cases e with
  | goto l => exact hq.elim
  | _ => exact hq
end
theorem digit_any (x : Int) (w : World) :
    Calls Tryd.prog 82 #[.int .u8 x] w fun e w' => e = .returned (.bool (decide (48 ≤ x) && decide (x ≤ 57))) ∧ w = w' := by
  by_cases h1 : 48 ≤ x
  · by_cases h2 : x ≤ 57
    all_goals
      go_enter Tryd.func82, Tryd.ntmps82
      go_wp2
      go_ret
      exact ⟨ret_bool (by simp [h1, h2]), rfl⟩
  · go_enter Tryd.func82, Tryd.ntmps82
    go_wp2
    go_ret
    have h3 : decide (48 ≤ x) = false := by simpa using h1
    exact ⟨ret_bool (by rw [h3]; rfl), rfl⟩
theorem scan_out (s : ByteArray) (p : Int) (w : World) (hp : p < 0 ∨ (s.size : Int) < p) (hs : s.size ≤ 140737488355328) :
    Calls Tryd.prog 60 #[.string s, .int .i64 p] w fun e w' => e = retI (0, 0, 1) ∧ Below w.heap.size w w' := by
  rcases hp with hp | hp
  · go_enter Tryd.func60, Tryd.ntmps60
    go_wp2_with fail
    refine wp_scope_fwd 0 rfl ?_
    go_wp2_with fail
    go_step3
    refine ⟨rfl, ?_⟩
    go_wp2_with fail
    try rw [Exit.noGoto_ret]
    go_ret3
    exact ⟨rfl, Below.refl _ _⟩
  · have hp0 : ¬ p < 0 := by omega
    go_enter Tryd.func60, Tryd.ntmps60
    go_wp2_with fail
    refine wp_scope_fwd 0 rfl ?_
    go_wp2_with fail
    go_step3
    refine ⟨rfl, ?_⟩
    go_wp2_with fail
    try rw [Exit.noGoto_ret]
    go_ret3
    exact ⟨rfl, Below.refl _ _⟩
theorem scan_un6 (s : ByteArray) (f : Nat) (w : World) (hf : f ≤ s.size) (hm : gb s f ≠ 45) (hd : f < s.size → isD (gb s f) = false) (hs : s.size ≤ 140737488355328) :
    Calls Tryd.prog 60 #[.string s, .int .i64 (f : Int)] w fun e w' => e = retI (scanF s f 0) ∧ Below w.heap.size w w' := by
  have hp0 : ¬ (f : Int) < 0 := by omega
  have hp1 : ¬ (s.size : Int) < f := by omega
  rcases Nat.lt_or_ge f s.size with h | h
  · have g0 := gb_at s f h
    have nat0 : (f : Int).toNat = f := by omega
    have q1 : (f : Int) < (s.size : Int) := by omega
    have q2 : ¬ (f : Int) = (s.size : Int) := by omega
    have q3 : ¬ (gb s f : Int) = 45 := by omega
    have g1 := gb_lt s f
    have hd := hd h
    · have E1 := Lib.hid (scanF_6 (sg := 0) h hd)
      have D1 : (decide (48 ≤ (gb s f : Int)) && decide ((gb s f : Int) ≤ 57)) = false := by have := isD_no hd; simp; omega
      clear hd
      go_enter Tryd.func60, Tryd.ntmps60
      go_wp2_with fail
      refine wp_scope_fwd 0 rfl ?_
      go_wp2_with (go_at_call 82; refine (digit_any _ _).mono ?_; rintro e w' ⟨rfl, rfl⟩)
      go_step3
      refine ⟨rfl, ?_⟩
      go_wp2_with fail
      try rw [Exit.noGoto_ret]
      go_ret3
      exact ⟨(congrArg retI E1.out).symm, Below.refl _ _⟩
  · have E1 := Lib.hid (scanF_5 (sg := 0) (show f = s.size by omega))
    have q2 : (f : Int) = (s.size : Int) := by omega
    have q1 : ¬ (f : Int) < (s.size : Int) := by omega
    go_enter Tryd.func60, Tryd.ntmps60
    go_wp2_with fail
    refine wp_scope_fwd 0 rfl ?_
    go_wp2_with fail
    go_step3
    refine ⟨rfl, ?_⟩
    go_wp2_with fail
    try rw [Exit.noGoto_ret]
    go_ret3
    exact ⟨(congrArg retI E1.out).symm, Below.refl _ _⟩
end Go.Proofs.YtdnkpclpcelbaaaDoor
