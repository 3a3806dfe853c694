/- num.Scan from the first digit on, a sign ahead: written by gen_num.py. -/
import Derived.Test.YtdnkpclpcelbaaaDoorLnuB
namespace Go.Proofs.YtdnkpclpcelbaaaDoor
set_option maxRecDepth 20000
set_option linter.unusedSimpArgs false
set_option linter.unusedVariables false
open Go.RowKit
set_option maxHeartbeats 8000000 in
theorem scan_si (s : ByteArray) (a f : Nat) (w : World) (hf : f = a + 1) (h : f < s.size) (hm : gb s a = 45) (hd : isD (gb s f) = true) (hs : s.size ≤ 140737488355328) :
    Calls Tryd.prog 60 #[.string s, .int .i64 (a : Int)] w fun e w' => e = retI (scanF s f 1) ∧ Below w.heap.size w w' := by
  have hp0 : ¬ (a : Int) < 0 := by omega
  have hp1 : ¬ (s.size : Int) < a := by omega
  have q0 : (a : Int) < (f : Int) := by omega
  have ha : a < s.size := by omega
  have ga := (gb_at s a ha).trans hm
  have nata : (a : Int).toNat = a := by omega
  have q3 : (a : Int) < (s.size : Int) := by omega
  have wf : IntKind.i64.wrap ((a : Int) + 1) = (f : Int) := by rw [IntWalk.i64_in _ (by omega)]; omega
  have sf : (a : Int) + 1 = (f : Int) := by omega
  have RC : (gb s f = 48) ∨ (gb s f ≠ 48 ∧ 9007199254740991 < capN s f (cnt s f)) ∨ (gb s f ≠ 48 ∧ capN s f (cnt s f) ≤ 9007199254740991) := by omega
  clear hf
  have g0 := gb_at s f h
  have nat0 : (f : Int).toNat = f := by omega
  have q1 : (f : Int) < (s.size : Int) := by omega
  have q2 : ¬ (f : Int) = (s.size : Int) := by omega
  have g1 := gb_lt s f
  have hc := scanF_pos hd
  have D1 : (decide (48 ≤ (gb s f : Int)) && decide ((gb s f : Int) ≤ 57)) = true := by have := isD_yes hd; simp; omega
  have CL := cap_lt s f (cnt s f)
  have neg : IntKind.i64.wrap (-(capN s f (cnt s f) : Int)) = -(capN s f (cnt s f) : Int) := IntWalk.i64_in _ (by omega)
  clear hd
  go_enter Tryd.func60, Tryd.ntmps60
  go_wp2_with fail
  refine wp_scope_fwd 0 rfl ?_
  go_wp2_with (go_at_call 82; refine (digit_any _ _).mono ?_; rintro e w' ⟨rfl, rfl⟩)
  go_step3
  go_wp2_with fail
  go_loopw [4, 5] (fun n i wr => ∃ k : Nat, k ≤ cnt s f ∧ i = .int .i64 ((f + k : Nat) : Int) ∧ n = .int .i64 (capN s f k : Int) ∧ Below w.heap.size w wr) (fun _ i _ => s.size - (intOf i).toNat)
  case atStart => exact ⟨0, by omega, rfl, rfl, Below.refl _ _⟩
  case round =>
    obtain ⟨k, hk, rfl, rfl, hb⟩ := hrel
    obtain ⟨p, hp⟩ : ∃ p, p = f + k := ⟨_, rfl⟩
    rw [← hp]
    have natp : (p : Int).toNat = p := by omega
    have wf1 : IntKind.i64.wrap ((f : Int) + 1) = (f : Int) + 1 := IntWalk.i64_in _ (by omega)
    by_cases hlt : p < s.size
    · have gp := gb_at s p hlt
      have gpl := gb_lt s p
      have p1 : (p : Int) < (s.size : Int) := by omega
      cases hE : isE (gb s p)
      · have x1 : ¬ (gb s p : Int) = 46 := by intro x; rw [show gb s p = 46 from by omega] at hE; exact absurd hE (by decide)
        have x2 : ¬ (gb s p : Int) = 101 := by intro x; rw [show gb s p = 101 from by omega] at hE; exact absurd hE (by decide)
        have x3 : ¬ (gb s p : Int) = 69 := by intro x; rw [show gb s p = 69 from by omega] at hE; exact absurd hE (by decide)
        have b1 : ((gb s p : Int) == 46) = false := by simpa using x1
        have b2 : ((gb s p : Int) == 101) = false := by simpa using x2
        have b3 : ((gb s p : Int) == 69) = false := by simpa using x3
        cases hD : isD (gb s p)
        · have D2 : (decide (48 ≤ (gb s p : Int)) && decide ((gb s p : Int) ≤ 57)) = false := by have := isD_no hD; simp; omega
          have hk2 := cnt_same hk (by rw [← hp]; exact hD)
          subst hk2
          rw [hp] at hE
          clear hD
          rcases RC with e48 | ⟨n48, hv⟩ | ⟨n48, hv⟩
          · have E1 := Lib.hid (scanF_0 (sg := 1) h hc e48 (Or.inr rfl))
            rw [e48] at g0
            have HP := Lib.hid hp
            clear hp
            by_cases r1 : (f : Int) + 1 < (p : Int)
            · have rb1 : decide ((f : Int) + 1 < (p : Int)) = true := by simpa using r1
              go_wp2_with (go_at_call 82; refine (digit_any _ _).mono ?_; rintro e w' ⟨rfl, rfl⟩)
              go_step3
              refine ⟨rfl, ?_⟩
              go_wp2_with (go_at_call 82; refine (digit_any _ _).mono ?_; rintro e w' ⟨rfl, rfl⟩)
              try rw [Exit.noGoto_ret]
              go_ret3
              exact ⟨(congrArg retI E1.out).symm, by assumption⟩
            · have rb1 : decide ((f : Int) + 1 < (p : Int)) = false := by simpa using r1
              go_wp2_with (go_at_call 82; refine (digit_any _ _).mono ?_; rintro e w' ⟨rfl, rfl⟩)
              go_step3
              refine ⟨rfl, ?_⟩
              go_wp2_with (go_at_call 82; refine (digit_any _ _).mono ?_; rintro e w' ⟨rfl, rfl⟩)
              try rw [Exit.noGoto_ret]
              go_ret3
              exact ⟨(congrArg retI E1.out).symm, by assumption⟩
          · have E1 := Lib.hid (scanF_2 (sg := 1) h hc hE (by omega) ((cap_val s f (cnt s f)).2 hv))
            have r3 : ¬ (gb s f : Int) = 48 := by omega
            have rb3 : ((gb s f : Int) == 48) = false := by simpa using r3
            have r2 : 9007199254740991 < (capN s f (cnt s f) : Int) := by omega
            have HP := Lib.hid hp
            clear hp
            go_wp2_with (go_at_call 82; refine (digit_any _ _).mono ?_; rintro e w' ⟨rfl, rfl⟩)
            go_step3
            refine ⟨rfl, ?_⟩
            go_wp2_with (go_at_call 82; refine (digit_any _ _).mono ?_; rintro e w' ⟨rfl, rfl⟩)
            try rw [Exit.noGoto_ret]
            go_ret3
            exact ⟨(congrArg retI E1.out).symm, by assumption⟩
          · have E1 := Lib.hid (scanF_n (sg := 1) h hc hE (by omega) (by have := (cap_val s f (cnt s f)).1 hv; omega))
            have r3 : ¬ (gb s f : Int) = 48 := by omega
            have rb3 : ((gb s f : Int) == 48) = false := by simpa using r3
            have r2 : ¬ 9007199254740991 < (capN s f (cnt s f) : Int) := by omega
            have V := Lib.hid ((cap_val s f (cnt s f)).1 hv)
            have HP := Lib.hid hp
            clear hp
            go_wp2_with (go_at_call 82; refine (digit_any _ _).mono ?_; rintro e w' ⟨rfl, rfl⟩)
            try rw [jump_ret]
            go_ret3
            exact ⟨by rw [E1.out, ← V.out, ← HP.out]; rfl, by assumption⟩
        · have D2 : (decide (48 ≤ (gb s p : Int)) && decide ((gb s p : Int) ≤ 57)) = true := by have := isD_yes hD; simp; omega
          have hk2 := cnt_more hk (by rw [← hp]; exact hD)
          obtain ⟨y1, y2⟩ := isD_yes hD
          have o1 : IntKind.u8.wrap ((gb s p : Int) - 48) = (gb s p : Int) - 48 := by rw [IntKind.wrap_u8']; omega
          have o2 : IntKind.i64.wrap ((gb s p : Int) - 48) = (gb s p : Int) - 48 := IntWalk.i64_in _ (by omega)
          have o5 : IntKind.i64.wrap ((p : Int) + 1) = (p : Int) + 1 := IntWalk.i64_in _ (by omega)
          by_cases hM : capN s f k ≤ 9007199254740991
          · have o0 : (capN s f k : Int) ≤ 9007199254740991 := by omega
            have o3 : IntKind.i64.wrap (10 * (capN s f k : Int)) = 10 * (capN s f k : Int) := IntWalk.i64_in _ (by omega)
            have o4 : IntKind.i64.wrap (10 * (capN s f k : Int) + ((gb s p : Int) - 48)) = 10 * (capN s f k : Int) + ((gb s p : Int) - 48) := IntWalk.i64_in _ (by omega)
            have C1 := Lib.hid (show (capN s f (k + 1) : Int) = 10 * (capN s f k : Int) + ((gb s p : Int) - 48) by rw [capN, if_pos hM, ← hp]; omega)
            clear hD RC CL
            have HP := Lib.hid hp
            clear hp
            go_wp2_with (go_at_call 82; refine (digit_any _ _).mono ?_; rintro e w' ⟨rfl, rfl⟩)
            go_roundw
            case rel => exact ⟨k + 1, hk2, congrArg (Value.int .i64) (by have := HP.out; omega), congrArg (Value.int .i64) C1.out.symm, by assumption⟩
            case measure => simp [intOf]; omega
          · have o0 : ¬ (capN s f k : Int) ≤ 9007199254740991 := by omega
            have C1 := Lib.hid (show (capN s f (k + 1) : Int) = (capN s f k : Int) by rw [capN, if_neg hM])
            clear hD RC CL
            have HP := Lib.hid hp
            clear hp
            go_wp2_with (go_at_call 82; refine (digit_any _ _).mono ?_; rintro e w' ⟨rfl, rfl⟩)
            go_roundw
            case rel => exact ⟨k + 1, hk2, congrArg (Value.int .i64) (by have := HP.out; omega), congrArg (Value.int .i64) C1.out.symm, by assumption⟩
            case measure => simp [intOf]; omega
      · have hk2 := cnt_same hk (by rw [← hp]; exact isE_notD hE)
        subst hk2
        have E1 := Lib.hid (scanF_e (sg := 1) h hc (by rw [← hp]; exact hE))
        have hx : gb s p = 46 ∨ gb s p = 101 ∨ gb s p = 69 := by
          simp [isE] at hE
          omega
        clear hE RC
        have HP := Lib.hid hp
        clear hp
        rcases hx with hx | hx | hx
        all_goals
          rw [hx] at gp
          go_wp2_with fail
          go_step3
          refine ⟨rfl, ?_⟩
          go_wp2_with fail
          try rw [Exit.noGoto_ret]
          go_ret3
          exact ⟨(congrArg retI E1.out).symm, by assumption⟩
    · have p1 : ¬ (p : Int) < (s.size : Int) := by omega
      have hp2 := gb_out s p (by omega)
      have hk2 := cnt_same hk (by rw [← hp, hp2]; rfl)
      subst hk2
      have hE : isE (gb s (f + cnt s f)) = false := by rw [← hp, hp2]; rfl
      rcases RC with e48 | ⟨n48, hv⟩ | ⟨n48, hv⟩
      · have E1 := Lib.hid (scanF_0 (sg := 1) h hc e48 (Or.inr rfl))
        rw [e48] at g0
        have HP := Lib.hid hp
        clear hp
        by_cases r1 : (f : Int) + 1 < (p : Int)
        · have rb1 : decide ((f : Int) + 1 < (p : Int)) = true := by simpa using r1
          go_wp2_with fail
          go_step3
          refine ⟨rfl, ?_⟩
          go_wp2_with fail
          try rw [Exit.noGoto_ret]
          go_ret3
          exact ⟨(congrArg retI E1.out).symm, by assumption⟩
        · have rb1 : decide ((f : Int) + 1 < (p : Int)) = false := by simpa using r1
          go_wp2_with fail
          go_step3
          refine ⟨rfl, ?_⟩
          go_wp2_with fail
          try rw [Exit.noGoto_ret]
          go_ret3
          exact ⟨(congrArg retI E1.out).symm, by assumption⟩
      · have E1 := Lib.hid (scanF_2 (sg := 1) h hc hE (by omega) ((cap_val s f (cnt s f)).2 hv))
        have r3 : ¬ (gb s f : Int) = 48 := by omega
        have rb3 : ((gb s f : Int) == 48) = false := by simpa using r3
        have r2 : 9007199254740991 < (capN s f (cnt s f) : Int) := by omega
        have HP := Lib.hid hp
        clear hp
        go_wp2_with fail
        go_step3
        refine ⟨rfl, ?_⟩
        go_wp2_with fail
        try rw [Exit.noGoto_ret]
        go_ret3
        exact ⟨(congrArg retI E1.out).symm, by assumption⟩
      · have E1 := Lib.hid (scanF_n (sg := 1) h hc hE (by omega) (by have := (cap_val s f (cnt s f)).1 hv; omega))
        have r3 : ¬ (gb s f : Int) = 48 := by omega
        have rb3 : ((gb s f : Int) == 48) = false := by simpa using r3
        have r2 : ¬ 9007199254740991 < (capN s f (cnt s f) : Int) := by omega
        have V := Lib.hid ((cap_val s f (cnt s f)).1 hv)
        have HP := Lib.hid hp
        clear hp
        go_wp2_with fail
        try rw [jump_ret]
        go_ret3
        exact ⟨by rw [E1.out, ← V.out, ← HP.out]; rfl, by assumption⟩
end Go.Proofs.YtdnkpclpcelbaaaDoor
