/- What the reference's Scan answers behind a sign. Written by gen_numf.py. -/
import Derived.Test.YtoccoagkakeenadNumF
namespace Go.Proofs.Ytoccoagkakeenad
open Go.RowKit
set_option maxHeartbeats 8000000 in
theorem rscan_si (s : ByteArray) (a f : Nat) (w : World) (hfa : f = a + 1) (hf : f ≤ s.size) (hm : gb s a = 45) (hs : s.size ≤ 140737488355328) :
    Calls Try.prog 6 #[.string s, .int .i64 (a : Int)] w fun e w' => e = ret3 (scanF s f 1) ∧ w = w' := by
  have hp0 : ¬ (a : Int) < 0 := by omega
  have hp1 : ¬ (s.size : Int) < a := by omega
  have ha : a < s.size := by omega
  have ga := (gb_at s a ha).trans hm
  have nata : (a : Int).toNat = a := by omega
  have q3 : (a : Int) < (s.size : Int) := by omega
  have wf : IntKind.i64.wrap ((a : Int) + 1) = (f : Int) := by rw [IntWalk.i64_in _ (by omega)]; omega
  have sf : (a : Int) + 1 = (f : Int) := by omega
  clear hfa hm
  have DG := fun w => digits_any s f w hf hs
  have natf : (f : Int).toNat = f := by omega
  rcases Nat.lt_or_ge f s.size with h | h
  · have g0 := gb_at s f h
    have q1 : (f : Int) < (s.size : Int) := by omega
    have q2 : ¬ (f : Int) = (s.size : Int) := by omega
    have g1 := gb_lt s f
    have hkl := cnt_le s f hf
    rcases Nat.eq_zero_or_pos (cnt s f) with hc | hc
    · have E1 : Hid (scanF s f 1 = (0, 0, 6)) := by show _ = _; rw [scanF, if_neg (by omega), if_pos hc]
      go_enter Try.func6, Try.ntmps6
      go_wp2_with (go_at_call 8; refine (DG _).mono ?_; rintro e w' ⟨rfl, rfl⟩)
      go_ret3
      exact ⟨(congrArg ret3 E1.out).symm, rfl⟩
    · obtain ⟨q, hq⟩ : ∃ q, q = f + cnt s f := ⟨_, rfl⟩
      have HQ := Lib.hid hq
      have sm : (f : Int) + (cnt s f : Int) = (q : Int) := by omega
      have w1 : IntKind.i64.wrap ((f : Int) + (cnt s f : Int)) = (q : Int) := by rw [IntWalk.i64_in _ (by omega)]; omega
      have natq : (q : Int).toNat = q := by omega
      have hq1 : q ≤ s.size := by omega
      have fq : f ≤ q := by omega
      have c0 : ¬ (cnt s f : Int) = 0 := by omega
      have hd1 := isD_yes (cnt_lt s f 0 hc).1
      rw [Nat.add_zero] at hd1
      clear hq
      by_cases e48 : gb s f = 48
      · have E1 := Lib.hid (scanF_0 (sg := 1) h hc e48 (Or.inr rfl))
        rw [e48] at g0
        by_cases r1 : 1 < (cnt s f : Int)
        · have rb : decide (1 < (cnt s f : Int)) = true := by simpa using r1
          go_enter Try.func6, Try.ntmps6
          go_wp2_with (go_at_call 8; refine (DG _).mono ?_; rintro e w' ⟨rfl, rfl⟩)
          go_ret3
          exact ⟨(congrArg ret3 E1.out).symm, rfl⟩
        · have rb : decide (1 < (cnt s f : Int)) = false := by simpa using r1
          go_enter Try.func6, Try.ntmps6
          go_wp2_with (go_at_call 8; refine (DG _).mono ?_; rintro e w' ⟨rfl, rfl⟩)
          go_ret3
          exact ⟨(congrArg ret3 E1.out).symm, rfl⟩
      · have r3 : ¬ (gb s f : Int) = 48 := by omega
        have rb3 : ((gb s f : Int) == 48) = false := by simpa using r3
        cases hE : isE (gb s (f + cnt s f))
        · -- no sign of another form
          have endB : ((q : Int) < (s.size : Int) ∧ q < s.size) ∨ (¬ (q : Int) < (s.size : Int)) := by omega
          by_cases hm16 : 16 < cnt s f
          · have SM := fun w => small_long (s.extract f q) w (by rw [HQ.out, ex_size s f (cnt s f) hkl]; exact hm16)
            have E1 := Lib.hid (scanF_2 (sg := 1) h hc hE (by omega) (val_big s f (cnt s f) (by omega) hm16))
            rcases endB with ⟨p1, hq⟩ | p1
            · have gq := gb_at s q hq
              have b0 : decide ((q : Int) < (s.size : Int)) = true := by simpa using p1
              rw [← HQ.out] at hE
              obtain ⟨x1, x2, x3, b1, b2, b3⟩ := notE hE
              clear hE
              go_enter Try.func6, Try.ntmps6
              go_wp2_with (first | (go_at_call 8; refine (DG _).mono ?_; rintro e w' ⟨rfl, rfl⟩) | (go_at_call 9; refine (SM _).mono ?_; rintro e w' ⟨rfl, rfl⟩))
              go_ret3
              exact ⟨(congrArg ret3 E1.out).symm, rfl⟩
            · have b0 : decide ((q : Int) < (s.size : Int)) = false := by simpa using p1
              clear hE
              go_enter Try.func6, Try.ntmps6
              go_wp2_with (first | (go_at_call 8; refine (DG _).mono ?_; rintro e w' ⟨rfl, rfl⟩) | (go_at_call 9; refine (SM _).mono ?_; rintro e w' ⟨rfl, rfl⟩))
              go_ret3
              exact ⟨(congrArg ret3 E1.out).symm, rfl⟩
          · have SM := fun w => small_any (s.extract f q) w (by rw [HQ.out, ex_size s f (cnt s f) hkl]; omega) (by
              intro j hj
              rw [HQ.out, ex_size s f (cnt s f) hkl] at hj
              rw [HQ.out, ex_gb s f (cnt s f) j hkl hj]
              exact (cnt_lt s f j hj).1)
            have SV : valN (s.extract f q) 0 (s.extract f q).size = valN s f (cnt s f) := by rw [HQ.out, ex_size s f (cnt s f) hkl, ex_val s f (cnt s f) hkl _ (Nat.le_refl _)]
            rw [SV] at SM
            clear SV
            by_cases hv : 9007199254740991 < valN s f (cnt s f)
            · have E1 := Lib.hid (scanF_2 (sg := 1) h hc hE (by omega) hv)
              have v1 : ¬ (valN s f (cnt s f) : Int) ≤ 9007199254740991 := by omega
              have v2 : decide ((valN s f (cnt s f) : Int) ≤ 9007199254740991) = false := by simpa using v1
              rcases endB with ⟨p1, hq⟩ | p1
              · have gq := gb_at s q hq
                have b0 : decide ((q : Int) < (s.size : Int)) = true := by simpa using p1
                rw [← HQ.out] at hE
                obtain ⟨x1, x2, x3, b1, b2, b3⟩ := notE hE
                clear hE
                go_enter Try.func6, Try.ntmps6
                go_wp2_with (first | (go_at_call 8; refine (DG _).mono ?_; rintro e w' ⟨rfl, rfl⟩) | (go_at_call 9; refine (SM _).mono ?_; rintro e w' ⟨rfl, rfl⟩))
                go_ret3
                exact ⟨(congrArg ret3 E1.out).symm, rfl⟩
              · have b0 : decide ((q : Int) < (s.size : Int)) = false := by simpa using p1
                clear hE
                go_enter Try.func6, Try.ntmps6
                go_wp2_with (first | (go_at_call 8; refine (DG _).mono ?_; rintro e w' ⟨rfl, rfl⟩) | (go_at_call 9; refine (SM _).mono ?_; rintro e w' ⟨rfl, rfl⟩))
                go_ret3
                exact ⟨(congrArg ret3 E1.out).symm, rfl⟩
            · have E1 := Lib.hid (scanF_n (sg := 1) h hc hE (by omega) (by omega))
              have v1 : (valN s f (cnt s f) : Int) ≤ 9007199254740991 := by omega
              have v2 : decide ((valN s f (cnt s f) : Int) ≤ 9007199254740991) = true := by simpa using v1
              have neg : IntKind.i64.wrap (-(valN s f (cnt s f) : Int)) = -(valN s f (cnt s f) : Int) := IntWalk.i64_in _ (by omega)
              rcases endB with ⟨p1, hq⟩ | p1
              · have gq := gb_at s q hq
                have b0 : decide ((q : Int) < (s.size : Int)) = true := by simpa using p1
                rw [← HQ.out] at hE
                obtain ⟨x1, x2, x3, b1, b2, b3⟩ := notE hE
                clear hE
                go_enter Try.func6, Try.ntmps6
                go_wp2_with (first | (go_at_call 8; refine (DG _).mono ?_; rintro e w' ⟨rfl, rfl⟩) | (go_at_call 9; refine (SM _).mono ?_; rintro e w' ⟨rfl, rfl⟩))
                go_ret3
                exact ⟨by rw [E1.out, ← HQ.out]; rfl, rfl⟩
              · have b0 : decide ((q : Int) < (s.size : Int)) = false := by simpa using p1
                clear hE
                go_enter Try.func6, Try.ntmps6
                go_wp2_with (first | (go_at_call 8; refine (DG _).mono ?_; rintro e w' ⟨rfl, rfl⟩) | (go_at_call 9; refine (SM _).mono ?_; rintro e w' ⟨rfl, rfl⟩))
                go_ret3
                exact ⟨by rw [E1.out, ← HQ.out]; rfl, rfl⟩
        · have E1 := Lib.hid (scanF_e (sg := 1) h hc hE)
          have hx : gb s q = 46 ∨ gb s q = 101 ∨ gb s q = 69 := by
            rw [← HQ.out] at hE
            simp [isE] at hE
            omega
          have hq : q < s.size := by
            apply Nat.lt_of_not_le
            intro hle
            rw [gb_out s q hle] at hx
            omega
          have gq := gb_at s q hq
          have p1 : (q : Int) < (s.size : Int) := by omega
          have b0 : decide ((q : Int) < (s.size : Int)) = true := by simpa using p1
          clear hE
          rcases hx with hx | hx | hx
          all_goals
            rw [hx] at gq
            clear hx
            go_enter Try.func6, Try.ntmps6
            go_wp2_with (go_at_call 8; refine (DG _).mono ?_; rintro e w' ⟨rfl, rfl⟩)
            go_ret3
            exact ⟨(congrArg ret3 E1.out).symm, rfl⟩
  · have E1 := Lib.hid (scanF_5 (sg := 1) (show f = s.size by omega))
    have q2 : (f : Int) = (s.size : Int) := by omega
    have q1 : ¬ (f : Int) < (s.size : Int) := by omega
    go_enter Try.func6, Try.ntmps6
    go_wp2_with fail
    go_ret3
    exact ⟨(congrArg ret3 E1.out).symm, rfl⟩
end Go.Proofs.Ytoccoagkakeenad
