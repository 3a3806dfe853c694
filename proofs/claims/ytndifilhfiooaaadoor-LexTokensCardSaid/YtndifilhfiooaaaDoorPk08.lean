/- What the reference's Scan answers; the law NumScans: it returns true. Written by gen_numf.py. What the reference's Scan answers behind a sign. Written by gen_numf.py. lives of layer 5; the law NumScans: it returns true. Deferred calls in texts of whole rows. No program in it. Strings in texts of whole rows: index, slice, sum, length. No program in it. lex (layer 6): the word that stands at a place (written by lx_gen_c.py). -/
import Derived.Defers
import Derived.Lib.Strings
import Derived.BigQuiet
import Derived.Test.YtndifilhfiooaaaDoorPk07
import Derived.Test.YtndifilhfiooaaaDoorPk04
namespace Go.Proofs.YtndifilhfiooaaaDoor
set_option maxRecDepth 20000
set_option linter.unusedSimpArgs false
set_option linter.unusedVariables false
open Go.RowKit
theorem ex_size (s : ByteArray) (f m : Nat) (h : f + m ≤ s.size) : (s.extract f (f + m)).size = m := by
  rw [ByteArray.size_extract]; omega
theorem ex_gb (s : ByteArray) (f m j : Nat) (h : f + m ≤ s.size) (hj : j < m) : gb (s.extract f (f + m)) j = gb s (f + j) := by
  rw [← gb_at s (f + j) (by omega), ← gb_at (s.extract f (f + m)) j (by rw [ex_size s f m h]; exact hj)]
  rw [ByteArray.getElem_extract]
theorem ex_val (s : ByteArray) (f m : Nat) (h : f + m ≤ s.size) : ∀ k, k ≤ m → valN (s.extract f (f + m)) 0 k = valN s f k
  | 0, _ => rfl
  | k + 1, hk => by rw [valN, valN, ex_val s f m h k (by omega), Nat.zero_add, ex_gb s f m k h (by omega)]
theorem rscan_out (s : ByteArray) (p : Int) (w : World) (hp : p < 0 ∨ (s.size : Int) < p) :
    Calls Tryd.prog 18 #[.string s, .int .i64 p] w fun e w' => e = retI (0, 0, 1) ∧ w = w' := by
  rcases hp with hp | hp
  · go_enter Tryd.func18, Tryd.ntmps18
    go_wp2_with fail
    go_ret3
    exact ⟨rfl, rfl⟩
  · have hp0 : ¬ p < 0 := by omega
    go_enter Tryd.func18, Tryd.ntmps18
    go_wp2_with fail
    go_ret3
    exact ⟨rfl, rfl⟩
theorem notE {x : Nat} (h : isE x = false) : ¬ (x : Int) = 46 ∧ ¬ (x : Int) = 101 ∧ ¬ (x : Int) = 69 ∧ ((x : Int) == 46) = false ∧ ((x : Int) == 101) = false ∧ ((x : Int) == 69) = false := by
  simp [isE] at h
  have h1 : ¬ (x : Int) = 46 := by omega
  have h2 : ¬ (x : Int) = 101 := by omega
  have h3 : ¬ (x : Int) = 69 := by omega
  exact ⟨h1, h2, h3, by simpa using h1, by simpa using h2, by simpa using h3⟩
set_option maxHeartbeats 8000000 in
theorem rscan_un (s : ByteArray) (f : Nat) (w : World) (hf : f ≤ s.size) (hm : gb s f ≠ 45) (hs : s.size ≤ 140737488355328) :
    Calls Tryd.prog 18 #[.string s, .int .i64 (f : Int)] w fun e w' => e = retI (scanF s f 0) ∧ w = w' := by
  have hp0 : ¬ (f : Int) < 0 := by omega
  have hp1 : ¬ (s.size : Int) < f := by omega
  have q3 : ¬ (gb s f : Int) = 45 := by omega
  have qb3 : ((gb s f : Int) == 45) = false := by simpa using q3
  have DG := fun w => digits_any s f w hf hs
  have natf : (f : Int).toNat = f := by omega
  rcases Nat.lt_or_ge f s.size with h | h
  · have g0 := gb_at s f h
    have q1 : (f : Int) < (s.size : Int) := by omega
    have q2 : ¬ (f : Int) = (s.size : Int) := by omega
    have g1 := gb_lt s f
    have hkl := cnt_le s f hf
    rcases Nat.eq_zero_or_pos (cnt s f) with hc | hc
    · have E1 : Hid (scanF s f 0 = (0, 0, 6)) := by show _ = _; rw [scanF, if_neg (by omega), if_pos hc]
      go_enter Tryd.func18, Tryd.ntmps18
      go_wp2_with (go_at_call 26; refine (DG _).mono ?_; rintro e w' ⟨rfl, rfl⟩)
      go_ret3
      exact ⟨(congrArg retI E1.out).symm, rfl⟩
    · obtain ⟨q, hq⟩ : ∃ q, q = f + cnt s f := ⟨_, rfl⟩
      have HQ := Lib.hid hq
      have sm : (f : Int) + (cnt s f : Int) = (q : Int) := by omega
      have w1 : IntKind.i64.wrap ((f : Int) + (cnt s f : Int)) = (q : Int) := by rw [IntWalk.i64_in _ (by omega)]; omega
      have natq : (q : Int).toNat = q := by omega
      have hq1 : q ≤ s.size := by omega
      have fq : f ≤ q := by omega
      have c0 : ¬ (cnt s f : Int) = 0 := by omega
      have hd1 := isD_yes (cnt_lt s f 0 hc).1
      rw [Nat.add_zero] at hd1
      clear hq
      by_cases e48 : gb s f = 48
      · by_cases h1 : 1 < cnt s f
        · have E1 := Lib.hid (scanF_0 (sg := 0) h hc e48 (Or.inl h1))
          rw [e48] at g0
          have r1 : 1 < (cnt s f : Int) := by omega
          have rb : decide (1 < (cnt s f : Int)) = true := by simpa using r1
          clear h1
          go_enter Tryd.func18, Tryd.ntmps18
          go_wp2_with (go_at_call 26; refine (DG _).mono ?_; rintro e w' ⟨rfl, rfl⟩)
          go_ret3
          exact ⟨(congrArg retI E1.out).symm, rfl⟩
        · have r1 : ¬ 1 < (cnt s f : Int) := by omega
          have rb : decide (1 < (cnt s f : Int)) = false := by simpa using r1
          rw [e48] at g0
          cases hE : isE (gb s (f + cnt s f))
          · -- no sign of another form
            have endB : ((q : Int) < (s.size : Int) ∧ q < s.size) ∨ (¬ (q : Int) < (s.size : Int)) := by omega
            by_cases hm16 : 16 < cnt s f
            · exfalso; omega
            · have SM := fun w => small_any (s.extract f q) w (by rw [HQ.out, ex_size s f (cnt s f) hkl]; omega) (by
                intro j hj
                rw [HQ.out, ex_size s f (cnt s f) hkl] at hj
                rw [HQ.out, ex_gb s f (cnt s f) j hkl hj]
                exact (cnt_lt s f j hj).1)
              have SV : valN (s.extract f q) 0 (s.extract f q).size = valN s f (cnt s f) := by rw [HQ.out, ex_size s f (cnt s f) hkl, ex_val s f (cnt s f) hkl _ (Nat.le_refl _)]
              rw [SV] at SM
              clear SV
              by_cases hv : 9007199254740991 < valN s f (cnt s f)
              · have E1 := Lib.hid (scanF_2 (sg := 0) h hc hE (by omega) hv)
                have v1 : ¬ (valN s f (cnt s f) : Int) ≤ 9007199254740991 := by omega
                have v2 : decide ((valN s f (cnt s f) : Int) ≤ 9007199254740991) = false := by simpa using v1
                rcases endB with ⟨p1, hq⟩ | p1
                · have gq := gb_at s q hq
                  have b0 : decide ((q : Int) < (s.size : Int)) = true := by simpa using p1
                  rw [← HQ.out] at hE
                  obtain ⟨x1, x2, x3, b1, b2, b3⟩ := notE hE
                  clear hE
                  go_enter Tryd.func18, Tryd.ntmps18
                  go_wp2_with (first | (go_at_call 26; refine (DG _).mono ?_; rintro e w' ⟨rfl, rfl⟩) | (go_at_call 27; refine (SM _).mono ?_; rintro e w' ⟨rfl, rfl⟩))
                  go_ret3
                  exact ⟨(congrArg retI E1.out).symm, rfl⟩
                · have b0 : decide ((q : Int) < (s.size : Int)) = false := by simpa using p1
                  clear hE
                  go_enter Tryd.func18, Tryd.ntmps18
                  go_wp2_with (first | (go_at_call 26; refine (DG _).mono ?_; rintro e w' ⟨rfl, rfl⟩) | (go_at_call 27; refine (SM _).mono ?_; rintro e w' ⟨rfl, rfl⟩))
                  go_ret3
                  exact ⟨(congrArg retI E1.out).symm, rfl⟩
              · have E1 := Lib.hid (scanF_n (sg := 0) h hc hE (by omega) (by omega))
                have v1 : (valN s f (cnt s f) : Int) ≤ 9007199254740991 := by omega
                have v2 : decide ((valN s f (cnt s f) : Int) ≤ 9007199254740991) = true := by simpa using v1
                have neg : IntKind.i64.wrap (-(valN s f (cnt s f) : Int)) = -(valN s f (cnt s f) : Int) := IntWalk.i64_in _ (by omega)
                rcases endB with ⟨p1, hq⟩ | p1
                · have gq := gb_at s q hq
                  have b0 : decide ((q : Int) < (s.size : Int)) = true := by simpa using p1
                  rw [← HQ.out] at hE
                  obtain ⟨x1, x2, x3, b1, b2, b3⟩ := notE hE
                  clear hE
                  go_enter Tryd.func18, Tryd.ntmps18
                  go_wp2_with (first | (go_at_call 26; refine (DG _).mono ?_; rintro e w' ⟨rfl, rfl⟩) | (go_at_call 27; refine (SM _).mono ?_; rintro e w' ⟨rfl, rfl⟩))
                  go_ret3
                  exact ⟨by rw [E1.out, ← HQ.out]; rfl, rfl⟩
                · have b0 : decide ((q : Int) < (s.size : Int)) = false := by simpa using p1
                  clear hE
                  go_enter Tryd.func18, Tryd.ntmps18
                  go_wp2_with (first | (go_at_call 26; refine (DG _).mono ?_; rintro e w' ⟨rfl, rfl⟩) | (go_at_call 27; refine (SM _).mono ?_; rintro e w' ⟨rfl, rfl⟩))
                  go_ret3
                  exact ⟨by rw [E1.out, ← HQ.out]; rfl, rfl⟩
          · have E1 := Lib.hid (scanF_e (sg := 0) h hc hE)
            have hx : gb s q = 46 ∨ gb s q = 101 ∨ gb s q = 69 := by
              rw [← HQ.out] at hE
              simp [isE] at hE
              omega
            have hq : q < s.size := by
              apply Nat.lt_of_not_le
              intro hle
              rw [gb_out s q hle] at hx
              omega
            have gq := gb_at s q hq
            have p1 : (q : Int) < (s.size : Int) := by omega
            have b0 : decide ((q : Int) < (s.size : Int)) = true := by simpa using p1
            clear hE
            rcases hx with hx | hx | hx
            all_goals
              rw [hx] at gq
              clear hx
              go_enter Tryd.func18, Tryd.ntmps18
              go_wp2_with (go_at_call 26; refine (DG _).mono ?_; rintro e w' ⟨rfl, rfl⟩)
              go_ret3
              exact ⟨(congrArg retI E1.out).symm, rfl⟩
      · have r3 : ¬ (gb s f : Int) = 48 := by omega
        have rb3 : ((gb s f : Int) == 48) = false := by simpa using r3
        cases hE : isE (gb s (f + cnt s f))
        · -- no sign of another form
          have endB : ((q : Int) < (s.size : Int) ∧ q < s.size) ∨ (¬ (q : Int) < (s.size : Int)) := by omega
          by_cases hm16 : 16 < cnt s f
          · have SM := fun w => small_long (s.extract f q) w (by rw [HQ.out, ex_size s f (cnt s f) hkl]; exact hm16)
            have E1 := Lib.hid (scanF_2 (sg := 0) h hc hE (by omega) (val_big s f (cnt s f) (by omega) hm16))
            rcases endB with ⟨p1, hq⟩ | p1
            · have gq := gb_at s q hq
              have b0 : decide ((q : Int) < (s.size : Int)) = true := by simpa using p1
              rw [← HQ.out] at hE
              obtain ⟨x1, x2, x3, b1, b2, b3⟩ := notE hE
              clear hE
              go_enter Tryd.func18, Tryd.ntmps18
              go_wp2_with (first | (go_at_call 26; refine (DG _).mono ?_; rintro e w' ⟨rfl, rfl⟩) | (go_at_call 27; refine (SM _).mono ?_; rintro e w' ⟨rfl, rfl⟩))
              go_ret3
              exact ⟨(congrArg retI E1.out).symm, rfl⟩
            · have b0 : decide ((q : Int) < (s.size : Int)) = false := by simpa using p1
              clear hE
              go_enter Tryd.func18, Tryd.ntmps18
              go_wp2_with (first | (go_at_call 26; refine (DG _).mono ?_; rintro e w' ⟨rfl, rfl⟩) | (go_at_call 27; refine (SM _).mono ?_; rintro e w' ⟨rfl, rfl⟩))
              go_ret3
              exact ⟨(congrArg retI E1.out).symm, rfl⟩
          · have SM := fun w => small_any (s.extract f q) w (by rw [HQ.out, ex_size s f (cnt s f) hkl]; omega) (by
              intro j hj
              rw [HQ.out, ex_size s f (cnt s f) hkl] at hj
              rw [HQ.out, ex_gb s f (cnt s f) j hkl hj]
              exact (cnt_lt s f j hj).1)
            have SV : valN (s.extract f q) 0 (s.extract f q).size = valN s f (cnt s f) := by rw [HQ.out, ex_size s f (cnt s f) hkl, ex_val s f (cnt s f) hkl _ (Nat.le_refl _)]
            rw [SV] at SM
            clear SV
            by_cases hv : 9007199254740991 < valN s f (cnt s f)
            · have E1 := Lib.hid (scanF_2 (sg := 0) h hc hE (by omega) hv)
              have v1 : ¬ (valN s f (cnt s f) : Int) ≤ 9007199254740991 := by omega
              have v2 : decide ((valN s f (cnt s f) : Int) ≤ 9007199254740991) = false := by simpa using v1
              rcases endB with ⟨p1, hq⟩ | p1
              · have gq := gb_at s q hq
                have b0 : decide ((q : Int) < (s.size : Int)) = true := by simpa using p1
                rw [← HQ.out] at hE
                obtain ⟨x1, x2, x3, b1, b2, b3⟩ := notE hE
                clear hE
                go_enter Tryd.func18, Tryd.ntmps18
                go_wp2_with (first | (go_at_call 26; refine (DG _).mono ?_; rintro e w' ⟨rfl, rfl⟩) | (go_at_call 27; refine (SM _).mono ?_; rintro e w' ⟨rfl, rfl⟩))
                go_ret3
                exact ⟨(congrArg retI E1.out).symm, rfl⟩
              · have b0 : decide ((q : Int) < (s.size : Int)) = false := by simpa using p1
                clear hE
                go_enter Tryd.func18, Tryd.ntmps18
                go_wp2_with (first | (go_at_call 26; refine (DG _).mono ?_; rintro e w' ⟨rfl, rfl⟩) | (go_at_call 27; refine (SM _).mono ?_; rintro e w' ⟨rfl, rfl⟩))
                go_ret3
                exact ⟨(congrArg retI E1.out).symm, rfl⟩
            · have E1 := Lib.hid (scanF_n (sg := 0) h hc hE (by omega) (by omega))
              have v1 : (valN s f (cnt s f) : Int) ≤ 9007199254740991 := by omega
              have v2 : decide ((valN s f (cnt s f) : Int) ≤ 9007199254740991) = true := by simpa using v1
              have neg : IntKind.i64.wrap (-(valN s f (cnt s f) : Int)) = -(valN s f (cnt s f) : Int) := IntWalk.i64_in _ (by omega)
              rcases endB with ⟨p1, hq⟩ | p1
              · have gq := gb_at s q hq
                have b0 : decide ((q : Int) < (s.size : Int)) = true := by simpa using p1
                rw [← HQ.out] at hE
                obtain ⟨x1, x2, x3, b1, b2, b3⟩ := notE hE
                clear hE
                go_enter Tryd.func18, Tryd.ntmps18
                go_wp2_with (first | (go_at_call 26; refine (DG _).mono ?_; rintro e w' ⟨rfl, rfl⟩) | (go_at_call 27; refine (SM _).mono ?_; rintro e w' ⟨rfl, rfl⟩))
                go_ret3
                exact ⟨by rw [E1.out, ← HQ.out]; rfl, rfl⟩
              · have b0 : decide ((q : Int) < (s.size : Int)) = false := by simpa using p1
                clear hE
                go_enter Tryd.func18, Tryd.ntmps18
                go_wp2_with (first | (go_at_call 26; refine (DG _).mono ?_; rintro e w' ⟨rfl, rfl⟩) | (go_at_call 27; refine (SM _).mono ?_; rintro e w' ⟨rfl, rfl⟩))
                go_ret3
                exact ⟨by rw [E1.out, ← HQ.out]; rfl, rfl⟩
        · have E1 := Lib.hid (scanF_e (sg := 0) h hc hE)
          have hx : gb s q = 46 ∨ gb s q = 101 ∨ gb s q = 69 := by
            rw [← HQ.out] at hE
            simp [isE] at hE
            omega
          have hq : q < s.size := by
            apply Nat.lt_of_not_le
            intro hle
            rw [gb_out s q hle] at hx
            omega
          have gq := gb_at s q hq
          have p1 : (q : Int) < (s.size : Int) := by omega
          have b0 : decide ((q : Int) < (s.size : Int)) = true := by simpa using p1
          clear hE
          rcases hx with hx | hx | hx
          all_goals
            rw [hx] at gq
            clear hx
            go_enter Tryd.func18, Tryd.ntmps18
            go_wp2_with (go_at_call 26; refine (DG _).mono ?_; rintro e w' ⟨rfl, rfl⟩)
            go_ret3
            exact ⟨(congrArg retI E1.out).symm, rfl⟩
  · have E1 := Lib.hid (scanF_5 (sg := 0) (show f = s.size by omega))
    have q2 : (f : Int) = (s.size : Int) := by omega
    have q1 : ¬ (f : Int) < (s.size : Int) := by omega
    go_enter Tryd.func18, Tryd.ntmps18
    go_wp2_with fail
    go_ret3
    exact ⟨(congrArg retI E1.out).symm, rfl⟩
end Go.Proofs.YtndifilhfiooaaaDoor
namespace Go.Proofs.YtndifilhfiooaaaDoor
set_option maxRecDepth 20000
set_option linter.unusedSimpArgs false
set_option linter.unusedVariables false
open Go.RowKit
set_option maxHeartbeats 8000000 in
theorem rscan_si (s : ByteArray) (a f : Nat) (w : World) (hfa : f = a + 1) (hf : f ≤ s.size) (hm : gb s a = 45) (hs : s.size ≤ 140737488355328) :
    Calls Tryd.prog 18 #[.string s, .int .i64 (a : Int)] w fun e w' => e = retI (scanF s f 1) ∧ w = w' := by
  have hp0 : ¬ (a : Int) < 0 := by omega
  have hp1 : ¬ (s.size : Int) < a := by omega
  have ha : a < s.size := by omega
  have ga := (gb_at s a ha).trans hm
  have nata : (a : Int).toNat = a := by omega
  have q3 : (a : Int) < (s.size : Int) := by omega
  have wf : IntKind.i64.wrap ((a : Int) + 1) = (f : Int) := by rw [IntWalk.i64_in _ (by omega)]; omega
  have sf : (a : Int) + 1 = (f : Int) := by omega
  clear hfa hm
  have DG := fun w => digits_any s f w hf hs
  have natf : (f : Int).toNat = f := by omega
  rcases Nat.lt_or_ge f s.size with h | h
  · have g0 := gb_at s f h
    have q1 : (f : Int) < (s.size : Int) := by omega
    have q2 : ¬ (f : Int) = (s.size : Int) := by omega
    have g1 := gb_lt s f
    have hkl := cnt_le s f hf
    rcases Nat.eq_zero_or_pos (cnt s f) with hc | hc
    · have E1 : Hid (scanF s f 1 = (0, 0, 6)) := by show _ = _; rw [scanF, if_neg (by omega), if_pos hc]
      go_enter Tryd.func18, Tryd.ntmps18
      go_wp2_with (go_at_call 26; refine (DG _).mono ?_; rintro e w' ⟨rfl, rfl⟩)
      go_ret3
      exact ⟨(congrArg retI E1.out).symm, rfl⟩
    · obtain ⟨q, hq⟩ : ∃ q, q = f + cnt s f := ⟨_, rfl⟩
      have HQ := Lib.hid hq
      have sm : (f : Int) + (cnt s f : Int) = (q : Int) := by omega
      have w1 : IntKind.i64.wrap ((f : Int) + (cnt s f : Int)) = (q : Int) := by rw [IntWalk.i64_in _ (by omega)]; omega
      have natq : (q : Int).toNat = q := by omega
      have hq1 : q ≤ s.size := by omega
      have fq : f ≤ q := by omega
      have c0 : ¬ (cnt s f : Int) = 0 := by omega
      have hd1 := isD_yes (cnt_lt s f 0 hc).1
      rw [Nat.add_zero] at hd1
      clear hq
      by_cases e48 : gb s f = 48
      · have E1 := Lib.hid (scanF_0 (sg := 1) h hc e48 (Or.inr rfl))
        rw [e48] at g0
        by_cases r1 : 1 < (cnt s f : Int)
        · have rb : decide (1 < (cnt s f : Int)) = true := by simpa using r1
          go_enter Tryd.func18, Tryd.ntmps18
          go_wp2_with (go_at_call 26; refine (DG _).mono ?_; rintro e w' ⟨rfl, rfl⟩)
          go_ret3
          exact ⟨(congrArg retI E1.out).symm, rfl⟩
        · have rb : decide (1 < (cnt s f : Int)) = false := by simpa using r1
          go_enter Tryd.func18, Tryd.ntmps18
          go_wp2_with (go_at_call 26; refine (DG _).mono ?_; rintro e w' ⟨rfl, rfl⟩)
          go_ret3
          exact ⟨(congrArg retI E1.out).symm, rfl⟩
      · have r3 : ¬ (gb s f : Int) = 48 := by omega
        have rb3 : ((gb s f : Int) == 48) = false := by simpa using r3
        cases hE : isE (gb s (f + cnt s f))
        · -- no sign of another form
          have endB : ((q : Int) < (s.size : Int) ∧ q < s.size) ∨ (¬ (q : Int) < (s.size : Int)) := by omega
          by_cases hm16 : 16 < cnt s f
          · have SM := fun w => small_long (s.extract f q) w (by rw [HQ.out, ex_size s f (cnt s f) hkl]; exact hm16)
            have E1 := Lib.hid (scanF_2 (sg := 1) h hc hE (by omega) (val_big s f (cnt s f) (by omega) hm16))
            rcases endB with ⟨p1, hq⟩ | p1
            · have gq := gb_at s q hq
              have b0 : decide ((q : Int) < (s.size : Int)) = true := by simpa using p1
              rw [← HQ.out] at hE
              obtain ⟨x1, x2, x3, b1, b2, b3⟩ := notE hE
              clear hE
              go_enter Tryd.func18, Tryd.ntmps18
              go_wp2_with (first | (go_at_call 26; refine (DG _).mono ?_; rintro e w' ⟨rfl, rfl⟩) | (go_at_call 27; refine (SM _).mono ?_; rintro e w' ⟨rfl, rfl⟩))
              go_ret3
              exact ⟨(congrArg retI E1.out).symm, rfl⟩
            · have b0 : decide ((q : Int) < (s.size : Int)) = false := by simpa using p1
              clear hE
              go_enter Tryd.func18, Tryd.ntmps18
              go_wp2_with (first | (go_at_call 26; refine (DG _).mono ?_; rintro e w' ⟨rfl, rfl⟩) | (go_at_call 27; refine (SM _).mono ?_; rintro e w' ⟨rfl, rfl⟩))
              go_ret3
              exact ⟨(congrArg retI E1.out).symm, rfl⟩
          · have SM := fun w => small_any (s.extract f q) w (by rw [HQ.out, ex_size s f (cnt s f) hkl]; omega) (by
              intro j hj
              rw [HQ.out, ex_size s f (cnt s f) hkl] at hj
              rw [HQ.out, ex_gb s f (cnt s f) j hkl hj]
              exact (cnt_lt s f j hj).1)
            have SV : valN (s.extract f q) 0 (s.extract f q).size = valN s f (cnt s f) := by rw [HQ.out, ex_size s f (cnt s f) hkl, ex_val s f (cnt s f) hkl _ (Nat.le_refl _)]
            rw [SV] at SM
            clear SV
            by_cases hv : 9007199254740991 < valN s f (cnt s f)
            · have E1 := Lib.hid (scanF_2 (sg := 1) h hc hE (by omega) hv)
              have v1 : ¬ (valN s f (cnt s f) : Int) ≤ 9007199254740991 := by omega
              have v2 : decide ((valN s f (cnt s f) : Int) ≤ 9007199254740991) = false := by simpa using v1
              rcases endB with ⟨p1, hq⟩ | p1
              · have gq := gb_at s q hq
                have b0 : decide ((q : Int) < (s.size : Int)) = true := by simpa using p1
                rw [← HQ.out] at hE
                obtain ⟨x1, x2, x3, b1, b2, b3⟩ := notE hE
                clear hE
                go_enter Tryd.func18, Tryd.ntmps18
                go_wp2_with (first | (go_at_call 26; refine (DG _).mono ?_; rintro e w' ⟨rfl, rfl⟩) | (go_at_call 27; refine (SM _).mono ?_; rintro e w' ⟨rfl, rfl⟩))
                go_ret3
                exact ⟨(congrArg retI E1.out).symm, rfl⟩
              · have b0 : decide ((q : Int) < (s.size : Int)) = false := by simpa using p1
                clear hE
                go_enter Tryd.func18, Tryd.ntmps18
                go_wp2_with (first | (go_at_call 26; refine (DG _).mono ?_; rintro e w' ⟨rfl, rfl⟩) | (go_at_call 27; refine (SM _).mono ?_; rintro e w' ⟨rfl, rfl⟩))
                go_ret3
                exact ⟨(congrArg retI E1.out).symm, rfl⟩
            · have E1 := Lib.hid (scanF_n (sg := 1) h hc hE (by omega) (by omega))
              have v1 : (valN s f (cnt s f) : Int) ≤ 9007199254740991 := by omega
              have v2 : decide ((valN s f (cnt s f) : Int) ≤ 9007199254740991) = true := by simpa using v1
              have neg : IntKind.i64.wrap (-(valN s f (cnt s f) : Int)) = -(valN s f (cnt s f) : Int) := IntWalk.i64_in _ (by omega)
              rcases endB with ⟨p1, hq⟩ | p1
              · have gq := gb_at s q hq
                have b0 : decide ((q : Int) < (s.size : Int)) = true := by simpa using p1
                rw [← HQ.out] at hE
                obtain ⟨x1, x2, x3, b1, b2, b3⟩ := notE hE
                clear hE
                go_enter Tryd.func18, Tryd.ntmps18
                go_wp2_with (first | (go_at_call 26; refine (DG _).mono ?_; rintro e w' ⟨rfl, rfl⟩) | (go_at_call 27; refine (SM _).mono ?_; rintro e w' ⟨rfl, rfl⟩))
                go_ret3
                exact ⟨by rw [E1.out, ← HQ.out]; rfl, rfl⟩
              · have b0 : decide ((q : Int) < (s.size : Int)) = false := by simpa using p1
                clear hE
                go_enter Tryd.func18, Tryd.ntmps18
                go_wp2_with (first | (go_at_call 26; refine (DG _).mono ?_; rintro e w' ⟨rfl, rfl⟩) | (go_at_call 27; refine (SM _).mono ?_; rintro e w' ⟨rfl, rfl⟩))
                go_ret3
                exact ⟨by rw [E1.out, ← HQ.out]; rfl, rfl⟩
        · have E1 := Lib.hid (scanF_e (sg := 1) h hc hE)
          have hx : gb s q = 46 ∨ gb s q = 101 ∨ gb s q = 69 := by
            rw [← HQ.out] at hE
            simp [isE] at hE
            omega
          have hq : q < s.size := by
            apply Nat.lt_of_not_le
            intro hle
            rw [gb_out s q hle] at hx
            omega
          have gq := gb_at s q hq
          have p1 : (q : Int) < (s.size : Int) := by omega
          have b0 : decide ((q : Int) < (s.size : Int)) = true := by simpa using p1
          clear hE
          rcases hx with hx | hx | hx
          all_goals
            rw [hx] at gq
            clear hx
            go_enter Tryd.func18, Tryd.ntmps18
            go_wp2_with (go_at_call 26; refine (DG _).mono ?_; rintro e w' ⟨rfl, rfl⟩)
            go_ret3
            exact ⟨(congrArg retI E1.out).symm, rfl⟩
  · have E1 := Lib.hid (scanF_5 (sg := 1) (show f = s.size by omega))
    have q2 : (f : Int) = (s.size : Int) := by omega
    have q1 : ¬ (f : Int) < (s.size : Int) := by omega
    go_enter Tryd.func18, Tryd.ntmps18
    go_wp2_with fail
    go_ret3
    exact ⟨(congrArg retI E1.out).symm, rfl⟩
end Go.Proofs.YtndifilhfiooaaaDoor
namespace Go.Proofs.YtndifilhfiooaaaDoor
set_option maxRecDepth 20000
set_option linter.unusedSimpArgs false
set_option linter.unusedVariables false
open Go.RowKit
theorem scanI_un {s : ByteArray} {f : Nat} (hf : f ≤ s.size) (hm : gb s f ≠ 45) : scanI s (f : Int) = scanF s f 0 := by
  rw [scanI, if_neg (by omega), Int.toNat_natCast, if_neg hm]
theorem scanI_si {s : ByteArray} {a f : Nat} (hfa : f = a + 1) (hf : f ≤ s.size) (hm : gb s a = 45) : scanI s (a : Int) = scanF s f 1 := by
  rw [scanI, if_neg (by omega), Int.toNat_natCast, if_pos hm, hfa]
theorem sign_in {s : ByteArray} {a : Nat} (hm : gb s a = 45) : a + 1 ≤ s.size := by
  apply Nat.lt_of_not_le
  intro h
  rw [gb_out s a h] at hm
  exact absurd hm (by decide)
theorem scan_any (s : ByteArray) (p : Int) (w : World) (hs : s.size ≤ 140737488355328) :
    Calls Tryd.prog 32 #[.string s, .int .i64 p] w fun e w' => e = retI (scanI s p) ∧ Below w.heap.size w w' := by
  by_cases hp : p < 0 ∨ (s.size : Int) < p
  · rw [scanI, if_pos hp]
    exact scan_out s p w hp hs
  · obtain ⟨a, rfl⟩ : ∃ a : Nat, p = (a : Int) := ⟨p.toNat, by omega⟩
    by_cases hm : gb s a = 45
    · have hf := sign_in hm
      rw [scanI_si rfl hf hm]
      by_cases hd : a + 1 < s.size ∧ isD (gb s (a + 1)) = true
      · exact scan_si s a (a + 1) w rfl hd.1 hm hd.2 hs
      · exact scan_si6 s a (a + 1) w rfl hf hm (fun h => by cases hx : isD (gb s (a + 1)) <;> simp_all) hs
    · have hf : a ≤ s.size := by omega
      rw [scanI_un hf hm]
      by_cases hd : a < s.size ∧ isD (gb s a) = true
      · exact scan_un s a w hd.1 hm hd.2 hs
      · exact scan_un6 s a w hf hm (fun h => by cases hx : isD (gb s a) <;> simp_all) hs
theorem rscan_any (s : ByteArray) (p : Int) (w : World) (hs : s.size ≤ 140737488355328) :
    Calls Tryd.prog 18 #[.string s, .int .i64 p] w fun e w' => e = retI (scanI s p) ∧ w = w' := by
  by_cases hp : p < 0 ∨ (s.size : Int) < p
  · rw [scanI, if_pos hp]
    exact rscan_out s p w hp
  · obtain ⟨a, rfl⟩ : ∃ a : Nat, p = (a : Int) := ⟨p.toNat, by omega⟩
    by_cases hm : gb s a = 45
    · have hf := sign_in hm
      rw [scanI_si rfl hf hm]
      exact rscan_si s a (a + 1) w rfl hf hm hs
    · have hf : a ≤ s.size := by omega
      rw [scanI_un hf hm]
      exact rscan_un s a w hf hm hs
end Go.Proofs.YtndifilhfiooaaaDoor
namespace Go.Proofs.YtndifilhfiooaaaDoor
set_option maxRecDepth 20000
set_option linter.unusedSimpArgs false
set_option linter.unusedVariables false
open Go.RowKit Go.Sort
section
variable {P : Program} {ops : Array Oper} {w : World} {Q : Exit → Act → World → Prop} {o : Oper} {rest : List Oper} {A : Act}
end
end Go.Proofs.YtndifilhfiooaaaDoor
namespace Go.Proofs.YtndifilhfiooaaaDoor
set_option maxRecDepth 20000
set_option linter.unusedSimpArgs false
set_option linter.unusedVariables false
open Go.RowKit Go.Sort
section
variable {P : Program} {o : Oper} {A : Act}
theorem slc_str {ty : TypeId} {S : ByteArray} {i j : Nat} {k k' : IntKind} (W : World) (hu : P.underlying ty = some .string) (hij : i ≤ j) (hj : j ≤ S.size) : (Instr.sliceAt ty (.string S) (some (.int k (i : Int))) (some (.int k' (j : Int))) none).run P W = .ok (.string (S.extract i j)) W := by
  have h1 : ((i : Int) ≤ (j : Int)) := by omega
  have h2 : ((j : Int) ≤ (S.size : Int)) := by omega
  simp [Instr.sliceAt, Sem.run_bind, run_underlying hu W, Instr.slice, Instr.sliceBounds, Instr.sliceBound, asIntOf, go_sem, hij, hj]
theorem run_len_str {x : Operand} {tys : Array TypeId} {S : ByteArray} {ty : TypeId} (W : World) (ho : o.op = .call { callee := .builtin .len, args := #[x], argTypes := tys }) (hx : #[x].map A.eval = #[.string S]) (ht : tys[0]? = some ty) (hu : P.underlying ty = some .string) : (execOp A.eval o).run P W = .ok (.value (.int .i64 (S.size : Int))) W := by
  have hx' : A.eval x = .string S := by simpa using hx
  unfold execOp
  simp [ho, resolve, invoke, builtin, hx', Builtin.len_, ht, Sem.run_bind, run_underlying hu W, goInt]
end
end Go.Proofs.YtndifilhfiooaaaDoor
namespace Go.Proofs.YtndifilhfiooaaaDoor
set_option maxRecDepth 20000
set_option linter.unusedSimpArgs false
set_option linter.unusedVariables false
open Go.RowKit Go.Lib Go.Shelf Go.Sort
attribute [local go_sem] Oper.semAt_some
section
variable {P : Program} {w w0 : World} {ops : Array Oper} {Q : Exit → Act → World → Prop} {o : Oper} {rest : List Oper} {A : Act}
/-- A call whose answer is only known to be there. -/
theorem wl_callE {f : FuncId} {args : Array Value} {R : Ending → World → Prop} (h : ∀ W, (execOp A.eval o).run P W = .ok (.enter f args) W) (hc : Calls P f args w R) (hgd : Region.wanted o (yielded ops A.tmps) = true) (hr : ∀ e w', R e w' → ∃ v, e = .returned v ∧ wpList P ops Q rest (A.put o.dst v) w') : wpList P ops Q (o :: rest) A w := by
  refine wpList_step fun K hK => ?_
  rw [if_pos hgd]
  unfold Oper.wp
  rw [h]
  exact hc.mono fun e w' he => by
    obtain ⟨v, rfl, hv⟩ := hr e w' he
    exact hK _ _ hv
end
theorem mixO : Tryd.prog.follows .mixedOrders = true := by kernel_rfl
theorem blk_cell {w : World} {p i : Nat} {cs : Array Value} {T : TypeId} {v : Value} (h : w.heap[p]? = some (.cells cs T (0, 0))) (hv : cs[i]? = some v) : w.cell? ⟨p, i, none⟩ = some v := by rw [Lib.cell_of_heap h]; exact hv
theorem blk_set {w : World} {p : Nat} {cs : Array Value} {T : TypeId} (h : w.heap[p]? = some (.cells cs T (0, 0))) (i : Nat) (v : Value) : (w.setCell ⟨p, i, none⟩ v).heap[p]? = some (.cells (cs.setIfInBounds i v) T (0, 0)) := by
  simp [World.setCell, Array.getElem?_modify, h]
theorem idx_blank : ∀ c : Fin 256, decide (0 ≤ Lib.indexByte [9, 10, 13, 32] (c.val : Int).toNat.toUInt8) = isB c.val := by decide +kernel
theorem idx_start : ∀ c : Fin 256, decide (0 ≤ Lib.indexByte [45, 48, 49, 50, 51, 52, 53, 54, 55, 56, 57] (c.val : Int).toNat.toUInt8) = (c.val == 45 || isD c.val) := by decide +kernel
theorem pre_lets (t : ByteArray) (a : Nat) (l : List UInt8) : Lib.hasPrefix (t.extract a t.size).data.toList l = lets t a l := by
  rcases Nat.lt_or_ge t.size a with h | h
  · have e : t.extract a t.size = ⟨#[]⟩ := by
      apply ByteArray.ext
      simp
      omega
    have d : t.data.toList.drop a = [] := List.drop_eq_nil_of_le (by rw [tlen]; omega)
    unfold lets
    rw [e, d]
    cases l <;> simp [Lib.hasPrefix]
  · rw [ext_seg t h]
    unfold lets seg Lib.hasPrefix
    rw [List.take_of_length_le (by rw [List.length_drop, tlen]; omega)]
    show l.isPrefixOf (t.data.toList.drop a) = _
    rw [Bool.eq_iff_iff, List.isPrefixOf_iff_prefix, decide_eq_true_eq, List.prefix_iff_eq_take]
    exact eq_comm
theorem unq_V {t : ByteArray} {a : Nat} (ha : a < t.size) (hc : gb t a = 34) : unquoteV t.data.toList (a : Int) = unq t.data.toList (a + 1) := by
  unfold unquoteV
  rw [if_neg (by rw [tlen]; omega), Int.toNat_natCast, if_neg (by rw [tlen]; omega), if_neg (by rw [gb_eq, hc]; exact fun h => h rfl)]
theorem text_ans {t : ByteArray} {a : Nat} (ha : a < t.size) (hc : gb t a = 34) {S : List UInt8} {J M : Nat} (h : ansU (unquoteV t.data.toList (a : Int)) = (S, J, M)) : (wordT t a).2 = M ∧ (M = 0 → (wordT t a).1 = ⟨10, a, J, 0, S⟩) := by
  rw [unq_V ha hc] at h
  rw [word_text ha hc (by rw [wordK_no (by omega) (by omega) (by omega)])]
  cases hu : unq t.data.toList (a + 1) with
  | error m =>
    rw [hu] at h
    obtain ⟨rfl, rfl, rfl⟩ : [] = S ∧ 0 = J ∧ m = M := by simpa [ansU] using h
    exact ⟨rfl, fun h => absurd h (fun h => lunq_no0 _ _ _ rfl (by rw [hu, h]))⟩
  | ok r =>
    obtain ⟨s, j⟩ := r
    rw [hu] at h
    obtain ⟨rfl, rfl, rfl⟩ : s = S ∧ j = J ∧ 0 = M := by simpa [ansU] using h
    exact ⟨rfl, fun _ => rfl⟩
theorem num_ans {t : ByteArray} {a : Nat} (ha : a < t.size) (hs : signK (gb t a) = 0) (hk : (wordK t a).1 = 0) (h34 : gb t a ≠ 34) (hc : gb t a = 45 ∨ isD (gb t a) = true) {Y J M : Int} (h : scanI t (a : Int) = (Y, J, M)) : ((wordT t a).2 : Int) = M ∧ (M = 0 → (wordT t a).1 = ⟨11, a, J.toNat, Y, []⟩ ∧ (J.toNat : Int) = J) := by
  rw [word_num ha hs hk h34 hc]
  have h1 := scanI_nn t a
  have h2 := fun h => scanI_in ha h
  rw [h] at h1 h2 ⊢
  simp only at h1 h2 ⊢
  by_cases hm : M = 0
  · rw [if_pos hm]
    have := h2 hm
    exact ⟨by rw [hm]; rfl, fun _ => ⟨rfl, by omega⟩⟩
  · rw [if_neg hm]
    exact ⟨by show ((M.toNat : Nat) : Int) = M; omega, fun h => absurd h hm⟩
theorem word_letters (c : Nat) : ∃ (k : Nat) (l : List UInt8) (B : Bool), wordA (wordV c) = (.agg #[.int .i64 (k : Int), .string ⟨l.toArray⟩], B) ∧ ((B = true ∧ wordV c = some (k, l)) ∨ (B = false ∧ wordV c = none)) := by
  cases h : wordV c with
  | none => exact ⟨0, [], false, rfl, .inr ⟨rfl, rfl⟩⟩
  | some r =>
    obtain ⟨k, l⟩ := r
    exact ⟨k, l, true, rfl, .inl ⟨rfl, rfl⟩⟩
set_option maxRecDepth 100000 in
set_option maxHeartbeats 8000000 in
theorem read_any (t : ByteArray) (a m n p : Nat) (w : World) (hb : Books m n w) (hp : w.heap[p]? = some (tokB (tok0 a))) (ht : t.size ≤ 100000) (ha : a ≤ t.size) (hT : TabsO p w) (hmp : m ≠ p) (hnp : n ≠ p) :
    Calls Tryd.prog 22 #[.agg #[.map (some m), .map (some n)], .string t, .pointer (some ⟨p, 0, none⟩)] w fun e w' => e = .returned (.int .i64 ((wordT t a).2 : Int)) ∧ Oth p w w' ∧ ((wordT t a).2 = 0 → w'.heap[p]? = some (tokB (wordT t a).1)) := by
  obtain ⟨hml, hnl⟩ := hb.lt
  have hpl : p < w.heap.size := (Array.getElem?_eq_some_iff.1 hp).1
  obtain ⟨q, hq⟩ : ∃ q, w.heap.size = q := ⟨_, rfl⟩
  obtain ⟨W, hW⟩ : ∃ W, w.alloc (.cells #[.map (some m), .map (some n)] BookT) = W := ⟨_, rfl⟩
  have gq : W.heap[q]? = some (.cells #[.map (some m), .map (some n)] BookT (0, 0)) := by rw [← hW, ← hq]; exact World.alloc_heap_new w _
  have hlo : Below w.heap.size w W := by rw [← hW]; exact (Below.refl _ w).alloc (Nat.le_refl _) _
  have gp : W.heap[p]? = some (tokB (tok0 a)) := (hlo.block p hpl).trans hp
  have gbk : Books m n W := hb.keep (hlo.block m hml) (hlo.block n hnl)
  have ho : Oth p w W := Oth.below hlo
  have hTW : TabsO p W := hT.keep ho
  obtain ⟨hmlW, hnlW⟩ := gbk.lt
  have hplW : p < W.heap.size := (Array.getElem?_eq_some_iff.1 gp).1
  have c0 := blk_cell gq (i := 0) (v := .map (some m)) rfl
  have c1 := blk_cell gq (i := 1) (v := .map (some n)) rfl
  have e1 := blk_cell gp (i := 1) (v := .int .i64 (a : Int)) rfl
  have HO := Lib.hid ho
  have HWq := Lib.hid (And.intro hq hW)
  have HT := Lib.hid hTW
  have HB := Lib.hid gbk
  clear hb hp hT hml hnl hpl hlo ho hTW gbk hq hW
  by_cases h0 : a = t.size
  · subst h0
    have e0 := blk_cell gp (i := 0) (v := .int .i64 0) rfl
    have e2 := blk_cell gp (i := 2) (v := .int .i64 0) rfl
    have f0 := Lib.frozen_of_heap gp 0
    have f2 := Lib.frozen_of_heap gp 2
    have H0 := Lib.hid (word_end (t := t) rfl)
    have HGP := Lib.hid gp
    clear HT HB gq gp
    go_enter Tryd.func22, Tryd.ntmps22
    go_upto_region 1 with fail
    rw [HWq.out.1, HWq.out.2]
    go_wp2_with fail
    go_ret
    rw [H0.out]
    exact ⟨rfl, (HO.out.setCell 0 _).setCell 2 _, fun _ => blk_set (blk_set HGP.out 0 _) 2 _⟩
  have hal : a < t.size := by omega
  obtain ⟨c, hc⟩ : ∃ c, gb t a = c := ⟨_, rfl⟩
  have hcl : c < 256 := by rw [← hc]; exact gb_lt t a
  have ga := (gb_at t a hal).trans hc
  have nata : (a : Int).toNat = a := by omega
  have q1 : (a : Int) < (t.size : Int) := by omega
  have q2 : ¬ (a : Int) = (t.size : Int) := by omega
  have lk1 : ∀ d os, (Instr.lookup 42 (.map (some m)) (u8 (c : Int)) true).run Tryd.prog (grow (redrawn W d) os) = .ok (.tuple #[i64 (signK c : Int), .bool (decide (signK c ≠ 0))]) (grow (redrawn W d) os) := fun d os => look_sign (HB.out.keep ((below_regrown W d os).block m hmlW) ((below_regrown W d os).block n hnlW)) c
  obtain ⟨K, hK⟩ : ∃ K, signK c = K := ⟨_, rfl⟩
  obtain ⟨B, hB⟩ : ∃ B, decide (signK c ≠ 0) = B := ⟨_, rfl⟩
  rw [hB, hK] at lk1
  have HGQ := Lib.hid gq
  have HGP := Lib.hid gp
  have HC := Lib.hid hc
  have HKB := Lib.hid (And.intro hK hB)
  have H0 := Lib.hid h0
  clear gq gp hc hK hB h0
  go_enter Tryd.func22, Tryd.ntmps22
  go_upto_region 1 with fail
  rw [HWq.out.1, HWq.out.2]
  go_upto_region 5 with fail
  refine wp_region_inw 11 mixO (by decide) (by kernel_rfl) (by kernel_rfl) ?_
  repeat (refine inw_val (v := ?_) (by rfl) (by rfl) (fun d os => ?_) ?_; rotate_left; (focus (have d0 := cell_regrown c0 d os; have l1 := lk1 d os; with_reducible go_simp; (try with_reducible rfl); done)); simp only [nm0, nm1, nm2, nm3])
  refine inw_end fun d os => ?_
  refine wpAny_done (by kernel_rfl) ?_ _
  have hbl := below_regrown W d os
  generalize grow (redrawn W d) os = W2 at hbl ⊢
  have gq2 := (hbl.block q (Array.getElem?_eq_some_iff.1 HGQ.out).1).trans HGQ.out
  have gp2 := (hbl.block p hplW).trans HGP.out
  have ho2 : Oth p w W2 := HO.out.trans (Oth.below hbl)
  have hB2 : Books m n W2 := HB.out.keep (hbl.block m hmlW) (hbl.block n hnlW)
  have hT2 : TabsO p W2 := HT.out.keep (Oth.below hbl)
  clear hbl lk1 c0 c1 e1
  cases B
  rotate_left
  · have hk : signK c ≠ 0 := of_decide_eq_true HKB.out.2
    have H1 := Lib.hid (word_sign hal (by rw [HC.out]; exact hk))
    rw [HC.out, HKB.out.1] at H1
    have e0 := blk_cell gp2 (i := 0) (v := .int .i64 0) rfl
    have e2 := blk_cell gp2 (i := 2) (v := .int .i64 0) rfl
    have f0 := Lib.frozen_of_heap gp2 0
    have f2 := Lib.frozen_of_heap gp2 2
    have i1 : IntKind.i64.wrap ((a : Int) + 1) = (a : Int) + 1 := IntWalk.i64_in _ (by omega)
    have HG2 := Lib.hid gp2
    have HO2 := Lib.hid ho2
    clear hk gp2 gq2 ho2 hB2 hT2
    go_wp2_with fail
    go_ret
    rw [H1.out]
    exact ⟨rfl, (HO2.out.setCell 0 _).setCell 2 _, fun _ => blk_set (blk_set HG2.out 0 _) 2 _⟩
  have hs0 : signK c = 0 := by have := of_decide_eq_false HKB.out.2; omega
  have HS := Lib.hid hs0
  obtain ⟨k2, l2, B2, hwa, hwv⟩ := word_letters c
  have hml2 := hB2.lt.1
  have hnl2 := hB2.lt.2
  have hpl2 : p < W2.heap.size := (Array.getElem?_eq_some_iff.1 gp2).1
  have lk2 : ∀ d os, (Instr.lookup 43 (.map (some n)) (u8 (c : Int)) true).run Tryd.prog (grow (redrawn W2 d) os) = .ok (.tuple #[(wordA (wordV c)).1, .bool (wordA (wordV c)).2]) (grow (redrawn W2 d) os) := fun d os => look_word (hB2.keep ((below_regrown W2 d os).block m hml2) ((below_regrown W2 d os).block n hnl2)) c
  obtain ⟨LS, hLS⟩ : ∃ LS : ByteArray, (⟨l2.toArray⟩ : ByteArray) = LS := ⟨_, rfl⟩
  rw [hwa, hLS] at lk2
  simp only at lk2
  have c1 := blk_cell gq2 (i := 1) (v := .map (some n)) rfl
  have HG2 := Lib.hid gp2
  have HO2 := Lib.hid ho2
  have HT2 := Lib.hid hT2
  have HWV := Lib.hid hwv
  have HLS := Lib.hid hLS
  clear hs0 hwa hwv hLS gp2 gq2 ho2 hB2 hT2 hml2 hnl2
  go_upto_region 9 with fail
  have hM0 := Mem.start W2
  refine wp_region_inz 10 8 rfl rfl (steady_extract rfl) (by kernel_rfl) (by decide) mixO (by decide) (by kernel_rfl) (by kernel_rfl) ?_
  repeat (refine inw_val (v := ?_) (by rfl) (by rfl) (fun d os => ?_) ?_; rotate_left; (focus (have d1 := cell_regrown c1 d os; have l2 := lk2 d os; with_reducible go_simp; (try with_reducible rfl); done)); simp only [nm0, nm1, nm2, nm3])
  refine inw_new (.cells #[.int .i64 0, .string ByteArray.empty] WordT (0, 0)) rfl rfl (fun A W => run_alloc_of rfl (al_Word W)) ?_
  simp only [List.nil_append, List.cons_append]
  refine inw_fin fun d os => ?_
  refine given_new (t := 10) rfl fun x lx gx => ?_
  refine given_nil fun hap => ?_
  simp only [nm0, nm1, nm2, nm3] at hap ⊢
  have hM1 := hM0.news1 (below_regrown W2 d os) lx gx
  clear hap lx gx
  generalize grow (redrawn W2 d) os = W3 at hM1 ⊢
  change wpAny _ _ _ _ 2 _ _ _
  refine any_set (n := 10) (by kernel_rfl) rfl hM1 0 (cs := #[.int .i64 (k2 : Int), .string LS]) rfl rfl rfl rfl rowWord rfl (by simp [Value.oneCell']) rfl rfl fun W4 hM2 => ?_
  simp only [nm2, nm3] at hM2
  refine any_pure (n := 11) (v := .bool B2) (by kernel_rfl) rfl (fun W => rfl) rfl rfl ?_
  simp only [nm0, nm1, nm2, nm3]
  refine wpAny_done (by kernel_rfl) ?_ _
  refine NoPanic.normal ?_
  have gx4 := hM2.get 0 rfl
  have gp4 := hM2.old HG2.out
  have ho4 : Oth p w W4 := HO2.out.trans (Oth.below hM2.below)
  have hT4 : TabsO p W4 := HT2.out.keep (Oth.below hM2.below)
  have hxp : x ≠ p := by have := hM2.low _ (List.mem_of_getElem? (i := 0) rfl); simp only at this; omega
  clear hM0 hM1 hM2 lk2 c1
  cases B2
  · have HK0 := Lib.hid (show (wordK t a).1 = 0 by
      rcases HWV.out with ⟨h, -⟩ | ⟨-, h⟩
      · cases h
      · rw [wordK_v, HC.out, h])
    go_upto_region 10 with fail
    refine wp_region_inw 9 mixO (by decide) (by kernel_rfl) (by kernel_rfl) ?_
    repeat (first | (refine inw_skip rfl rfl ?_; simp only [nm0, nm1, nm2, nm3]) | (refine inw_pure (v := .bool false) (fun W => rfl) rfl rfl ?_; simp only [nm0, nm1, nm2, nm3]))
    refine inw_end fun d os => ?_
    refine wpAny_done (by kernel_rfl) ?_ _
    have hbl := below_regrown W4 d os
    generalize grow (redrawn W4 d) os = W5 at hbl ⊢
    have gp5 := (hbl.block p (Array.getElem?_eq_some_iff.1 gp4).1).trans gp4
    have ho5 : Oth p w W5 := ho4.trans (Oth.below hbl)
    have hT5 : TabsO p W5 := hT4.keep (Oth.below hbl)
    clear hbl gx4 gp4 ho4 hT4
    have gpT := gp5
    have HOT := Lib.hid ho5
    have HTT := Lib.hid hT5

    have e0 := blk_cell gpT (i := 0) (v := .int .i64 0) rfl
    have f0 := Lib.frozen_of_heap gpT 0
    have HGT := Lib.hid gpT
    by_cases h34 : c = 34
    · have b34 : ((c : Int) == 34) = true := by simp [h34]
      obtain ⟨S, J, M, hr⟩ : ∃ S J M, ansU (unquoteV t.data.toList (a : Int)) = (S, J, M) := ⟨_, _, _, rfl⟩
      have HX := Lib.hid (text_ans hal (by rw [HC.out]; exact h34) hr)
      have KU := Lib.hid (fun w hT => unquote_any t (a : Int) w ht hT)
      rw [hr] at KU
      simp only [retU] at KU
      clear hr h34
      have g1 := blk_set HGT.out 0 (i64 10)
      have t1 := (HTT.out.keep ((Oth.refl p _).setCell 0 (i64 10))).1
      have o1 := HOT.out.setCell 0 (i64 10)
      have HG1 := Lib.hid g1
      have HT1 := Lib.hid t1
      have HO1 := Lib.hid o1
      clear gpT g1 t1 o1
      go_wp2_with fail
      refine (KU.out _ HT1.out).mono ?_
      rintro e w6 ⟨rfl, hb6⟩
      have g6 := (hb6.block p (Array.getElem?_eq_some_iff.1 HG1.out).1).trans HG1.out
      have o6 := HO1.out.trans (Oth.below hb6)
      have e4 := blk_cell g6 (i := 4) (v := .string ⟨([] : List UInt8).toArray⟩) rfl
      have e2 := blk_cell g6 (i := 2) (v := .int .i64 0) rfl
      have f4 := Lib.frozen_of_heap g6 4
      have f2 := Lib.frozen_of_heap g6 2
      have HG6 := Lib.hid g6
      have HO6 := Lib.hid o6
      clear g6 o6 hb6
      go_wp2_with fail
      go_ret
      obtain ⟨x1, x2⟩ := HX.out
      rw [x1]
      exact ⟨rfl, (HO6.out.setCell 4 _).setCell 2 _, fun h => by rw [x2 h]; exact blk_set (blk_set HG6.out 4 _) 2 _⟩
    have b34 : ((c : Int) == 34) = false := by simp; omega
    have is := idx_start ⟨c, hcl⟩
    simp only at is
    by_cases hN : c = 45 ∨ isD c = true
    · have hst : decide (0 ≤ Lib.indexByte [45, 48, 49, 50, 51, 52, 53, 54, 55, 56, 57] (c : Int).toNat.toUInt8) = true := by rw [is]; rcases hN with h | h <;> simp [h]
      obtain ⟨Y, J, M, hr⟩ : ∃ Y J M, scanI t (a : Int) = (Y, J, M) := ⟨_, _, _, rfl⟩
      have HX := Lib.hid (num_ans hal (by rw [HC.out]; exact HS.out) HK0.out (by rw [HC.out]; exact h34) (by rw [HC.out]; exact hN) hr)
      have KU := Lib.hid (fun w => scan_any t (a : Int) w (by omega))
      rw [hr] at KU
      simp only [retI] at KU
      obtain ⟨z, hz⟩ : ∃ z, Lib.indexByte [45, 48, 49, 50, 51, 52, 53, 54, 55, 56, 57] (c : Int).toNat.toUInt8 = z := ⟨_, rfl⟩
      have KI := Lib.hid (show ∀ w, Calls Tryd.prog 21 #[.string ⟨#[45, 48, 49, 50, 51, 52, 53, 54, 55, 56, 57]⟩, .int .u8 (c : Int)] w fun e w' => e = .returned (.int .i64 z) ∧ w' = w from fun w => by rw [← hz]; exact Tryd.strings_IndexByte _ _ w)
      rw [hz] at hst
      have p0 : (0 : Int) ≤ z := of_decide_eq_true hst
      clear hst hz
      clear hr hN is h34
      have g1 := blk_set HGT.out 0 (i64 11)
      have o1 := HOT.out.setCell 0 (i64 11)
      have HG1 := Lib.hid g1
      have HO1 := Lib.hid o1
      clear gpT g1 o1
      go_wp2_with fail
      refine (KI.out _).mono ?_
      rintro e w5 ⟨rfl, rfl⟩
      go_wp2_with fail
      refine (KU.out _).mono ?_
      rintro e w6 ⟨rfl, hb6⟩
      have g6 := (hb6.block p (Array.getElem?_eq_some_iff.1 HG1.out).1).trans HG1.out
      have o6 := HO1.out.trans (Oth.below hb6)
      have e3 := blk_cell g6 (i := 3) (v := .int .i64 0) rfl
      have e2 := blk_cell g6 (i := 2) (v := .int .i64 0) rfl
      have f3 := Lib.frozen_of_heap g6 3
      have f2 := Lib.frozen_of_heap g6 2
      have HG6 := Lib.hid g6
      have HO6 := Lib.hid o6
      clear g6 o6 hb6
      go_wp2_with fail
      go_ret
      obtain ⟨x1, x2⟩ := HX.out
      refine ⟨by rw [x1]; rfl, (HO6.out.setCell 3 _).setCell 2 _, fun h => ?_⟩
      obtain ⟨y1, y2⟩ := x2 (by omega)
      rw [y1]
      have := blk_set (blk_set HG6.out 3 (i64 Y)) 2 (i64 J)
      rw [← y2] at this
      rw [← y2]
      exact this
    · have hst : decide (0 ≤ Lib.indexByte [45, 48, 49, 50, 51, 52, 53, 54, 55, 56, 57] (c : Int).toNat.toUInt8) = false := by rw [is]; simp only [not_or] at hN; simp [hN.1, hN.2]
      have HX := Lib.hid (word_no hal (by rw [HC.out]; exact HS.out) HK0.out (by rw [HC.out]; exact h34) (by rw [HC.out]; exact hN))
      obtain ⟨z, hz⟩ : ∃ z, Lib.indexByte [45, 48, 49, 50, 51, 52, 53, 54, 55, 56, 57] (c : Int).toNat.toUInt8 = z := ⟨_, rfl⟩
      have KI := Lib.hid (show ∀ w, Calls Tryd.prog 21 #[.string ⟨#[45, 48, 49, 50, 51, 52, 53, 54, 55, 56, 57]⟩, .int .u8 (c : Int)] w fun e w' => e = .returned (.int .i64 z) ∧ w' = w from fun w => by rw [← hz]; exact Tryd.strings_IndexByte _ _ w)
      rw [hz] at hst
      have p0 : ¬ (0 : Int) ≤ z := of_decide_eq_false hst
      clear hst hz
      clear hN is h34 gpT
      go_wp2_with fail
      refine (KI.out _).mono ?_
      rintro e w5 ⟨rfl, rfl⟩
      go_wp2_with fail
      go_ret
      rw [HX.out]
      exact ⟨rfl, HOT.out, fun h => absurd (show 6 = 0 from h) (by decide)⟩
  · have hwv : wordV c = some (k2, l2) := by
      rcases HWV.out with ⟨-, h⟩ | ⟨h, -⟩
      · exact h
      · cases h
    have hwk := wordK_v t a
    rw [HC.out, hwv] at hwk
    simp only at hwk
    have x1 := blk_cell gx4 (i := 1) (v := .string LS) rfl
    obtain ⟨B3, hB3⟩ : ∃ B3, lets t a l2 = B3 := ⟨_, rfl⟩
    have KH := Lib.hid (show ∀ w, Calls Tryd.prog 30 #[.string (t.extract a t.size), .string LS] w fun e w' => e = .returned (.bool B3) ∧ w' = w from fun w => by
      have h := Tryd.strings_HasPrefix (t.extract a t.size) LS w
      rw [show LS.data.toList = l2 by rw [← HLS.out], pre_lets, hB3] at h
      exact h)
    go_upto_region 10 with fail
    refine wp_region_inw 9 mixO (by decide) (by kernel_rfl) (by kernel_rfl) ?_
    repeat (refine inw_val (v := ?_) (by rfl) (by rfl) (fun d os => ?_) ?_; rotate_left; (focus (have d1 := cell_regrown x1 d os; with_reducible go_simp; (try with_reducible rfl); done)); simp only [nm0, nm1, nm2, nm3])
    refine inw_callV (args := #[.string (t.extract a t.size), .string LS]) (v := .bool B3) (fun W => run_call_fn W (enters_of Tryd.func30 rfl rfl) rfl (by simp [Act.eval])) (fun W _ => (KH.out W).mono fun e w' h => ⟨h.1, by rw [h.2]; exact Below.refl _ _⟩) rfl rfl ?_
    simp only [nm0, nm1, nm2, nm3]
    repeat (refine inw_val (v := ?_) (by rfl) (by rfl) (fun d os => ?_) ?_; rotate_left; (focus (skip; with_reducible go_simp; (try with_reducible rfl); done)); simp only [nm0, nm1, nm2, nm3])
    refine inw_end fun d os => ?_
    refine wpAny_done (by kernel_rfl) ?_ _
    have hbl := below_regrown W4 d os
    generalize grow (redrawn W4 d) os = W5 at hbl ⊢
    have gx5 := (hbl.block x (Array.getElem?_eq_some_iff.1 gx4).1).trans gx4
    have gp5 := (hbl.block p (Array.getElem?_eq_some_iff.1 gp4).1).trans gp4
    have ho5 : Oth p w W5 := ho4.trans (Oth.below hbl)
    have hT5 : TabsO p W5 := hT4.keep (Oth.below hbl)
    clear hbl gx4 gp4 ho4 hT4 KH x1
    cases B3
    · have HK0 := Lib.hid (show (wordK t a).1 = 0 by rw [hwk, hB3]; rfl)
      clear hB3 hwk hwv gx5
      have gpT := gp5
      have HOT := Lib.hid ho5
      have HTT := Lib.hid hT5

      have e0 := blk_cell gpT (i := 0) (v := .int .i64 0) rfl
      have f0 := Lib.frozen_of_heap gpT 0
      have HGT := Lib.hid gpT
      by_cases h34 : c = 34
      · have b34 : ((c : Int) == 34) = true := by simp [h34]
        obtain ⟨S, J, M, hr⟩ : ∃ S J M, ansU (unquoteV t.data.toList (a : Int)) = (S, J, M) := ⟨_, _, _, rfl⟩
        have HX := Lib.hid (text_ans hal (by rw [HC.out]; exact h34) hr)
        have KU := Lib.hid (fun w hT => unquote_any t (a : Int) w ht hT)
        rw [hr] at KU
        simp only [retU] at KU
        clear hr h34
        have g1 := blk_set HGT.out 0 (i64 10)
        have t1 := (HTT.out.keep ((Oth.refl p _).setCell 0 (i64 10))).1
        have o1 := HOT.out.setCell 0 (i64 10)
        have HG1 := Lib.hid g1
        have HT1 := Lib.hid t1
        have HO1 := Lib.hid o1
        clear gpT g1 t1 o1
        go_wp2_with fail
        refine (KU.out _ HT1.out).mono ?_
        rintro e w6 ⟨rfl, hb6⟩
        have g6 := (hb6.block p (Array.getElem?_eq_some_iff.1 HG1.out).1).trans HG1.out
        have o6 := HO1.out.trans (Oth.below hb6)
        have e4 := blk_cell g6 (i := 4) (v := .string ⟨([] : List UInt8).toArray⟩) rfl
        have e2 := blk_cell g6 (i := 2) (v := .int .i64 0) rfl
        have f4 := Lib.frozen_of_heap g6 4
        have f2 := Lib.frozen_of_heap g6 2
        have HG6 := Lib.hid g6
        have HO6 := Lib.hid o6
        clear g6 o6 hb6
        go_wp2_with fail
        go_ret
        obtain ⟨x1, x2⟩ := HX.out
        rw [x1]
        exact ⟨rfl, (HO6.out.setCell 4 _).setCell 2 _, fun h => by rw [x2 h]; exact blk_set (blk_set HG6.out 4 _) 2 _⟩
      have b34 : ((c : Int) == 34) = false := by simp; omega
      have is := idx_start ⟨c, hcl⟩
      simp only at is
      by_cases hN : c = 45 ∨ isD c = true
      · have hst : decide (0 ≤ Lib.indexByte [45, 48, 49, 50, 51, 52, 53, 54, 55, 56, 57] (c : Int).toNat.toUInt8) = true := by rw [is]; rcases hN with h | h <;> simp [h]
        obtain ⟨Y, J, M, hr⟩ : ∃ Y J M, scanI t (a : Int) = (Y, J, M) := ⟨_, _, _, rfl⟩
        have HX := Lib.hid (num_ans hal (by rw [HC.out]; exact HS.out) HK0.out (by rw [HC.out]; exact h34) (by rw [HC.out]; exact hN) hr)
        have KU := Lib.hid (fun w => scan_any t (a : Int) w (by omega))
        rw [hr] at KU
        simp only [retI] at KU
        obtain ⟨z, hz⟩ : ∃ z, Lib.indexByte [45, 48, 49, 50, 51, 52, 53, 54, 55, 56, 57] (c : Int).toNat.toUInt8 = z := ⟨_, rfl⟩
        have KI := Lib.hid (show ∀ w, Calls Tryd.prog 21 #[.string ⟨#[45, 48, 49, 50, 51, 52, 53, 54, 55, 56, 57]⟩, .int .u8 (c : Int)] w fun e w' => e = .returned (.int .i64 z) ∧ w' = w from fun w => by rw [← hz]; exact Tryd.strings_IndexByte _ _ w)
        rw [hz] at hst
        have p0 : (0 : Int) ≤ z := of_decide_eq_true hst
        clear hst hz
        clear hr hN is h34
        have g1 := blk_set HGT.out 0 (i64 11)
        have o1 := HOT.out.setCell 0 (i64 11)
        have HG1 := Lib.hid g1
        have HO1 := Lib.hid o1
        clear gpT g1 o1
        go_wp2_with fail
        refine (KI.out _).mono ?_
        rintro e w5 ⟨rfl, rfl⟩
        go_wp2_with fail
        refine (KU.out _).mono ?_
        rintro e w6 ⟨rfl, hb6⟩
        have g6 := (hb6.block p (Array.getElem?_eq_some_iff.1 HG1.out).1).trans HG1.out
        have o6 := HO1.out.trans (Oth.below hb6)
        have e3 := blk_cell g6 (i := 3) (v := .int .i64 0) rfl
        have e2 := blk_cell g6 (i := 2) (v := .int .i64 0) rfl
        have f3 := Lib.frozen_of_heap g6 3
        have f2 := Lib.frozen_of_heap g6 2
        have HG6 := Lib.hid g6
        have HO6 := Lib.hid o6
        clear g6 o6 hb6
        go_wp2_with fail
        go_ret
        obtain ⟨x1, x2⟩ := HX.out
        refine ⟨by rw [x1]; rfl, (HO6.out.setCell 3 _).setCell 2 _, fun h => ?_⟩
        obtain ⟨y1, y2⟩ := x2 (by omega)
        rw [y1]
        have := blk_set (blk_set HG6.out 3 (i64 Y)) 2 (i64 J)
        rw [← y2] at this
        rw [← y2]
        exact this
      · have hst : decide (0 ≤ Lib.indexByte [45, 48, 49, 50, 51, 52, 53, 54, 55, 56, 57] (c : Int).toNat.toUInt8) = false := by rw [is]; simp only [not_or] at hN; simp [hN.1, hN.2]
        have HX := Lib.hid (word_no hal (by rw [HC.out]; exact HS.out) HK0.out (by rw [HC.out]; exact h34) (by rw [HC.out]; exact hN))
        obtain ⟨z, hz⟩ : ∃ z, Lib.indexByte [45, 48, 49, 50, 51, 52, 53, 54, 55, 56, 57] (c : Int).toNat.toUInt8 = z := ⟨_, rfl⟩
        have KI := Lib.hid (show ∀ w, Calls Tryd.prog 21 #[.string ⟨#[45, 48, 49, 50, 51, 52, 53, 54, 55, 56, 57]⟩, .int .u8 (c : Int)] w fun e w' => e = .returned (.int .i64 z) ∧ w' = w from fun w => by rw [← hz]; exact Tryd.strings_IndexByte _ _ w)
        rw [hz] at hst
        have p0 : ¬ (0 : Int) ≤ z := of_decide_eq_false hst
        clear hst hz
        clear hN is h34 gpT
        go_wp2_with fail
        refine (KI.out _).mono ?_
        rintro e w5 ⟨rfl, rfl⟩
        go_wp2_with fail
        go_ret
        rw [HX.out]
        exact ⟨rfl, HOT.out, fun h => absurd (show 6 = 0 from h) (by decide)⟩
    · have hk0 : (wordK t a).1 ≠ 0 ∧ wordK t a = (k2, l2.length) := by
        have e : wordK t a = (k2, l2.length) := by rw [hwk, hB3]; rfl
        refine ⟨?_, e⟩
        rw [e]
        unfold wordV at hwv
        repeat' split at hwv
        all_goals first | (cases hwv; decide) | (cases hwv)
      have hfit := wordK_fit t a hk0.1
      have H1 := Lib.hid (word_lets hal (by rw [HC.out]; exact HS.out) hk0.1)
      rw [hk0.2] at H1 hfit
      have hsz : LS.size = l2.length := by rw [← HLS.out]; simp [ByteArray.size]
      simp only at hfit
      have y0 := blk_cell gx5 (i := 0) (v := .int .i64 (k2 : Int)) rfl
      have y1 := blk_cell gx5 (i := 1) (v := .string LS) rfl
      have e0 := blk_cell gp5 (i := 0) (v := .int .i64 0) rfl
      have e2 := blk_cell gp5 (i := 2) (v := .int .i64 0) rfl
      have f0 := Lib.frozen_of_heap gp5 0
      have f2 := Lib.frozen_of_heap gp5 2
      have i1 : IntKind.i64.wrap ((a : Int) + (LS.size : Int)) = (a : Int) + (LS.size : Int) := IntWalk.i64_in _ (by omega)
      have HG5 := Lib.hid gp5
      have HO5 := Lib.hid ho5
      have HSZ := Lib.hid hsz
      clear hk0 hfit hsz hwk hwv hB3 gp5 gx5 ho5 hT5 HWV
      go_upto_region 11 with fail
      go_region
      all_goals
        go_wp2_with fail
        go_ret
        rw [H1.out, HSZ.out, show ((a : Int) + (l2.length : Int)) = ((a + l2.length : Nat) : Int) from by omega]
        exact ⟨rfl, by first | exact (HO5.out.setCell 0 _).setCell 2 _ | exact ((HO5.out.drewN _).setCell 0 _).setCell 2 _ | exact ((HO5.out.drewN 1).setCell 0 _).setCell 2 _, fun _ => by first | exact blk_set (blk_set HG5.out 0 _) 2 _⟩
end Go.Proofs.YtndifilhfiooaaaDoor
