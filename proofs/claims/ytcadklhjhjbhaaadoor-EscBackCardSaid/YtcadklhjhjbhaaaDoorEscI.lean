/- The reference of layer 4: digits, four, pair, small. -/
import Derived.Test.YtcadklhjhjbhaaaDoorEscE
namespace Go.Proofs.YtcadklhjhjbhaaaDoor
set_option maxRecDepth 20000
set_option linter.unusedSimpArgs false
set_option linter.unusedVariables false
open Go.RowKit Go.Lib Go.Shelf
attribute [local go_sem] Oper.semAt_some
set_option maxRecDepth 100000 in
theorem rdigit_any (c : Nat) (hc : c < 256) (w : World) : Calls Tryd.prog 70 #[.int .u8 (c : Int)] w fun e w' => e = .returned (.int .i64 (hexI c)) ∧ w' = w := by
  obtain ⟨R, hR⟩ : ∃ R, hexI c = R := ⟨_, rfl⟩
  rw [hR]
  have HR := Lib.hid hR
  clear hR
  by_cases h1 : 48 ≤ c ∧ c ≤ 57
  · have e : R = ((c - 48 : Nat) : Int) := by rw [← HR.out]; unfold hexI hexv; rw [if_pos h1]
    have p1 : (48 : Int) ≤ (c : Int) := by omega
    have p2 : (c : Int) ≤ 57 := by omega
    have q1 : IntKind.u8.wrap ((c : Int) - 48) = ((c - 48 : Nat) : Int) := by rw [IntWalk.u8_in _ (by omega)]; omega
    have q2 : IntKind.i64.wrap ((c - 48 : Nat) : Int) = ((c - 48 : Nat) : Int) := IntWalk.i64_in _ (by omega)
    rw [← e] at q1 q2
    clear e
    go_enter Tryd.func70, Tryd.ntmps70
    go_wp2_with fail
    go_ret
    exact ⟨rfl, rfl⟩
  · by_cases h2 : 97 ≤ c ∧ c ≤ 102
    · have e : R = ((c - 87 : Nat) : Int) := by rw [← HR.out]; unfold hexI hexv; rw [if_neg h1, if_pos h2]
      have p1 : (48 : Int) ≤ (c : Int) := by omega
      have p2 : ¬ (c : Int) ≤ 57 := by omega
      have p3 : (97 : Int) ≤ (c : Int) := by omega
      have p4 : (c : Int) ≤ 102 := by omega
      have q1 : IntKind.u8.wrap ((c : Int) - 97) = ((c - 97 : Nat) : Int) := by rw [IntWalk.u8_in _ (by omega)]; omega
      have q2 : IntKind.i64.wrap ((c - 97 : Nat) : Int) = ((c - 97 : Nat) : Int) := IntWalk.i64_in _ (by omega)
      have q3 : IntKind.i64.wrap (((c - 97 : Nat) : Int) + 10) = R := by rw [IntWalk.i64_in _ (by omega), e]; omega
      obtain ⟨z, hz⟩ : ∃ z, c - 97 = z := ⟨_, rfl⟩
      rw [hz] at q1 q2 q3
      clear e hz
      go_enter Tryd.func70, Tryd.ntmps70
      go_wp2_with fail
      go_ret
      exact ⟨rfl, rfl⟩
    · by_cases h3 : 65 ≤ c ∧ c ≤ 70
      · have e : R = ((c - 55 : Nat) : Int) := by rw [← HR.out]; unfold hexI hexv; rw [if_neg h1, if_neg h2, if_pos h3]
        have p1 : (48 : Int) ≤ (c : Int) := by omega
        have p2 : ¬ (c : Int) ≤ 57 := by omega
        have p3 : ¬ (97 : Int) ≤ (c : Int) := by omega
        have p5 : (65 : Int) ≤ (c : Int) := by omega
        have p6 : (c : Int) ≤ 70 := by omega
        have q1 : IntKind.u8.wrap ((c : Int) - 65) = ((c - 65 : Nat) : Int) := by rw [IntWalk.u8_in _ (by omega)]; omega
        have q2 : IntKind.i64.wrap ((c - 65 : Nat) : Int) = ((c - 65 : Nat) : Int) := IntWalk.i64_in _ (by omega)
        have q3 : IntKind.i64.wrap (((c - 65 : Nat) : Int) + 10) = R := by rw [IntWalk.i64_in _ (by omega), e]; omega
        obtain ⟨z, hz⟩ : ∃ z, c - 65 = z := ⟨_, rfl⟩
        rw [hz] at q1 q2 q3
        clear e hz
        go_enter Tryd.func70, Tryd.ntmps70
        go_wp2_with fail
        go_ret
        exact ⟨rfl, rfl⟩
      · have e : R = -1 := by rw [← HR.out]; unfold hexI hexv; rw [if_neg h1, if_neg h2, if_neg h3]
        subst e
        have HN := Lib.hid (And.intro h1 (And.intro h2 h3))
        clear h1 h2 h3
        go_enter Tryd.func70, Tryd.ntmps70
        go_wp2_with fail
        all_goals first
          | (exfalso; have := HN.out; omega)
          | (go_ret; exact ⟨rfl, rfl⟩)
def ans4 : Except Nat Nat → Nat × Nat
  | .ok n => (n, 0)
  | .error m => (0, m)
set_option maxRecDepth 100000 in
set_option maxHeartbeats 4000000 in
theorem rfour_any (t : ByteArray) (a : Nat) (w : World) (ht : t.size ≤ 100000) (ha : a ≤ 200000) :
    Calls Tryd.prog 55 #[.string t, .int .i64 (a : Int)] w fun e w' => e = .returned (.tuple #[.int .i64 ((ans4 (fourAt t.data.toList 4 a 0)).1 : Int), .int .i64 ((ans4 (fourAt t.data.toList 4 a 0)).2 : Int)]) ∧ w' = w := by
  obtain ⟨R, hR⟩ : ∃ R, fourAt t.data.toList 4 a 0 = R := ⟨_, rfl⟩
  rw [hR]
  have hR0 := hR.symm
  clear hR
  have KD := Lib.hid (fun c hc w => rdigit_any c hc w)
  go_enter Tryd.func55, Tryd.ntmps55
  go_wp2_with fail
  go_loop [6, 7] (fun n i => ∃ k N : Nat, k ≤ 4 ∧ i = .int .i64 (k : Int) ∧ n = .int .i64 (N : Int) ∧ N < 16 ^ k ∧ R = fourAt t.data.toList (4 - k) (a + k) N) (fun _ i => 4 - (RowKit.intOf i).toNat)
  case atStart => exact ⟨0, 0, by omega, rfl, rfl, by decide, hR0⟩
  case round =>
    obtain ⟨k, N, hk, rfl, rfl, hN, hRk⟩ := hrel
    by_cases h4 : k < 4
    · have p1 : (k : Int) < 4 := by omega
      obtain ⟨m, hm⟩ : ∃ m, 4 - k = m + 1 := ⟨3 - k, by omega⟩
      have hN2 : N < 65536 := Nat.lt_of_lt_of_le hN (Nat.le_trans (Nat.pow_le_pow_right (by decide) hk) (by decide))
      have q0 : IntKind.i64.wrap ((a : Int) + (k : Int)) = ((a + k : Nat) : Int) := by rw [IntWalk.i64_in _ (by omega)]; omega
      have q9 : IntKind.i64.wrap ((k : Int) + 1) = ((k + 1 : Nat) : Int) := by rw [IntWalk.i64_in _ (by omega)]; omega
      rw [hm, fourAt, len_of] at hRk
      obtain ⟨x, hx⟩ : ∃ x, a + k = x := ⟨_, rfl⟩
      rw [hx] at q0 hRk
      have HN := Lib.hid hN
      clear hN hR0
      by_cases hs : x < t.size
      · rw [if_neg (by omega)] at hRk
        have p2 : ¬ (t.size : Int) ≤ (x : Int) := by omega
        have p3 : (x : Int) < (t.size : Int) := by omega
        have hg := at_get hs
        obtain ⟨C, hC⟩ : ∃ C, at_ t.data.toList x = C := ⟨_, rfl⟩
        have hC2 : C < 256 := by rw [← hC]; exact at_lt _ _
        rw [hC] at hg hRk
        have KD2 := Lib.hid (KD.out C hC2)
        clear hC
        cases q4 : hexv C with
        | none =>
          have q5 : hexI C = -1 := by unfold hexI; rw [q4]
          rw [q5] at KD2
          rw [q4] at hRk
          have HR := Lib.hid hRk
          clear hRk q4 q5
          go_wp2_with fail
          refine (KD2.out _).mono ?_
          rintro e w1 ⟨rfl, rfl⟩
          go_wp2_with fail
          go_ret2
          rw [HR.out]
          exact ⟨rfl, rfl⟩
        | some d =>
          have hd16 := hexv_lt q4
          have q5 : hexI C = (d : Int) := by unfold hexI; rw [q4]
          rw [q5] at KD2
          rw [q4] at hRk
          have HR := Lib.hid hRk
          have q6 : IntKind.i64.wrap (16 * (N : Int)) = ((16 * N : Nat) : Int) := by rw [IntWalk.i64_in _ (by omega)]; omega
          have q7 : IntKind.i64.wrap (((16 * N : Nat) : Int) + (d : Int)) = ((16 * N + d : Nat) : Int) := by rw [IntWalk.i64_in _ (by omega)]; omega
          obtain ⟨z, hz⟩ : ∃ z, 16 * N = z := ⟨_, rfl⟩
          rw [hz] at q6 q7
          obtain ⟨y, hy⟩ : ∃ y, z + d = y := ⟨_, rfl⟩
          rw [hy] at q7
          have HZ := Lib.hid (And.intro hz hy)
          clear hRk q4 q5 hz hy
          go_wp2_with fail
          refine (KD2.out _).mono ?_
          rintro e w1 ⟨rfl, rfl⟩
          go_wp2_with fail
          go_round
          case rel =>
            obtain ⟨hz, hy⟩ := HZ.out
            exact ⟨k + 1, y, by omega, rfl, rfl, by have := HN.out; rw [Nat.pow_succ]; omega, by rw [HR.out, show 4 - (k + 1) = m by omega, show a + (k + 1) = x + 1 by omega, ← hy, ← hz]⟩
          case measure => simp [RowKit.intOf]; omega
      · rw [if_pos (by omega)] at hRk
        have p2 : (t.size : Int) ≤ (x : Int) := by omega
        have HR := Lib.hid hRk
        clear hRk
        go_wp2_with fail
        go_ret2
        rw [HR.out]
        exact ⟨rfl, rfl⟩
    · obtain rfl : k = 4 := by omega
      have HR := Lib.hid hRk
      clear hRk hR0
      go_wp2_with fail
      go_ret2
      rw [HR.out]
      exact ⟨rfl, rfl⟩
end Go.Proofs.YtcadklhjhjbhaaaDoor
