/- The reference of layer 4: pair, small, escape. -/
import Derived.Test.YtcadklhjhjbhaaaDoorEscI
namespace Go.Proofs.YtcadklhjhjbhaaaDoor
set_option maxRecDepth 20000
set_option linter.unusedSimpArgs false
set_option linter.unusedVariables false
open Go.RowKit Go.Lib Go.Shelf
attribute [local go_sem] Oper.semAt_some
/-- The second number of a pair. -/
def pairV (L : List UInt8) (a : Nat) : Except Nat Nat :=
  if L.length ≤ a then .error 5 else if at_ L a ≠ 92 then .error 11 else
  if L.length ≤ a + 1 then .error 5 else if at_ L (a + 1) ≠ 117 then .error 11 else
  match fourAt L 4 (a + 2) 0 with
  | .error m => .error m
  | .ok m => if m < 56320 ∨ 57343 < m then .error 11 else .ok m
theorem four_no0 (L : List UInt8) : ∀ (k a n : Nat), fourAt L k a n ≠ .error 0
  | 0, _, _ => by simp [fourAt]
  | k + 1, a, n => by
    unfold fourAt
    split
    · simp
    · split
      · simp
      · exact four_no0 L k _ _
theorem four_lt (L : List UInt8) : ∀ (k a n m : Nat), fourAt L k a n = .ok m → m < (n + 1) * 16 ^ k
  | 0, _, n, m, h => by cases h; simp
  | k + 1, a, n, m, h => by
    unfold fourAt at h
    split at h
    · cases h
    · split at h
      · cases h
      · rename_i d hd
        have h1 := four_lt L k _ _ _ h
        have h2 := hexv_lt hd
        have h3 : (16 * n + d + 1) * 16 ^ k ≤ (n + 1) * 16 * 16 ^ k := Nat.mul_le_mul_right _ (by omega)
        rw [Nat.pow_succ, Nat.mul_comm (16 ^ k) 16, ← Nat.mul_assoc]
        omega
set_option maxRecDepth 100000 in
set_option maxHeartbeats 4000000 in
theorem rpair_any (t : ByteArray) (a : Nat) (w : World) (ht : t.size ≤ 100000) (ha : a ≤ 150000) :
    Calls Tryd.prog 56 #[.string t, .int .i64 (a : Int)] w fun e w' => e = .returned (.tuple #[.int .i64 ((ans4 (pairV t.data.toList a)).1 : Int), .int .i64 ((ans4 (pairV t.data.toList a)).2 : Int)]) ∧ w' = w := by
  obtain ⟨R, hR⟩ : ∃ R, pairV t.data.toList a = R := ⟨_, rfl⟩
  rw [hR]
  have e1 : R = if t.size ≤ a then .error 5 else if at_ t.data.toList a ≠ 92 then .error 11 else
      if t.size ≤ a + 1 then .error 5 else if at_ t.data.toList (a + 1) ≠ 117 then .error 11 else
      match fourAt t.data.toList 4 (a + 2) 0 with
      | .error m => .error m
      | .ok m => if m < 56320 ∨ 57343 < m then .error 11 else .ok m := by rw [← hR, pairV, len_of]
  clear hR
  have q1 : IntKind.i64.wrap ((a : Int) + 1) = ((a + 1 : Nat) : Int) := by rw [IntWalk.i64_in _ (by omega)]; omega
  have q2 : IntKind.i64.wrap ((a : Int) + 2) = ((a + 2 : Nat) : Int) := by rw [IntWalk.i64_in _ (by omega)]; omega
  obtain ⟨a1, ha1⟩ : ∃ x, a + 1 = x := ⟨_, rfl⟩
  obtain ⟨a2, ha2⟩ : ∃ x, a + 2 = x := ⟨_, rfl⟩
  rw [ha1] at q1 e1
  rw [ha2] at q2 e1
  have K4 := Lib.hid (fun w => rfour_any t a2 w ht (by omega))
  by_cases c1 : a < t.size
  · have p1 : ¬ (t.size : Int) ≤ (a : Int) := by omega
    have r1 : (a : Int) < (t.size : Int) := by omega
    have g1 := at_get c1
    rw [if_neg (by omega)] at e1
    obtain ⟨C, hC⟩ : ∃ C, at_ t.data.toList a = C := ⟨_, rfl⟩
    rw [hC] at g1 e1
    clear hC
    by_cases c2 : C = 92
    · have e92 : ((C : Int) != 92) = false := by simp [c2]
      rw [if_neg (by simp [c2])] at e1
      clear c2
      by_cases c3 : a1 < t.size
      · have p3 : ¬ (t.size : Int) ≤ (a1 : Int) := by omega
        have r3 : (a1 : Int) < (t.size : Int) := by omega
        have g3 := at_get c3
        rw [if_neg (by omega)] at e1
        obtain ⟨D, hD⟩ : ∃ D, at_ t.data.toList a1 = D := ⟨_, rfl⟩
        rw [hD] at g3 e1
        clear hD
        by_cases c4 : D = 117
        · have e117 : ((D : Int) != 117) = false := by simp [c4]
          rw [if_neg (by simp [c4])] at e1
          clear c4
          obtain ⟨R2, hR2⟩ : ∃ R2, fourAt t.data.toList 4 a2 0 = R2 := ⟨_, rfl⟩
          rw [hR2] at K4 e1
          cases R2 with
          | error m =>
            have hm : m ≠ 0 := fun h => four_no0 _ _ _ _ (by rw [hR2, h])
            have em : ((m : Int) == 0) = false := by simp; omega
            have HR := Lib.hid e1
            clear e1 hR2
            simp only [ans4] at K4
            go_enter Tryd.func56, Tryd.ntmps56
            go_wp2_with fail
            refine (K4.out _).mono ?_
            rintro e w1 ⟨rfl, rfl⟩
            go_wp2_with fail
            go_ret2
            rw [HR.out]
            exact ⟨rfl, rfl⟩
          | ok m =>
            have hm := four_lt _ _ _ _ _ hR2
            simp only at e1
            have hm2 : m < 65536 := by omega
            clear hm hR2
            simp only [ans4] at K4
            by_cases c5 : m < 56320
            · have p5 : (m : Int) < 56320 := by omega
              rw [if_pos (.inl c5)] at e1
              have HR := Lib.hid e1
              clear e1 c5
              go_enter Tryd.func56, Tryd.ntmps56
              go_wp2_with fail
              refine (K4.out _).mono ?_
              rintro e w1 ⟨rfl, rfl⟩
              go_wp2_with fail
              go_ret2
              rw [HR.out]
              exact ⟨rfl, rfl⟩
            · have p5 : ¬ (m : Int) < 56320 := by omega
              by_cases c6 : 57343 < m
              · have p6 : (57343 : Int) < (m : Int) := by omega
                rw [if_pos (.inr c6)] at e1
                have HR := Lib.hid e1
                clear e1 c5 c6
                go_enter Tryd.func56, Tryd.ntmps56
                go_wp2_with fail
                refine (K4.out _).mono ?_
                rintro e w1 ⟨rfl, rfl⟩
                go_wp2_with fail
                go_ret2
                rw [HR.out]
                exact ⟨rfl, rfl⟩
              · have p6 : ¬ (57343 : Int) < (m : Int) := by omega
                rw [if_neg (by omega)] at e1
                have HR := Lib.hid e1
                clear e1 c5 c6
                go_enter Tryd.func56, Tryd.ntmps56
                go_wp2_with fail
                refine (K4.out _).mono ?_
                rintro e w1 ⟨rfl, rfl⟩
                go_wp2_with fail
                go_ret2
                rw [HR.out]
                exact ⟨rfl, rfl⟩
        · have e117 : ((D : Int) != 117) = true := by simp; omega
          rw [if_pos c4] at e1
          have HR := Lib.hid e1
          clear e1 c4
          go_enter Tryd.func56, Tryd.ntmps56
          go_wp2_with fail
          go_ret2
          rw [HR.out]
          exact ⟨rfl, rfl⟩
      · have p3 : (t.size : Int) ≤ (a1 : Int) := by omega
        rw [if_pos (by omega)] at e1
        have HR := Lib.hid e1
        clear e1
        go_enter Tryd.func56, Tryd.ntmps56
        go_wp2_with fail
        go_ret2
        rw [HR.out]
        exact ⟨rfl, rfl⟩
    · have e92 : ((C : Int) != 92) = true := by simp; omega
      rw [if_pos c2] at e1
      have HR := Lib.hid e1
      clear e1 c2
      go_enter Tryd.func56, Tryd.ntmps56
      go_wp2_with fail
      go_ret2
      rw [HR.out]
      exact ⟨rfl, rfl⟩
  · have p1 : (t.size : Int) ≤ (a : Int) := by omega
    rw [if_pos (by omega)] at e1
    have HR := Lib.hid e1
    clear e1
    go_enter Tryd.func56, Tryd.ntmps56
    go_wp2_with fail
    go_ret2
    rw [HR.out]
    exact ⟨rfl, rfl⟩
/-- The letter of a code point; 0: there is none. -/
def smallN (n : Nat) : Nat := (letV n).getD 0
set_option maxRecDepth 100000 in
set_option maxHeartbeats 4000000 in
theorem rsmall_any (n : Nat) (hn : n ≤ 1114111) (w : World) : Calls Tryd.prog 48 #[.int .i64 (n : Int)] w fun e w' => e = .returned (.int .u8 (smallN n : Int)) ∧ w' = w := by
  obtain ⟨R, hR⟩ : ∃ R, smallN n = R := ⟨_, rfl⟩
  rw [hR]
  unfold smallN letV at hR
  have mk : ∀ k : Nat, n ≠ k → ((n : Int) == (k : Int)) = false := fun k h => by simp; omega
  by_cases h1 : n = 34
  · subst h1
    obtain rfl : 34 = R := by simpa using hR
    go_enter Tryd.func48, Tryd.ntmps48
    go_wp2_with fail
    go_ret
    exact ⟨rfl, rfl⟩
  have e1 : ((n : Int) == 34) = false := mk 34 h1
  rw [if_neg h1] at hR
  by_cases h2 : n = 92
  · subst h2
    obtain rfl : 92 = R := by simpa using hR
    go_enter Tryd.func48, Tryd.ntmps48
    go_wp2_with fail
    go_ret
    exact ⟨rfl, rfl⟩
  have e2 : ((n : Int) == 92) = false := mk 92 h2
  rw [if_neg h2] at hR
  by_cases h3 : n = 8
  · subst h3
    obtain rfl : 98 = R := by simpa using hR
    go_enter Tryd.func48, Tryd.ntmps48
    go_wp2_with fail
    go_ret
    exact ⟨rfl, rfl⟩
  have e3 : ((n : Int) == 8) = false := mk 8 h3
  rw [if_neg h3] at hR
  by_cases h4 : n = 9
  · subst h4
    obtain rfl : 116 = R := by simpa using hR
    go_enter Tryd.func48, Tryd.ntmps48
    go_wp2_with fail
    go_ret
    exact ⟨rfl, rfl⟩
  have e4 : ((n : Int) == 9) = false := mk 9 h4
  rw [if_neg h4] at hR
  by_cases h5 : n = 10
  · subst h5
    obtain rfl : 110 = R := by simpa using hR
    go_enter Tryd.func48, Tryd.ntmps48
    go_wp2_with fail
    go_ret
    exact ⟨rfl, rfl⟩
  have e5 : ((n : Int) == 10) = false := mk 10 h5
  rw [if_neg h5] at hR
  by_cases h6 : n = 12
  · subst h6
    obtain rfl : 102 = R := by simpa using hR
    go_enter Tryd.func48, Tryd.ntmps48
    go_wp2_with fail
    go_ret
    exact ⟨rfl, rfl⟩
  have e6 : ((n : Int) == 12) = false := mk 12 h6
  rw [if_neg h6] at hR
  by_cases h7 : n = 13
  · subst h7
    obtain rfl : 114 = R := by simpa using hR
    go_enter Tryd.func48, Tryd.ntmps48
    go_wp2_with fail
    go_ret
    exact ⟨rfl, rfl⟩
  have e7 : ((n : Int) == 13) = false := mk 13 h7
  rw [if_neg h7] at hR
  obtain rfl : 0 = R := by simpa using hR
  clear h1 h2 h3 h4 h5 h6 h7 mk hR
  go_enter Tryd.func48, Tryd.ntmps48
  go_wp2_with fail
  go_ret
  exact ⟨rfl, rfl⟩
end Go.Proofs.YtcadklhjhjbhaaaDoor
