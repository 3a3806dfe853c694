/- The reference of layer 4: escape. -/
import Derived.Test.YtcadklhjhjbhaaaDoorEscJ
namespace Go.Proofs.YtcadklhjhjbhaaaDoor
set_option maxRecDepth 20000
set_option linter.unusedSimpArgs false
set_option linter.unusedVariables false
open Go.RowKit Go.Lib Go.Shelf
attribute [local go_sem] Oper.semAt_some
theorem let_mean : ∀ (k : Fin 128) (c : Fin 256), c.val ≠ 47 → (letV k.val = some c.val ↔ meanV c.val = some k.val) := by decide +kernel
theorem mean_128 : ∀ {c k : Nat}, meanV c = some k → k < 128 := by
  intro c k h
  unfold meanV at h
  repeat' split at h
  all_goals first | (cases h; omega) | cases h
theorem mean_117 : meanV 117 = none := by decide
theorem small_let {k S : Nat} (h : smallN k = S) : (S ≠ 0 → letV k = some S) ∧ (S = 0 → letV k = none) := by
  unfold smallN at h
  have : ∀ v, letV k = some v → v ≠ 0 := by
    intro v hv
    unfold letV at hv
    repeat' split at hv
    all_goals first | (cases hv; decide) | cases hv
  cases hl : letV k with
  | none => rw [hl] at h; exact ⟨fun hne => absurd h.symm hne, fun _ => rfl⟩
  | some v =>
    rw [hl] at h
    obtain rfl : v = S := h
    exact ⟨fun _ => rfl, fun h0 => absurd h0 (this v hl)⟩
theorem num_pair {L : List UInt8} {a n : Nat} (h : fourAt L 4 a 0 = .ok n) (h1 : ¬ n < 55296) (h2 : ¬ 57343 < n) (h3 : ¬ 56320 ≤ n) :
    numV L a = match pairV L (a + 4) with | .error m => .error m | .ok m => .ok (65536 + 1024 * (n - 55296) + (m - 56320), a + 10) := by
  rw [numV, h]
  simp only
  rw [if_neg (by omega), if_neg h3, pairV]
  by_cases c1 : L.length ≤ a + 4
  · rw [if_pos c1, if_pos c1]
  rw [if_neg c1, if_neg c1]
  by_cases c2 : at_ L (a + 4) ≠ 92
  · rw [if_pos c2, if_pos c2]
  rw [if_neg c2, if_neg c2]
  by_cases c3 : L.length ≤ a + 5
  · rw [if_pos c3, if_pos c3]
  rw [if_neg c3, if_neg c3]
  by_cases c4 : at_ L (a + 5) ≠ 117
  · rw [if_pos c4, if_pos c4]
  rw [if_neg c4, if_neg c4, show a + 4 + 2 = a + 6 from rfl]
  cases fourAt L 4 (a + 6) 0 with
  | error m => rfl
  | ok m =>
    simp only
    split <;> rfl
theorem four_le (L : List UInt8) : ∀ (k a n m : Nat), fourAt L k a n = .ok m → a ≤ L.length → a + k ≤ L.length
  | 0, _, _, _, _, h => h
  | k + 1, a, n, m, h, _ => by
    unfold fourAt at h
    split at h
    · cases h
    · split at h
      · cases h
      · have := four_le L k _ _ _ h (by omega)
        omega
theorem num_le {L : List UInt8} {a n a' : Nat} (h : numV L a = .ok (n, a')) (ha : a ≤ L.length) : a' ≤ L.length := by
  unfold numV at h
  split at h
  · cases h
  · rename_i x hx
    have h0 := four_le L 4 a 0 x hx ha
    split at h
    · cases h; omega
    · split at h
      · cases h
      · split at h
        · cases h
        · split at h
          · cases h
          · split at h
            · cases h
            · split at h
              · cases h
              · split at h
                · cases h
                · rename_i y hy
                  split at h
                  · cases h
                  · have h1 := four_le L 4 (a + 6) 0 y hy (by omega)
                    have := (Prod.mk.inj (Except.ok.inj h)).2
                    omega
theorem esc_le {L : List UInt8} {a n a' : Nat} (h : escV L a = .ok (n, a')) : a' ≤ L.length := by
  unfold escV at h
  split at h
  · cases h
  · split at h
    · exact num_le h (by omega)
    · split at h
      · cases h
      · cases h; omega
def ans3 (a : Nat) : Except Nat (Nat × Nat) → Nat × Nat × Nat
  | .ok (n, a') => (n, a' - a, 0)
  | .error m => (0, 0, m)
def ret3 (x : Nat × Nat × Nat) : Ending := .returned (.tuple #[.int .i64 (x.1 : Int), .int .i64 (x.2.1 : Int), .int .i64 (x.2.2 : Int)])
set_option maxRecDepth 100000 in
set_option maxHeartbeats 8000000 in
theorem rescape_any (t : ByteArray) (a : Nat) (w : World) (ht : t.size ≤ 100000) (ha : a ≤ 100001) :
    Calls Tryd.prog 35 #[.string t, .int .i64 (a : Int)] w fun e w' => e = ret3 (ans3 a (escV t.data.toList a)) ∧ w' = w := by
  obtain ⟨R, hR⟩ : ∃ R, escV t.data.toList a = R := ⟨_, rfl⟩
  rw [hR]
  have e1 : R = if t.size ≤ a then .error 5 else if at_ t.data.toList a = 117 then numV t.data.toList (a + 1) else match meanV (at_ t.data.toList a) with
    | none => .error 11
    | some n => .ok (n, a + 1) := by rw [← hR, escV, len_of]; rfl
  clear hR
  by_cases c1 : a < t.size
  · have p1 : ¬ (t.size : Int) ≤ (a : Int) := by omega
    have r1 : (a : Int) < (t.size : Int) := by omega
    have g1 := at_get c1
    rw [if_neg (by omega)] at e1
    obtain ⟨C, hC⟩ : ∃ C, at_ t.data.toList a = C := ⟨_, rfl⟩
    have hC2 : C < 256 := by rw [← hC]; exact at_lt _ _
    rw [hC] at g1 e1
    clear hC
    by_cases c47 : C = 47
    · subst c47
      rw [if_neg (by decide)] at e1
      have HR := Lib.hid e1
      clear e1
      go_enter Tryd.func35, Tryd.ntmps35
      go_wp2_with fail
      go_ret3
      rw [HR.out]
      have hs : a + 1 - a = 1 := by omega
      refine ⟨?_, rfl⟩
      show _ = ret3 (47, a + 1 - a, 0)
      rw [hs]
      rfl
    · have e47 : ((C : Int) == 47) = false := by simp; omega
      have KS := Lib.hid (fun k hk w => rsmall_any k hk w)
      have E1 := Lib.hid e1
      clear e1
      go_enter Tryd.func35, Tryd.ntmps35
      go_wp2_with fail
      go_loop [8] (fun i => ∃ k : Nat, k ≤ 128 ∧ i = .int .i64 (k : Int) ∧ ∀ j, j < k → letV j ≠ some C) (fun i => 128 - (RowKit.intOf i).toNat)
      case atStart => exact ⟨0, by omega, rfl, fun j hj => by omega⟩
      case round =>
        obtain ⟨k, hk, rfl, hno⟩ := hrel
        by_cases hk1 : k < 128
        · have pk : (k : Int) < 128 := by omega
          have q9 : IntKind.i64.wrap ((k : Int) + 1) = ((k + 1 : Nat) : Int) := by rw [IntWalk.i64_in _ (by omega)]; omega
          have KS2 := KS.out k (by omega)
          obtain ⟨S, hS⟩ : ∃ S, smallN k = S := ⟨_, rfl⟩
          rw [hS] at KS2
          obtain ⟨hS1, hS0⟩ := small_let hS
          have KS3 := Lib.hid KS2
          have HN := Lib.hid hno
          clear KS2 hS hno
          by_cases s0 : S = 0
          · have es : ((S : Int) != 0) = false := by simp [s0]
            have hkn : letV k ≠ some C := by rw [hS0 s0]; simp
            have HK := Lib.hid hkn
            clear hS1 hS0 s0 hkn
            go_wp2_with fail
            refine (KS3.out _).mono ?_
            rintro e w1 ⟨rfl, rfl⟩
            go_wp2_with fail
            go_round
            case rel => exact ⟨k + 1, by omega, rfl, fun j hj => by
              rcases Nat.lt_or_ge j k with h | h
              · exact HN.out j h
              · obtain rfl : j = k := by omega
                exact HK.out⟩
            case measure => simp [RowKit.intOf]; omega
          · have es : ((S : Int) != 0) = true := by simp; omega
            have hl := hS1 s0
            by_cases sc : S = C
            · subst sc
              have es2 : ((S : Int) == (S : Int)) = true := by simp
              have hm : meanV S = some k := (let_mean ⟨k, hk1⟩ ⟨S, hC2⟩ c47).1 hl
              have h117 : S ≠ 117 := fun h => by rw [h, mean_117] at hm; cases hm
              have hRv := E1.out
              rw [if_neg h117, hm] at hRv
              have HR := Lib.hid hRv
              clear hRv E1 hS1 hS0 s0 hl hm h117 HN
              go_wp2_with fail
              refine (KS3.out _).mono ?_
              rintro e w1 ⟨rfl, rfl⟩
              go_wp2_with fail
              refine (KS3.out _).mono ?_
              rintro e w2 ⟨rfl, rfl⟩
              go_wp2_with fail
              go_ret3
              rw [HR.out]
              have hs : a + 1 - a = 1 := by omega
              refine ⟨?_, rfl⟩
              show _ = ret3 (k, a + 1 - a, 0)
              rw [hs]
              rfl
            · have es2 : ((S : Int) == (C : Int)) = false := by simp; omega
              have hkn : letV k ≠ some C := by rw [hl]; intro h; exact sc (Option.some.inj h)
              have HK := Lib.hid hkn
              clear hS1 hS0 s0 hkn hl sc
              go_wp2_with fail
              refine (KS3.out _).mono ?_
              rintro e w1 ⟨rfl, rfl⟩
              go_wp2_with fail
              refine (KS3.out _).mono ?_
              rintro e w2 ⟨rfl, rfl⟩
              go_wp2_with fail
              go_round
              case rel => exact ⟨k + 1, by omega, rfl, fun j hj => by
                rcases Nat.lt_or_ge j k with h | h
                · exact HN.out j h
                · obtain rfl : j = k := by omega
                  exact HK.out⟩
              case measure => simp [RowKit.intOf]; omega
        · obtain rfl : k = 128 := by omega
          have hmn : meanV C = none := by
            cases hm : meanV C with
            | none => rfl
            | some j =>
              have hj := mean_128 hm
              exact absurd ((let_mean ⟨j, hj⟩ ⟨C, hC2⟩ c47).2 hm) (hno j hj)
          have hRv := E1.out
          rw [hmn] at hRv
          clear hno E1 hmn KS
          by_cases c117 : C = 117
          · have e117 : ((C : Int) != 117) = false := by simp [c117]
            rw [if_pos c117] at hRv
            have q1 : IntKind.i64.wrap ((a : Int) + 1) = ((a + 1 : Nat) : Int) := by rw [IntWalk.i64_in _ (by omega)]; omega
            have q5 : IntKind.i64.wrap ((a : Int) + 5) = ((a + 5 : Nat) : Int) := by rw [IntWalk.i64_in _ (by omega)]; omega
            have K4 := Lib.hid (fun w => rfour_any t (a + 1) w ht (by omega))
            have KP := Lib.hid (fun w => rpair_any t (a + 5) w ht (by omega))
            obtain ⟨b, hb⟩ : ∃ b, a + 1 = b := ⟨_, rfl⟩
            obtain ⟨d, hd⟩ : ∃ d, a + 5 = d := ⟨_, rfl⟩
            rw [hb] at q1 K4 hRv
            rw [hd] at q5 KP
            have hbd : b + 4 = d := by omega
            obtain ⟨R2, hR2⟩ : ∃ R2, fourAt t.data.toList 4 b 0 = R2 := ⟨_, rfl⟩
            rw [hR2] at K4
            clear c117
            cases R2 with
            | error m =>
              have hm : m ≠ 0 := fun h => four_no0 _ _ _ _ (by rw [hR2, h])
              have em : ((m : Int) != 0) = true := by simp; omega
              have hRn : numV t.data.toList b = .error m := by unfold numV; rw [hR2]
              have HR := Lib.hid (hRv.trans hRn)
              clear hRv hRn hR2 hb hd hbd
              simp only [ans4] at K4
              go_wp2_with fail
              refine (K4.out _).mono ?_
              rintro e w1 ⟨rfl, rfl⟩
              go_wp2_with fail
              go_ret3
              rw [HR.out]
              exact ⟨rfl, rfl⟩
            | ok n =>
              have hn := four_lt _ _ _ _ _ hR2
              have hn2 : n < 65536 := by omega
              simp only [ans4] at K4
              clear hn
              by_cases c5 : n < 55296
              · have p5 : (n : Int) < 55296 := by omega
                have hRn : numV t.data.toList b = .ok (n, b + 4) := by unfold numV; rw [hR2]; simp only; rw [if_pos (.inl c5)]
                have HR := Lib.hid (hRv.trans hRn)
                have HS := Lib.hid (show b + 4 - a = 5 by omega)
                clear hRv hRn hR2 hb hd hbd c5
                go_wp2_with fail
                refine (K4.out _).mono ?_
                rintro e w1 ⟨rfl, rfl⟩
                go_wp2_with fail
                go_ret3
                rw [HR.out]
                refine ⟨?_, rfl⟩
                show _ = ret3 (n, b + 4 - a, 0)
                rw [HS.out]
                rfl
              · have p5 : ¬ (n : Int) < 55296 := by omega
                by_cases c6 : 57343 < n
                · have p6 : (57343 : Int) < (n : Int) := by omega
                  have hRn : numV t.data.toList b = .ok (n, b + 4) := by unfold numV; rw [hR2]; simp only; rw [if_pos (.inr c6)]
                  have HR := Lib.hid (hRv.trans hRn)
                  have HS := Lib.hid (show b + 4 - a = 5 by omega)
                  clear hRv hRn hR2 hb hd hbd c5 c6
                  go_wp2_with fail
                  refine (K4.out _).mono ?_
                  rintro e w1 ⟨rfl, rfl⟩
                  go_wp2_with fail
                  go_ret3
                  rw [HR.out]
                  refine ⟨?_, rfl⟩
                  show _ = ret3 (n, b + 4 - a, 0)
                  rw [HS.out]
                  rfl
                · have p6 : ¬ (57343 : Int) < (n : Int) := by omega
                  by_cases c7 : 56320 ≤ n
                  · have p7 : (56319 : Int) < (n : Int) := by omega
                    have hRn : numV t.data.toList b = .error 11 := by unfold numV; rw [hR2]; simp only; rw [if_neg (by omega), if_pos c7]
                    have HR := Lib.hid (hRv.trans hRn)
                    clear hRv hRn hR2 hb hd hbd c5 c6 c7
                    go_wp2_with fail
                    refine (K4.out _).mono ?_
                    rintro e w1 ⟨rfl, rfl⟩
                    go_wp2_with fail
                    go_ret3
                    rw [HR.out]
                    exact ⟨rfl, rfl⟩
                  · have p7 : ¬ (56319 : Int) < (n : Int) := by omega
                    have hRn := num_pair hR2 c5 c6 c7
                    rw [hbd] at hRn
                    obtain ⟨R3, hR3⟩ : ∃ R3, pairV t.data.toList d = R3 := ⟨_, rfl⟩
                    rw [hR3] at hRn KP
                    cases R3 with
                    | error m =>
                      have hm : m ≠ 0 := by
                        rintro rfl
                        unfold pairV at hR3
                        repeat' split at hR3
                        all_goals first | (cases hR3; done) | (rename_i h; cases hR3; exact four_no0 _ _ _ _ h)
                      have em : ((m : Int) != 0) = true := by simp; omega
                      have HR := Lib.hid (hRv.trans hRn)
                      clear hRv hRn hR2 hR3 hb hd hbd c5 c6 c7
                      simp only [ans4] at KP
                      go_wp2_with fail
                      refine (K4.out _).mono ?_
                      rintro e w1 ⟨rfl, rfl⟩
                      go_wp2_with fail
                      refine (KP.out _).mono ?_
                      rintro e w2 ⟨rfl, rfl⟩
                      go_wp2_with fail
                      go_ret3
                      rw [HR.out]
                      exact ⟨rfl, rfl⟩
                    | ok m =>
                      have hm3 : 56320 ≤ m ∧ m ≤ 57343 := by
                        unfold pairV at hR3
                        repeat' split at hR3
                        all_goals first | (cases hR3; done) | (cases hR3; omega)
                      simp only at hRn
                      have HR := Lib.hid (hRv.trans hRn)
                      have HS := Lib.hid (show b + 10 - a = 11 by omega)
                      have x1 : IntKind.i64.wrap ((n : Int) - 55296) = ((n - 55296 : Nat) : Int) := by rw [IntWalk.i64_in _ (by omega)]; omega
                      have x2 : IntKind.i64.wrap (1024 * ((n - 55296 : Nat) : Int)) = ((1024 * (n - 55296) : Nat) : Int) := by rw [IntWalk.i64_in _ (by omega)]; omega
                      have x3 : IntKind.i64.wrap (65536 + ((1024 * (n - 55296) : Nat) : Int)) = ((65536 + 1024 * (n - 55296) : Nat) : Int) := by rw [IntWalk.i64_in _ (by omega)]; omega
                      have x4 : IntKind.i64.wrap (((65536 + 1024 * (n - 55296) : Nat) : Int) + (m : Int)) = ((65536 + 1024 * (n - 55296) + m : Nat) : Int) := by rw [IntWalk.i64_in _ (by omega)]; omega
                      have x5 : IntKind.i64.wrap (((65536 + 1024 * (n - 55296) + m : Nat) : Int) - 56320) = ((65536 + 1024 * (n - 55296) + (m - 56320) : Nat) : Int) := by rw [IntWalk.i64_in _ (by omega)]; omega
                      obtain ⟨z1, hz1⟩ : ∃ z, n - 55296 = z := ⟨_, rfl⟩
                      rw [hz1] at x1 x2 x3 x4 x5 HR
                      obtain ⟨z2, hz2⟩ : ∃ z, 1024 * z1 = z := ⟨_, rfl⟩
                      rw [hz2] at x2 x3 x4 x5 HR
                      obtain ⟨z3, hz3⟩ : ∃ z, 65536 + z2 = z := ⟨_, rfl⟩
                      rw [hz3] at x3 x4 x5 HR
                      obtain ⟨z4, hz4⟩ : ∃ z, z3 + m = z := ⟨_, rfl⟩
                      rw [hz4] at x4 x5
                      obtain ⟨z5, hz5⟩ : ∃ z, z3 + (m - 56320) = z := ⟨_, rfl⟩
                      rw [hz5] at x5 HR
                      clear hRv hRn hR2 hR3 hb hd hbd c5 c6 c7 hz1 hz2 hz3 hz4 hz5 hm3
                      simp only [ans4] at KP
                      go_wp2_with fail
                      refine (K4.out _).mono ?_
                      rintro e w1 ⟨rfl, rfl⟩
                      go_wp2_with fail
                      refine (KP.out _).mono ?_
                      rintro e w2 ⟨rfl, rfl⟩
                      go_wp2_with fail
                      go_ret3
                      rw [HR.out]
                      refine ⟨?_, rfl⟩
                      show _ = ret3 (z5, b + 10 - a, 0)
                      rw [HS.out]
                      rfl
          · have e117 : ((C : Int) != 117) = true := by simp; omega
            rw [if_neg c117] at hRv
            have HR := Lib.hid hRv
            clear hRv c117
            go_wp2_with fail
            go_ret3
            rw [HR.out]
            exact ⟨rfl, rfl⟩
  · have p1 : (t.size : Int) ≤ (a : Int) := by omega
    rw [if_pos (by omega)] at e1
    have HR := Lib.hid e1
    clear e1
    go_enter Tryd.func35, Tryd.ntmps35
    go_wp2_with fail
    go_ret3
    rw [HR.out]
    exact ⟨rfl, rfl⟩
end Go.Proofs.YtcadklhjhjbhaaaDoor
