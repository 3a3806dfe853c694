/- The reference's Root (layer 19): its contract. -/
import Derived.Test.YthdbadomppohbaaPriV
namespace Go.Proofs.Ythdbadomppohbaa
set_option maxRecDepth 20000
set_option linter.unusedSimpArgs false
set_option linter.unusedVariables false
open Go.RowKit
theorem eql_arJ (w : World) (x0 x1 x2 x3 y0 y1 y2 y3 : Int) : (Op.equalIn 10000 23 (.agg #[.int .u64 x0, .int .u64 x1, .int .u64 x2, .int .u64 x3]) (.agg #[.int .u64 y0, .int .u64 y1, .int .u64 y2, .int .u64 y3])).run Try.prog w = .ok (x0 == y0 && (x1 == y1 && (x2 == y2 && x3 == y3))) w := by
  have he : ∀ (a b : Int) (w : World), (Op.equalIn 9999 22 (.int .u64 a) (.int .u64 b)).run Try.prog w = .ok (a == b) w := fun a b w => run_equalIn_int w 9998 22 .u64 .u64 a b Try.underlying22
  rw [show (10000 : Nat) = 9999 + 1 from rfl, Op.equalIn]
  simp only [Sem.run_bind, run_underlying Try.underlying23, Result.andThen_ok]
  have hp : ∀ (v : Value) (k : Nat) (xs : Array Value) (w : World), xs[k]? = some v → (part 22 xs k).run Try.prog w = .ok v w := fun v k xs w h => by
    simp only [part]
    go_simp
  have hz : ∀ w, (sizeOf 22).run Try.prog w = .ok 1 w := Try.sizeOf22
  rw [hz]
  simp only [Result.andThen_ok]
  rw [Std.Legacy.Range.forIn_eq_forIn_range']
  simp [Std.Legacy.Range.size, List.range']
  have a0 := fun w => hp (.int .u64 x0) 0 #[.int .u64 x0, .int .u64 x1, .int .u64 x2, .int .u64 x3] w rfl
  have b0 := fun w => hp (.int .u64 y0) 0 #[.int .u64 y0, .int .u64 y1, .int .u64 y2, .int .u64 y3] w rfl
  have a1 := fun w => hp (.int .u64 x1) 1 #[.int .u64 x0, .int .u64 x1, .int .u64 x2, .int .u64 x3] w rfl
  have b1 := fun w => hp (.int .u64 y1) 1 #[.int .u64 y0, .int .u64 y1, .int .u64 y2, .int .u64 y3] w rfl
  have a2 := fun w => hp (.int .u64 x2) 2 #[.int .u64 x0, .int .u64 x1, .int .u64 x2, .int .u64 x3] w rfl
  have b2 := fun w => hp (.int .u64 y2) 2 #[.int .u64 y0, .int .u64 y1, .int .u64 y2, .int .u64 y3] w rfl
  have a3 := fun w => hp (.int .u64 x3) 3 #[.int .u64 x0, .int .u64 x1, .int .u64 x2, .int .u64 x3] w rfl
  have b3 := fun w => hp (.int .u64 y3) 3 #[.int .u64 y0, .int .u64 y1, .int .u64 y2, .int .u64 y3] w rfl
  simp only [a0, b0, a1, b1, a2, b2, a3, b3, he, Result.andThen_ok]
  generalize (x0 == y0) = c0
  generalize (x1 == y1) = c1
  generalize (x2 == y2) = c2
  generalize (x3 == y3) = c3
  cases c0 <;> cases c1 <;> cases c2 <;> cases c3 <;> simp
theorem eql_arR (a b : Nat) (w : World) (ha : a < B64 ^ 4) (hb : b < B64 ^ 4) : (Op.equalIn 10000 23 (.agg #[.int .u64 (wd a 0 : Int), .int .u64 (wd a 1 : Int), .int .u64 (wd a 2 : Int), .int .u64 (wd a 3 : Int)]) (.agg #[.int .u64 (wd b 0 : Int), .int .u64 (wd b 1 : Int), .int .u64 (wd b 2 : Int), .int .u64 (wd b 3 : Int)])).run Try.prog w = .ok (decide (a = b)) w := by
  rw [eql_arJ, wd_same a b ha hb]
theorem odd_wordR (X : Nat) : wd X 0 % 2 = X % 2 := by
  unfold wd
  rw [Nat.pow_zero, Nat.div_one]
  exact Nat.mod_mod_of_dvd X (by decide)
theorem eql_ar2 (a b : Nat) (w : World) (ha : a < B64 ^ 4) (hb : b < B64 ^ 4) : (Op.equalIn 10000 23 (.agg #[.int .u64 (wd a 0 : Int), .int .u64 (wd a 1 : Int), .int .u64 (wd a 2 : Int), .int .u64 (wd a 3 : Int)]) (.agg #[.int .u64 (wd b 0 : Int), .int .u64 (wd b 1 : Int), .int .u64 (wd b 2 : Int), .int .u64 (wd b 3 : Int)])).run Try.prog w = .ok (decide (a = b)) w := eql_arR a b w ha hb
def rokN (a : Nat) : Bool := decide (a ^ E2 % PN = 0) || decide (a ^ E2 % PN = 1)
def rrootN (i a : Nat) : Nat := if rokN a = true then (if r1N i a % 2 = 1 then (0 + PN - r1N i a) % PN else r1N i a) else 0
set_option maxRecDepth 20000 in
set_option maxHeartbeats 4000000 in
theorem rroot_any (a : Nat) (w : World) (ha : a < PN) : Calls Try.prog 49 #[numV a] w fun e w' => e = .returned (.tuple #[numV (rrootN iV a), .bool (rokN a)]) ∧ Below w.heap.size w w' := by
  have HMIX := Lib.hid (show Try.prog.follows .mixedOrders = true by kernel_rfl)
  have KT1 := Lib.hid part_E2
  have KP1 := Lib.hid (fun w => rpow_any a E2 w ha E2_B)
  have KT2 := Lib.hid part_P3
  have KP2 := Lib.hid (fun w => rpow_any a P3 w ha P3_B)
  have KT3 := Lib.hid part_P4
  have KP3 := Lib.hid rpow_iV
  have hx : a ^ E2 % PN < PN := powmod_lt a E2
  have hROK : rokN a = (decide (a ^ E2 % PN = 0) || decide (a ^ E2 % PN = 1)) := rfl
  have HRT : Hid (rrootN iV a = if rokN a = true then (if r1N iV a % 2 = 1 then (0 + PN - r1N iV a) % PN else r1N iV a) else 0) := rfl
  have hr0 := r0N_lt a
  have hr1 := r1N_lt iV a
  have H1 : Hid (r1N iV a = if r0N a * r0N a % PN = a then r0N a else r0N a * iV % PN) := rfl
  have e0 : a ^ P3 % PN = r0N a := rfl
  rw [e0] at KP2
  have hiV := iV_lt
  obtain ⟨X0, hX0⟩ : ∃ X0, a ^ E2 % PN = X0 := ⟨_, rfl⟩
  obtain ⟨r0, hr⟩ : ∃ r0, r0N a = r0 := ⟨_, rfl⟩
  obtain ⟨r1, hq⟩ : ∃ r1, r1N iV a = r1 := ⟨_, rfl⟩
  obtain ⟨i, hi⟩ : ∃ i, iV = i := ⟨_, rfl⟩
  rw [hX0] at KP1 hx hROK
  rw [hr] at KP2 H1 hr0
  rw [hq] at H1 HRT hr1
  rw [hi] at KP3 H1 hiV
  have S0 := Lib.hid (fun w => rsmallp_any 0 w (by decide))
  have S1 := Lib.hid (fun w => rsmallp_any 1 w (by decide))
  have S2 := Lib.hid (fun w => rsmallp_any 2 w (by decide))
  obtain ⟨x0, hx0⟩ : ∃ x0, x0 = 0 := ⟨0, rfl⟩
  obtain ⟨x1, hx1⟩ : ∃ x1, x1 = 1 := ⟨1, rfl⟩
  obtain ⟨x2, hx2⟩ : ∃ x2, x2 = 2 := ⟨2, rfl⟩
  have S0 : Hid (∀ w, Calls Try.prog 40 #[.int .u64 0] w fun e w' => e = .returned (numV x0) ∧ Below w.heap.size w w') := fun w => by rw [hx0]; exact S0.out w
  have S1 : Hid (∀ w, Calls Try.prog 40 #[.int .u64 1] w fun e w' => e = .returned (numV x1) ∧ Below w.heap.size w w') := fun w => by rw [hx1]; exact S1.out w
  have S2 : Hid (∀ w, Calls Try.prog 40 #[.int .u64 2] w fun e w' => e = .returned (numV x2) ∧ Below w.heap.size w w') := fun w => by rw [hx2]; exact S2.out w
  rw [← hx2] at KP3
  have kz0 := fun w => eql_ar2 X0 x0 w (of_PN hx) (by rw [hx0]; decide)
  have kz1 := fun w => eql_ar2 X0 x1 w (of_PN hx) (by rw [hx1]; decide)
  have KS0 : Hid (∀ w, Calls Try.prog 38 #[numV x0, numV r1] w fun e w' => e = .returned (numV ((0 + PN - r1) % PN)) ∧ Below w.heap.size w w') := fun w => by
    rw [hx0]
    exact rsubp_any 0 r1 w (by decide) (of_PN hr1) (by omega)
  have KMs := Lib.hid rmulp_any
  rw [← hx0, ← hx1] at hROK
  obtain ⟨t1, ht1⟩ : ∃ t1, E2 = t1 := ⟨_, rfl⟩
  obtain ⟨t2, ht2⟩ : ∃ t2, P3 = t2 := ⟨_, rfl⟩
  obtain ⟨t3, ht3⟩ : ∃ t3, P4 = t3 := ⟨_, rfl⟩
  rw [ht1] at KT1 KP1
  rw [ht2] at KT2 KP2
  rw [ht3] at KT3 KP3
  have HROK := Lib.hid hROK
  have HLT := Lib.hid (And.intro ha (And.intro hr0 (And.intro hr1 hiV)))
  obtain ⟨xa, xr, xz, xB⟩ := a2_at a 23 23 w
  simp only [numV_agg] at KT1 KP1 KT2 KP2 KT3 KP3 S0 S1 S2 KS0 ⊢
  clear hx e0 hX0 hr hq hi hx0 hx1 hx2 ht1 ht2 ht3 hROK ha hr0 hr1 hiV
  go_enter Try.func49, Try.ntmps49
  go_wp2_with fail
  change Code.wp _ _ _ _ (A2 a 23 23 w)
  generalize A2 a 23 23 w = X at *
  have RA := Lib.hid xa
  have RR := Lib.hid xr
  have RB := Lib.hid xB
  have hXs : w.heap.size + 2 ≤ X.heap.size := by omega
  clear xa xr xz xB
  go_cut [4] (fun s4 wc => ∃ b4, s4 = .pointer (some ⟨b4, 0, none⟩) ∧ IsA wc b4 X0 23 ∧ IsA wc w.heap.size a 23 ∧ IsA wc (w.heap.size + 1) 0 23 ∧ Below w.heap.size w wc)
  case first =>
    clear kz0 kz1
    have hC0 : C4 X w.heap.size a := cells4 RA.out
    have hC : C4 X w.heap.size a := hC0
    have hCd : C4 X.drew w.heap.size a := hC0
    go_region_held3 (fun w' => w'.cell? ⟨w.heap.size, 0, none⟩ = some (.int .u64 (wd a 0 : Int)) ∧ w'.cell? ⟨w.heap.size, 1, none⟩ = some (.int .u64 (wd a 1 : Int)) ∧ w'.cell? ⟨w.heap.size, 2, none⟩ = some (.int .u64 (wd a 2 : Int)) ∧ w'.cell? ⟨w.heap.size, 3, none⟩ = some (.int .u64 (wd a 3 : Int))) (first | (with_reducible exact hCd) | (focus ((repeat (first | (with_reducible assumption) | (with_reducible apply C4.alloc) | (with_reducible apply C4.drew) | (with_reducible apply C4.far) | (with_reducible apply C4.calls) | exact Nat.le_refl _ | omega | (simp; done))); done))) (first
      | (go_at_call 72; go_must (refine (KT1.out _).mono ?_); rintro e w3 ⟨rfl, hb3⟩
         have hs3 := hb3.size
         (try simp at hs3)
         try (have N3 : w3.heap[X.heap.size]? = some (.cells #[.int .u64 0, .int .u64 0, .int .u64 0, .int .u64 0] 23 (0, 0)) := by
                refine keep ?_ hb3
                exact alloc_new X _
              obtain ⟨⟨c0, c1, c2, c3⟩, cf0, cf1, cf2, cf3⟩ := fourV N3))
      | (go_at_call 71; go_must (refine (KP1.out _).mono ?_); rintro e w4 ⟨rfl, hb4⟩
         have hs4 := hb4.size
         (try simp at hs4)
         try (have N4 : w4.heap[X.heap.size]? = some (.cells #[.int .u64 0, .int .u64 0, .int .u64 0, .int .u64 0] 23 (0, 0)) := keep N3 hb4
              obtain ⟨⟨g0, g1, g2, g3⟩, gf0, gf1, gf2, gf3⟩ := fourV N4)
         try (have O4 : w4.heap[w3.heap.size]? = some (.cells #[.int .u64 0, .int .u64 0, .int .u64 0, .int .u64 0] 23 (0, 0)) := by
                refine keep ?_ hb4
                exact alloc_new w3 _
              obtain ⟨⟨k0, k1, k2, k3⟩, kf0, kf1, kf2, kf3⟩ := fourV O4)))
    all_goals
      rename_i hH
      clear hH
      have xA := RA.out
      have xR := RR.out
      have xW := RB.out
      go_wp2_with fail
      go_meet
      case rel =>
        refine ⟨_, rfl, ?_, ?_, ?_, ?_⟩
        all_goals
          (focus ((repeat (first | (with_reducible assumption) | (with_reducible apply isA_set) | (with_reducible exact isA_new _ _ _) | (with_reducible exact isA_a4 _ _ _ _) | (with_reducible exact isA_a2 _ _ _ _) | (with_reducible exact isA_a1 _ _ _ _) | (with_reducible apply IsA.far) | (with_reducible apply IsA.alloc) | (with_reducible apply IsA.drew) | (with_reducible apply isA_calls) | (with_reducible apply b_set4) | (with_reducible apply b_alloc) | (with_reducible apply b_drew) | (with_reducible apply b_callsS) | (with_reducible exact alloc_new _ _) | (with_reducible apply alloc_keep) | (with_reducible apply far_keep) | exact Nat.le_refl _ | omega | (simp; done) | (simp; omega))); done))

  case rest =>
    obtain ⟨b4, rfl, r4, ra, rr, rb⟩ := hcut
    clear RA RR RB hXs KT1 KP1
    obtain ⟨⟨p0, p1, p2, p3⟩, _⟩ := fourV r4
    have D0 := fun d os => cell_regrown p0 d os
    have D1 := fun d os => cell_regrown p1 d os
    have D2 := fun d os => cell_regrown p2 d os
    have D3 := fun d os => cell_regrown p3 d os
    have RA := Lib.hid ra
    have RR := Lib.hid rr
    have RB := Lib.hid rb
    clear p0 p1 p2 p3 r4 ra rr rb
    go_wp2_with fail
    go_cut [16] (fun s16 wd' => s16 = .bool (!(rokN a)) ∧ IsA wd' w.heap.size a 23 ∧ IsA wd' (w.heap.size + 1) 0 23 ∧ Below w.heap.size w wd')
    case first =>
      by_cases g0 : X0 = x0
      · have d0 : decide (X0 = x0) = true := decide_eq_true g0
        have kz0' := fun w => (kz0 w).trans (by rw [d0])
        clear kz0 kz1 g0
        refine wp_region_quiet_below HMIX.out (by kernel_rfl) ?_
        repeat (go_big_quiet_step (first
          | (go_at_call_of 40 (Value.int .u64 0); exact Calls.regrown_of (S0.out _))
          | (go_at_call_of 40 (Value.int .u64 1); exact Calls.regrown_of (S1.out _))))
        refine wpQuiet_nil ?_
        intro _ hw'
        obtain ⟨⟨nq1, os1⟩, hw''⟩ := hw'
        subst hw''
        go_wp2_with fail
        go_meet
        case rel => exact ⟨by rw [HROK.out, d0]; rfl, isA_calls (below_regrown wc nq1 os1) RA.out (Nat.le_refl _), isA_calls (below_regrown wc nq1 os1) RR.out (Nat.le_refl _), b_callsS (below_regrown wc nq1 os1) RB.out (Nat.le_refl _)⟩

      · have d0 : decide (X0 = x0) = false := decide_eq_false g0
        have kz0' := fun w => (kz0 w).trans (by rw [d0])
        clear kz0 g0
        by_cases g1 : X0 = x1
        · have d1 : decide (X0 = x1) = true := decide_eq_true g1
          have kz1' := fun w => (kz1 w).trans (by rw [d1])
          clear kz1 g1
          refine wp_region_quiet_below HMIX.out (by kernel_rfl) ?_
          repeat (go_big_quiet_step (first
            | (go_at_call_of 40 (Value.int .u64 0); exact Calls.regrown_of (S0.out _))
            | (go_at_call_of 40 (Value.int .u64 1); exact Calls.regrown_of (S1.out _))))
          refine wpQuiet_nil ?_
          intro _ hw'
          obtain ⟨⟨nq1, os1⟩, hw''⟩ := hw'
          subst hw''
          go_wp2_with fail
          go_meet
          case rel => exact ⟨by rw [HROK.out, d0, d1]; rfl, isA_calls (below_regrown wc nq1 os1) RA.out (Nat.le_refl _), isA_calls (below_regrown wc nq1 os1) RR.out (Nat.le_refl _), b_callsS (below_regrown wc nq1 os1) RB.out (Nat.le_refl _)⟩

        · have d1 : decide (X0 = x1) = false := decide_eq_false g1
          have kz1' := fun w => (kz1 w).trans (by rw [d1])
          clear kz1 g1
          refine wp_region_quiet_below HMIX.out (by kernel_rfl) ?_
          repeat (go_big_quiet_step (first
            | (go_at_call_of 40 (Value.int .u64 0); exact Calls.regrown_of (S0.out _))
            | (go_at_call_of 40 (Value.int .u64 1); exact Calls.regrown_of (S1.out _))))
          refine wpQuiet_nil ?_
          intro _ hw'
          obtain ⟨⟨nq1, os1⟩, hw''⟩ := hw'
          subst hw''
          go_wp2_with fail
          go_meet
          case rel => exact ⟨by rw [HROK.out, d0, d1]; rfl, isA_calls (below_regrown wc nq1 os1) RA.out (Nat.le_refl _), isA_calls (below_regrown wc nq1 os1) RR.out (Nat.le_refl _), b_callsS (below_regrown wc nq1 os1) RB.out (Nat.le_refl _)⟩

    case rest =>
      obtain ⟨rfl, ra, rr, rb⟩ := hcut
      clear RA RR RB D0 D1 D2 D3 kz0 kz1 S1 HROK
      by_cases hok : rokN a = true
      · rw [hok]
        have HOK := Lib.hid hok
        have RA := Lib.hid ra
        have RR := Lib.hid rr
        have RB := Lib.hid rb
        have hXs : w.heap.size + 1 < wc.heap.size := lt_blk rr
        clear hok ra rr rb
        go_wp2_with fail
        go_cut [5] (fun s5 wc => ∃ b5, s5 = .pointer (some ⟨b5, 0, none⟩) ∧ IsA wc b5 r0 23 ∧ IsA wc w.heap.size a 23 ∧ IsA wc (w.heap.size + 1) 0 23 ∧ w.heap.size + 1 < b5 ∧ Below w.heap.size w wc)
        case first =>
          have hC0 : C4 wc w.heap.size a := cells4 RA.out
          have hC : C4 wc w.heap.size a := hC0
          have hCd : C4 wc.drew w.heap.size a := hC0
          go_region_held3 (fun w' => w'.cell? ⟨w.heap.size, 0, none⟩ = some (.int .u64 (wd a 0 : Int)) ∧ w'.cell? ⟨w.heap.size, 1, none⟩ = some (.int .u64 (wd a 1 : Int)) ∧ w'.cell? ⟨w.heap.size, 2, none⟩ = some (.int .u64 (wd a 2 : Int)) ∧ w'.cell? ⟨w.heap.size, 3, none⟩ = some (.int .u64 (wd a 3 : Int))) (first | (with_reducible exact hCd) | (focus ((repeat (first | (with_reducible assumption) | (with_reducible apply C4.alloc) | (with_reducible apply C4.drew) | (with_reducible apply C4.far) | (with_reducible apply C4.calls) | exact Nat.le_refl _ | omega | (simp; done))); done))) (first
            | (go_at_call 72; go_must (refine (KT2.out _).mono ?_); rintro e w3 ⟨rfl, hb3⟩
               have hs3 := hb3.size
               (try simp at hs3)
               try (have N3 : w3.heap[wc.heap.size]? = some (.cells #[.int .u64 0, .int .u64 0, .int .u64 0, .int .u64 0] 23 (0, 0)) := by
                      refine keep ?_ hb3
                      exact alloc_new wc _
                    obtain ⟨⟨c0, c1, c2, c3⟩, cf0, cf1, cf2, cf3⟩ := fourV N3))
            | (go_at_call 71; go_must (refine (KP2.out _).mono ?_); rintro e w4 ⟨rfl, hb4⟩
               have hs4 := hb4.size
               (try simp at hs4)
               try (have N4 : w4.heap[wc.heap.size]? = some (.cells #[.int .u64 0, .int .u64 0, .int .u64 0, .int .u64 0] 23 (0, 0)) := keep N3 hb4
                    obtain ⟨⟨g0, g1, g2, g3⟩, gf0, gf1, gf2, gf3⟩ := fourV N4)
               try (have O4 : w4.heap[w3.heap.size]? = some (.cells #[.int .u64 0, .int .u64 0, .int .u64 0, .int .u64 0] 23 (0, 0)) := by
                      refine keep ?_ hb4
                      exact alloc_new w3 _
                    obtain ⟨⟨k0, k1, k2, k3⟩, kf0, kf1, kf2, kf3⟩ := fourV O4)))
          all_goals
            rename_i hH
            clear hH
            have xA := RA.out
            have xR := RR.out
            have xW := RB.out
            go_wp2_with fail
            go_meet
            case rel =>
              refine ⟨_, rfl, ?_, ?_, ?_, ?_, ?_⟩
              all_goals
                (focus ((repeat (first | (with_reducible assumption) | (with_reducible apply isA_set) | (with_reducible exact isA_new _ _ _) | (with_reducible exact isA_a4 _ _ _ _) | (with_reducible exact isA_a2 _ _ _ _) | (with_reducible exact isA_a1 _ _ _ _) | (with_reducible apply IsA.far) | (with_reducible apply IsA.alloc) | (with_reducible apply IsA.drew) | (with_reducible apply isA_calls) | (with_reducible apply b_set4) | (with_reducible apply b_alloc) | (with_reducible apply b_drew) | (with_reducible apply b_callsS) | (with_reducible exact alloc_new _ _) | (with_reducible apply alloc_keep) | (with_reducible apply far_keep) | exact Nat.le_refl _ | omega | (simp; done) | (simp; omega))); done))

        case rest =>
          obtain ⟨b5, rfl, r5, ra, rr, hb5, rb⟩ := hcut
          clear RA RR RB KT2 KP2 hXs
          obtain ⟨⟨p0, p1, p2, p3⟩, _⟩ := fourV r5
          obtain ⟨⟨q0, q1, q2, q3⟩, _⟩ := fourV ra
          have D0 := fun d os => cell_regrown p0 d os
          have D1 := fun d os => cell_regrown p1 d os
          have D2 := fun d os => cell_regrown p2 d os
          have D3 := fun d os => cell_regrown p3 d os
          have F0 := fun d os => cell_regrown q0 d os
          have F1 := fun d os => cell_regrown q1 d os
          have F2 := fun d os => cell_regrown q2 d os
          have F3 := fun d os => cell_regrown q3 d os
          have R5 := Lib.hid r5
          have RA := Lib.hid ra
          have RR := Lib.hid rr
          have RB := Lib.hid rb
          clear p0 p1 p2 p3 q0 q1 q2 q3 r5 ra rr rb
          have KMM := Lib.hid (fun w => KMs.out r0 r0 w (of_PN HLT.out.2.1) (of_PN HLT.out.2.1))
          have hq0 : r0 * r0 % PN < PN := Nat.mod_lt _ PN_pos
          obtain ⟨q0, hq0'⟩ : ∃ q0, r0 * r0 % PN = q0 := ⟨_, rfl⟩
          rw [hq0'] at KMM H1 hq0
          have kq := fun w => eql_ar2 q0 a w (of_PN hq0) (of_PN HLT.out.1)
          simp only [numV_agg] at KMM
          clear hq0 hq0'
          go_wp2_with fail
          refine wp_region_quiet_below HMIX.out (by kernel_rfl) ?_
          repeat (go_big_quiet_step (first
            | (go_at_call 37; exact Calls.regrown_of (KMM.out _))))
          refine wpQuiet_nil ?_
          intro _ hw'
          obtain ⟨⟨nq1, os1⟩, hw''⟩ := hw'
          subst hw''
          have r5 := isA_calls (below_regrown wc nq1 os1) R5.out (Nat.le_refl _)
          have RR' := Lib.hid (isA_calls (below_regrown wc nq1 os1) RR.out (Nat.le_refl _))
          have RB' := Lib.hid (b_callsS (below_regrown wc nq1 os1) RB.out (Nat.le_refl _))
          clear D0 D1 D2 D3 F0 F1 F2 F3 kq KMM R5 RA RR RB
          generalize Sort.grow (redrawn wc nq1) os1 = V at *
          by_cases h0 : q0 = a
          · rw [decide_eq_true h0]
            have hr1 := H1.out
            rw [if_pos h0] at hr1
            subst hr1
            have RO := Lib.hid r5
            have RR := RR'
            have RB := RB'
            clear r5 RR' RB' h0 H1
            generalize V = U at *
            obtain ⟨⟨s0, s1, s2, s3⟩, _⟩ := fourV RO.out
            have hbU := RB.out.size
            have hlU := lt_blk RO.out
            have hrU := lt_blk RR.out
            have hod := odd_wordR r1
            by_cases h2 : r1 % 2 = 1
            · have o1 : (((wd r1 0 : Int) % 2) == 1) = true := by
                have : (wd r1 0 : Int) % 2 = 1 := by omega
                rw [this]; rfl
              have o2 : ((Int.tmod (wd r1 0 : Int) 2) == 1) = true := by
                rw [Int.tmod_eq_emod_of_nonneg (by omega)]
                exact o1
              have o3 : (wd r1 0 : Int) % 2 = 1 := by omega
              have hR := HRT.out
              rw [if_pos HOK.out, if_pos h2] at hR
              obtain ⟨R, hRR⟩ : ∃ R, (0 + PN - r1) % PN = R := ⟨_, rfl⟩
              have KSR : Hid (∀ w, Calls Try.prog 38 #[.agg #[.int .u64 (wd x0 0 : Int), .int .u64 (wd x0 1 : Int), .int .u64 (wd x0 2 : Int), .int .u64 (wd x0 3 : Int)], .agg #[.int .u64 (wd r1 0 : Int), .int .u64 (wd r1 1 : Int), .int .u64 (wd r1 2 : Int), .int .u64 (wd r1 3 : Int)]] w fun e w' => e = .returned (.agg #[.int .u64 (wd R 0 : Int), .int .u64 (wd R 1 : Int), .int .u64 (wd R 2 : Int), .int .u64 (wd R 3 : Int)]) ∧ Below w.heap.size w w') := fun w => by
                have h := KS0.out w
                rw [hRR] at h
                exact h
              rw [hRR] at hR
              have HR := Lib.hid hR
              clear hod h2 hR hRR
              go_wp2_with fail
              obtain ⟨⟨p0, p1, p2, p3⟩, g0, g1, g2, g3⟩ := fourV RO.out
              go_region_law (first
                | (go_simp; go_at_call 40; go_must (refine (S0.out _).mono ?_); rintro e w7 ⟨rfl, hb7⟩
                   have ro7 := isA_calls hb7 RO.out.drew (Nat.le_refl _)
                   obtain ⟨⟨k0, k1, k2, k3⟩, f0, f1, f2, f3⟩ := fourV ro7)
                | (go_simp; go_at_call 38; go_must (refine (KSR.out _).mono ?_); rintro e w8 ⟨rfl, hb8⟩
                   have ro8 := isA_calls hb8 ro7 (Nat.le_refl _)
                   obtain ⟨⟨m0, m1, m2, m3⟩, h0, h1, h2, h3⟩ := fourV ro8))
              all_goals
                have hz7 : U.heap.size ≤ w7.heap.size := hb7.size
                have hz8 := hb8.size
                have ro9 := isA_set (n := R) ro8
                have rr9 := isA_zero' ((isA_calls hb8 (isA_calls hb7 RR.out.drew (Nat.le_refl _)) (Nat.le_refl _)).far (c := b5) (v0 := .int .u64 (wd R 0 : Int)) (v1 := .int .u64 (wd R 1 : Int)) (v2 := .int .u64 (wd R 2 : Int)) (v3 := .int .u64 (wd R 3 : Int)) (by omega))
                have rb9 := b_set4 (b_callsS hb8 (b_callsS hb7 (b_drew RB.out) (Nat.le_refl _)) (Nat.le_refl _)) (v0 := .int .u64 (wd R 0 : Int)) (v1 := .int .u64 (wd R 1 : Int)) (v2 := .int .u64 (wd R 2 : Int)) (v3 := .int .u64 (wd R 3 : Int)) (b := b5) (by omega)
                clear RO RR RB hb7 hb8 ro7 ro8 p0 p1 p2 p3 g0 g1 g2 g3 k0 k1 k2 k3 f0 f1 f2 f3 m0 m1 m2 m3 h0 h1 h2 h3 s0 s1 s2 s3
                generalize (((w8.setCell ⟨b5, 0, none⟩ (.int .u64 (wd R 0 : Int))).setCell ⟨b5, 1, none⟩ (.int .u64 (wd R 1 : Int))).setCell ⟨b5, 2, none⟩ (.int .u64 (wd R 2 : Int))).setCell ⟨b5, 3, none⟩ (.int .u64 (wd R 3 : Int)) = Y9 at *
                obtain ⟨⟨p0, p1, p2, p3⟩, _⟩ := fourV ro9
                obtain ⟨⟨d0, d1, d2, d3⟩, e0, e1, e2, e3⟩ := fourV rr9
                have KLd := Lib.hid (load_arr (isA_set (n := R) rr9))
                have BR := Lib.hid (b_set4 rb9 (v0 := .int .u64 (wd R 0 : Int)) (v1 := .int .u64 (wd R 1 : Int)) (v2 := .int .u64 (wd R 2 : Int)) (v3 := .int .u64 (wd R 3 : Int)) (b := w.heap.size + 1) (by omega))
                clear ro9 rr9 rb9
                go_wp2_with fail
                exact bodyPost_ret (results_arr_tmp Try.results49 (by rfl) (by rfl) KLd.out) rfl ⟨by rw [HR.out, HOK.out]; rfl, BR.out⟩
            · have o3 : (wd r1 0 : Int) % 2 = 0 := by omega
              have o1 : (((wd r1 0 : Int) % 2) == 1) = false := by rw [o3]; rfl
              have o2 : ((Int.tmod (wd r1 0 : Int) 2) == 1) = false := by
                rw [Int.tmod_eq_emod_of_nonneg (by omega)]
                exact o1
              have hR := HRT.out
              rw [if_pos HOK.out, if_neg h2] at hR
              have HR := Lib.hid hR
              have rr9 := isA_zero' RR.out
              obtain ⟨⟨d0, d1, d2, d3⟩, e0, e1, e2, e3⟩ := fourV rr9
              have KLd := Lib.hid (load_arr (isA_set (n := r1) rr9))
              have BR := Lib.hid (b_set4 RB.out (v0 := .int .u64 (wd r1 0 : Int)) (v1 := .int .u64 (wd r1 1 : Int)) (v2 := .int .u64 (wd r1 2 : Int)) (v3 := .int .u64 (wd r1 3 : Int)) (b := w.heap.size + 1) (by omega))
              clear hod h2 hR rr9 RO RR RB
              go_wp2_with fail
              exact bodyPost_ret (results_arr_tmp Try.results49 (by rfl) (by rfl) KLd.out) rfl ⟨by rw [HR.out, HOK.out]; rfl, BR.out⟩

          · rw [decide_eq_false h0]
            have hr1 := H1.out
            rw [if_neg h0] at hr1
            have KMR := Lib.hid (fun w => KMs.out r0 i w (of_PN HLT.out.2.1) (of_PN HLT.out.2.2.2))
            rw [← hr1] at KMR
            simp only [numV_agg] at KMR
            have RO := Lib.hid r5
            have RR := RR'
            have RB := RB'
            have hbV := RB'.out.size
            obtain ⟨⟨p0, p1, p2, p3⟩, g0, g1, g2, g3⟩ := fourV r5
            clear r5 RR' RB' h0 H1 hr1
            go_wp2_with fail
            go_cut [] (fun wc => IsA wc b5 r1 23 ∧ IsA wc (w.heap.size + 1) 0 23 ∧ Below w.heap.size w wc)
            case first =>
              go_region_law (first
                | (go_simp; go_at_call 40; go_must (refine (S2.out _).mono ?_); rintro e w4 ⟨rfl, hb4⟩
                   have ro4 := isA_calls hb4 RO.out.drew (Nat.le_refl _)
                   obtain ⟨⟨k0, k1, k2, k3⟩, f0, f1, f2, f3⟩ := fourV ro4)
                | (go_simp; go_at_call 72; go_must (refine (KT3.out _).mono ?_); rintro e w5 ⟨rfl, hb5'⟩
                   have ro5 := isA_calls hb5' ro4 (Nat.le_refl _)
                   obtain ⟨⟨m0, m1, m2, m3⟩, h0, h1, h2, h3⟩ := fourV ro5)
                | (go_simp; go_at_call 71; go_must (refine (KP3.out _).mono ?_); rintro e w6 ⟨rfl, hb6⟩
                   have ro6 := isA_calls hb6 ro5 (Nat.le_refl _)
                   obtain ⟨⟨n0, n1, n2, n3⟩, o0, o1, o2, o3⟩ := fourV ro6)
                | (go_simp; go_at_call 37; go_must (refine (KMR.out _).mono ?_); rintro e w7 ⟨rfl, hb7⟩
                   have ro7 := isA_calls hb7 ro6 (Nat.le_refl _)
                   obtain ⟨⟨z0, z1, z2, z3⟩, y0, y1, y2, y3⟩ := fourV ro7))
              all_goals
                have hb47 := b_callsS hb7 (b_callsS hb6 (b_callsS hb5' hb4 (Nat.le_refl _)) (Nat.le_refl _)) (Nat.le_refl _)
                have RO' := Lib.hid (isA_set (n := r1) ro7)
                have RR' := Lib.hid ((isA_calls hb47 RR.out.drew (Nat.le_refl _)).far (c := b5) (v0 := .int .u64 (wd r1 0 : Int)) (v1 := .int .u64 (wd r1 1 : Int)) (v2 := .int .u64 (wd r1 2 : Int)) (v3 := .int .u64 (wd r1 3 : Int)) (by omega))
                have RB' := Lib.hid (b_set4 (b_callsS hb47 (b_drew RB.out) (Nat.le_refl _)) (v0 := .int .u64 (wd r1 0 : Int)) (v1 := .int .u64 (wd r1 1 : Int)) (v2 := .int .u64 (wd r1 2 : Int)) (v3 := .int .u64 (wd r1 3 : Int)) (b := b5) (by omega))
                go_wp2_with fail
                go_meet
                case rel => exact ⟨RO'.out, RR'.out, RB'.out⟩
            case rest =>
              clear RO RR RB p0 p1 p2 p3 g0 g1 g2 g3 KMR KT3 KP3 S2
              obtain ⟨ro, rr, rb⟩ := hcut
              have RO := Lib.hid ro
              have RR := Lib.hid rr
              have RB := Lib.hid rb
              clear ro rr rb
              generalize wc = U at *
              obtain ⟨⟨s0, s1, s2, s3⟩, _⟩ := fourV RO.out
              have hbU := RB.out.size
              have hlU := lt_blk RO.out
              have hrU := lt_blk RR.out
              have hod := odd_wordR r1
              by_cases h2 : r1 % 2 = 1
              · have o1 : (((wd r1 0 : Int) % 2) == 1) = true := by
                  have : (wd r1 0 : Int) % 2 = 1 := by omega
                  rw [this]; rfl
                have o2 : ((Int.tmod (wd r1 0 : Int) 2) == 1) = true := by
                  rw [Int.tmod_eq_emod_of_nonneg (by omega)]
                  exact o1
                have o3 : (wd r1 0 : Int) % 2 = 1 := by omega
                have hR := HRT.out
                rw [if_pos HOK.out, if_pos h2] at hR
                obtain ⟨R, hRR⟩ : ∃ R, (0 + PN - r1) % PN = R := ⟨_, rfl⟩
                have KSR : Hid (∀ w, Calls Try.prog 38 #[.agg #[.int .u64 (wd x0 0 : Int), .int .u64 (wd x0 1 : Int), .int .u64 (wd x0 2 : Int), .int .u64 (wd x0 3 : Int)], .agg #[.int .u64 (wd r1 0 : Int), .int .u64 (wd r1 1 : Int), .int .u64 (wd r1 2 : Int), .int .u64 (wd r1 3 : Int)]] w fun e w' => e = .returned (.agg #[.int .u64 (wd R 0 : Int), .int .u64 (wd R 1 : Int), .int .u64 (wd R 2 : Int), .int .u64 (wd R 3 : Int)]) ∧ Below w.heap.size w w') := fun w => by
                  have h := KS0.out w
                  rw [hRR] at h
                  exact h
                rw [hRR] at hR
                have HR := Lib.hid hR
                clear hod h2 hR hRR
                go_wp2_with fail
                obtain ⟨⟨p0, p1, p2, p3⟩, g0, g1, g2, g3⟩ := fourV RO.out
                go_region_law (first
                  | (go_simp; go_at_call 40; go_must (refine (S0.out _).mono ?_); rintro e w7 ⟨rfl, hb7⟩
                     have ro7 := isA_calls hb7 RO.out.drew (Nat.le_refl _)
                     obtain ⟨⟨k0, k1, k2, k3⟩, f0, f1, f2, f3⟩ := fourV ro7)
                  | (go_simp; go_at_call 38; go_must (refine (KSR.out _).mono ?_); rintro e w8 ⟨rfl, hb8⟩
                     have ro8 := isA_calls hb8 ro7 (Nat.le_refl _)
                     obtain ⟨⟨m0, m1, m2, m3⟩, h0, h1, h2, h3⟩ := fourV ro8))
                all_goals
                  have hz7 : U.heap.size ≤ w7.heap.size := hb7.size
                  have hz8 := hb8.size
                  have ro9 := isA_set (n := R) ro8
                  have rr9 := isA_zero' ((isA_calls hb8 (isA_calls hb7 RR.out.drew (Nat.le_refl _)) (Nat.le_refl _)).far (c := b5) (v0 := .int .u64 (wd R 0 : Int)) (v1 := .int .u64 (wd R 1 : Int)) (v2 := .int .u64 (wd R 2 : Int)) (v3 := .int .u64 (wd R 3 : Int)) (by omega))
                  have rb9 := b_set4 (b_callsS hb8 (b_callsS hb7 (b_drew RB.out) (Nat.le_refl _)) (Nat.le_refl _)) (v0 := .int .u64 (wd R 0 : Int)) (v1 := .int .u64 (wd R 1 : Int)) (v2 := .int .u64 (wd R 2 : Int)) (v3 := .int .u64 (wd R 3 : Int)) (b := b5) (by omega)
                  clear RO RR RB hb7 hb8 ro7 ro8 p0 p1 p2 p3 g0 g1 g2 g3 k0 k1 k2 k3 f0 f1 f2 f3 m0 m1 m2 m3 h0 h1 h2 h3 s0 s1 s2 s3
                  generalize (((w8.setCell ⟨b5, 0, none⟩ (.int .u64 (wd R 0 : Int))).setCell ⟨b5, 1, none⟩ (.int .u64 (wd R 1 : Int))).setCell ⟨b5, 2, none⟩ (.int .u64 (wd R 2 : Int))).setCell ⟨b5, 3, none⟩ (.int .u64 (wd R 3 : Int)) = Y9 at *
                  obtain ⟨⟨p0, p1, p2, p3⟩, _⟩ := fourV ro9
                  obtain ⟨⟨d0, d1, d2, d3⟩, e0, e1, e2, e3⟩ := fourV rr9
                  have KLd := Lib.hid (load_arr (isA_set (n := R) rr9))
                  have BR := Lib.hid (b_set4 rb9 (v0 := .int .u64 (wd R 0 : Int)) (v1 := .int .u64 (wd R 1 : Int)) (v2 := .int .u64 (wd R 2 : Int)) (v3 := .int .u64 (wd R 3 : Int)) (b := w.heap.size + 1) (by omega))
                  clear ro9 rr9 rb9
                  go_wp2_with fail
                  exact bodyPost_ret (results_arr_tmp Try.results49 (by rfl) (by rfl) KLd.out) rfl ⟨by rw [HR.out, HOK.out]; rfl, BR.out⟩
              · have o3 : (wd r1 0 : Int) % 2 = 0 := by omega
                have o1 : (((wd r1 0 : Int) % 2) == 1) = false := by rw [o3]; rfl
                have o2 : ((Int.tmod (wd r1 0 : Int) 2) == 1) = false := by
                  rw [Int.tmod_eq_emod_of_nonneg (by omega)]
                  exact o1
                have hR := HRT.out
                rw [if_pos HOK.out, if_neg h2] at hR
                have HR := Lib.hid hR
                have rr9 := isA_zero' RR.out
                obtain ⟨⟨d0, d1, d2, d3⟩, e0, e1, e2, e3⟩ := fourV rr9
                have KLd := Lib.hid (load_arr (isA_set (n := r1) rr9))
                have BR := Lib.hid (b_set4 RB.out (v0 := .int .u64 (wd r1 0 : Int)) (v1 := .int .u64 (wd r1 1 : Int)) (v2 := .int .u64 (wd r1 2 : Int)) (v3 := .int .u64 (wd r1 3 : Int)) (b := w.heap.size + 1) (by omega))
                clear hod h2 hR rr9 RO RR RB
                go_wp2_with fail
                exact bodyPost_ret (results_arr_tmp Try.results49 (by rfl) (by rfl) KLd.out) rfl ⟨by rw [HR.out, HOK.out]; rfl, BR.out⟩

      · have hok' : rokN a = false := by simpa using hok
        rw [hok']
        have hR := HRT.out
        rw [if_neg hok] at hR
        have HR := Lib.hid (And.intro hR hok')
        have rr9 := isA_zero' rr
        obtain ⟨⟨d0, d1, d2, d3⟩, e0, e1, e2, e3⟩ := fourV rr9
        have hbU := rb.size
        have KLd := Lib.hid (load_arr (isA_zero (set4_row (v0 := .int .u64 0) (v1 := .int .u64 0) (v2 := .int .u64 0) (v3 := .int .u64 0) rr9)))
        have BR := Lib.hid (b_set4 rb (v0 := .int .u64 0) (v1 := .int .u64 0) (v2 := .int .u64 0) (v3 := .int .u64 0) (b := w.heap.size + 1) (by omega))
        clear hok hok' hR rr9 ra rr rb
        go_wp2_with fail
        exact bodyPost_ret (results_arr_tmp Try.results49 (by rfl) (by rfl) KLd.out) rfl ⟨by rw [HR.out.1, HR.out.2]; rfl, BR.out⟩
end Go.Proofs.Ythdbadomppohbaa
