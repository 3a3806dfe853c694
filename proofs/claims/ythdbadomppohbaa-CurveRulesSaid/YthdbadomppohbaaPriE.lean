/- prime.rest (layer 19): its contract. -/
import Derived.Test.YthdbadomppohbaaPriD
namespace Go.Proofs.Ythdbadomppohbaa
set_option maxRecDepth 20000
set_option linter.unusedSimpArgs false
set_option linter.unusedVariables false
open Go.RowKit
set_option maxHeartbeats 8000000 in
theorem prest_any (lo hi : Nat) (w : World) (hl : lo < B64 ^ 4) (hh : hi < B64 ^ 4) : Calls Try.prog 60 #[numV lo, numV hi] w fun e w' => e = .returned (numV ((hi * B64 ^ 4 + lo) % PN)) ∧ Below w.heap.size w w' := by
  have KS := Lib.hid (fun w => small_any 38 w (by decide))
  have KM := Lib.hid (fun w => mul_any hi 38 w hh (by decide +kernel))
  have hm : hi * 38 % B64 ^ 4 < B64 ^ 4 := Nat.mod_lt _ (by decide)
  have hr := rise_lt hi hh
  have KA := Lib.hid (fun w => add_any lo (hi * 38 % B64 ^ 4) w hl hm)
  have hst := rest_start lo hi
  have hov := over_le lo _ hl hm
  have hn : addN lo (hi * 38 % B64 ^ 4) < B64 ^ 4 := Nat.mod_lt _ (by decide)
  obtain ⟨M, hM⟩ : ∃ M, hi * 38 % B64 ^ 4 = M := ⟨_, rfl⟩
  obtain ⟨H, hH⟩ : ∃ H, hi * 38 / B64 ^ 4 = H := ⟨_, rfl⟩
  obtain ⟨T, hT⟩ : ∃ T, (hi * B64 ^ 4 + lo) % PN = T := ⟨_, rfl⟩
  rw [hM] at hst hov hn KA
  rw [hH] at hst hr
  rw [hM, hH] at KM
  rw [hT] at hst ⊢
  obtain ⟨n, hn'⟩ : ∃ n, addN lo M = n := ⟨_, rfl⟩
  obtain ⟨v, hv⟩ : ∃ v, addK lo M = v := ⟨_, rfl⟩
  rw [hn', hv] at KA hst
  rw [hn'] at hn
  rw [hv] at hov
  have hw0 : wd H 0 = H := wd_small H (by omega)
  obtain ⟨xa, xb, xr, xz, xB⟩ := a3_at lo hi 26 w
  obtain ⟨c38, hc38⟩ : ∃ c38, c38 = 38 := ⟨38, rfl⟩
  rw [← hc38] at KM
  have KS : Hid (∀ w, Calls Try.prog 62 #[.int .u64 38] w fun e w' => e = .returned (numV c38) ∧ Below w.heap.size w w') := fun w => by rw [hc38]; exact KS.out w
  simp only [numV_agg] at KS KM KA ⊢
  have HW0 := Lib.hid hw0
  clear hw0
  have HST := Lib.hid (And.intro hst (And.intro hr (And.intro hov hn)))
  clear hM hH hT hn' hv hst hr hov hn hm hl hh hc38
  go_enter Try.func60, Try.ntmps60
  go_wp2_with fail
  change Code.wp _ _ _ _ (A3 lo hi 26 w)
  generalize A3 lo hi 26 w = X at *
  obtain ⟨⟨q0, q1, q2, q3⟩, _⟩ := fourV xb
  have XA := Lib.hid xa
  have XB := Lib.hid xb
  have XR := Lib.hid xr
  have XW := Lib.hid xB
  clear xa xb xr xB
  go_cut [5, 6] (fun s5 s6 wc => ∃ b5 b6, s5 = .pointer (some ⟨b5, 0, none⟩) ∧ s6 = .pointer (some ⟨b6, 0, none⟩) ∧ IsA wc b5 M 26 ∧ IsA wc b6 H 26 ∧ IsA wc w.heap.size lo 26 ∧ IsA wc (w.heap.size + 1 + 1) 0 28 ∧ Below w.heap.size w wc)
  case rest =>
    obtain ⟨b5, b6, rfl, rfl, r5, r6, rl, rr, rb⟩ := hcut
    clear XA XB XR XW q0 q1 q2 q3 xz KS KM
    have hw0 := HW0.out
    have hsz := rb.size
    have l5 := lt_blk r5
    have l6 := lt_blk r6
    obtain ⟨⟨p0, p1, p2, p3⟩, _⟩ := fourV rl
    obtain ⟨⟨m0, m1, m2, m3⟩, _⟩ := fourV r5
    obtain ⟨⟨h0, h1, h2, h3⟩, _⟩ := fourV r6
    have R6 := Lib.hid r6
    have RR := Lib.hid rr
    have RB := Lib.hid rb
    clear r5 r6 rl rr rb
    go_wp2_with fail
    refine (KA.out wc).mono ?_
    rintro e w1 ⟨rfl, hb1⟩
    have hs1 := hb1.size
    have R7 : Hid (IsA (w1.alloc (.cells #[.int .u64 (wd n 0 : Int), .int .u64 (wd n 1 : Int), .int .u64 (wd n 2 : Int), .int .u64 (wd n 3 : Int)] 26)) w1.heap.size n 26) := (alloc_new w1 _ :)
    have r6' := (R6.out.keep hb1).alloc (.cells #[.int .u64 (wd n 0 : Int), .int .u64 (wd n 1 : Int), .int .u64 (wd n 2 : Int), .int .u64 (wd n 3 : Int)] 26)
    have RR7 := Lib.hid ((RR.out.keep hb1).alloc (.cells #[.int .u64 (wd n 0 : Int), .int .u64 (wd n 1 : Int), .int .u64 (wd n 2 : Int), .int .u64 (wd n 3 : Int)] 26))
    have RB7 := Lib.hid (b_alloc (b_calls hb1 RB.out hsz) (.cells #[.int .u64 (wd n 0 : Int), .int .u64 (wd n 1 : Int), .int .u64 (wd n 2 : Int), .int .u64 (wd n 3 : Int)] 26))
    obtain ⟨⟨h0, h1, h2, h3⟩, _⟩ := fourV r6'
    rw [hw0] at h0
    have hst := HST.out
    have hv0 : (0 : Int) ≤ (H : Int) + (v : Int) := by omega
    have hv1 : (H : Int) + (v : Int) < 18446744073709551616 := by omega
    have hvn : (H : Int) + (v : Int) = ((H + v : Nat) : Int) := by omega
    have HVN := Lib.hid hvn
    have ha38 : H + v ≤ 38 := by omega
    have HA38 := Lib.hid ha38
    have hs7 : w.heap.size + 3 ≤ w1.heap.size := by have := lt_blk RR.out; omega
    have l6' : b6 < w1.heap.size := by omega
    clear p0 p1 p2 p3 m0 m1 m2 m3 r6' hb1 hs1 l5 l6 hst hvn ha38 R6 RR RB KA hw0
    go_wp2_with fail
    have hE : (H + v) * B64 ^ 4 + n = (H + v) * B64 ^ 4 + n := rfl
    have hlR : w.heap.size + 1 + 1 < w1.heap.size := by omega
    generalize w1.alloc (.cells #[.int .u64 (wd n 0 : Int), .int .u64 (wd n 1 : Int), .int .u64 (wd n 2 : Int), .int .u64 (wd n 3 : Int)] 26) = Y at *
    clear h0 h1 h2 h3 l6' hE
    generalize w1.heap.size = g7 at *
    have HM := Lib.hid (fun m (hm : m < B64 ^ 4) w => pmod_any m w hm)
    go_loopg [9] ((H + v) * B64 ^ 4 + n) (fun gk s9 wr => ∃ k m : Nat, s9 = .int .u64 (k : Int) ∧ k ≤ 38 ∧ m < B64 ^ 4 ∧ gk = k * B64 ^ 4 + m ∧ gk % PN = T ∧ IsA wr g7 m 26 ∧ IsA wr (w.heap.size + 1 + 1) 0 28 ∧ Below w.heap.size w wr)
    case atStart => exact ⟨H + v, n, by rw [HVN.out], HA38.out, HST.out.2.2.2, rfl, HST.out.1, R7.out, RR7.out, RB7.out⟩
    case round =>
      obtain ⟨k, m, rfl, hk, hm, hg, ht, r7, rr, rb⟩ := hrel
      clear HST HVN HA38 R7 RR7 RB7 HW0 hv0 hv1
      have hl7 := lt_blk r7
      have hlr := lt_blk rr
      have hbs := rb.size
      obtain ⟨⟨p0, p1, p2, p3⟩, g0, g1, g2, g3⟩ := fourV r7
      have X7 := Lib.hid r7
      have XR := Lib.hid rr
      have XB := Lib.hid rb
      have HG := Lib.hid (And.intro hg ht)
      clear r7 rr rb hg ht
      by_cases h0 : k = 0
      · have q1 : ¬ (0 : Int) < (k : Int) := by omega
        have KM := Lib.hid (fun w => HM.out m hm w)
        have hT : m % PN = T := by rw [← HG.out.2, HG.out.1, h0, Nat.zero_mul, Nat.zero_add]
        rw [hT] at KM
        simp only [numV_agg] at KM
        clear h0 HM hT HG hk hm
        go_wp2_with fail
        refine (KM.out wr).mono ?_
        rintro e w2 ⟨rfl, hb2⟩
        have xr := isA_zero' (XR.out.keep hb2)
        obtain ⟨⟨d0, d1, d2, d3⟩, e0, e1, e2, e3⟩ := fourV xr
        have KL := Lib.hid (load_el (isA_set (n := T) xr))
        have BR := Lib.hid (b_set4 (v0 := .int .u64 (wd T 0 : Int)) (v1 := .int .u64 (wd T 1 : Int)) (v2 := .int .u64 (wd T 2 : Int)) (v3 := .int .u64 (wd T 3 : Int)) (b_calls hb2 XB.out hbs) (b := w.heap.size + 1 + 1) (by omega))
        clear xr XR XB X7 hb2 g0 g1 g2 g3 KM p0 p1 p2 p3
        go_wp2_with fail
        exact bodyPost_ret (results_arr Try.results60 (by rfl) KL.out) rfl ⟨rfl, BR.out⟩
      · have q1 : (0 : Int) < (k : Int) := by omega
        have hwr : IntKind.u64.wrap (38 * (k : Int)) = 38 * (k : Int) := IntWalk.u64_in _ (by omega)
        have KS : Hid (∀ w, Calls Try.prog 62 #[.int .u64 (38 * (k : Int))] w fun e w' => e = .returned (numV (38 * k)) ∧ Below w.heap.size w w') := fun w => by
          have h := small_any (38 * k) w (by omega)
          push_cast at h
          exact h
        have KA := Lib.hid (fun w => add_any m (38 * k) w hm (Nat.lt_of_lt_of_le (show 38 * k < 2000 by omega) (by decide +kernel)))
        have hrr := rest_round m k
        have hnk : addK m (38 * k) ≤ 1 := over_le m (38 * k) hm (Nat.lt_of_lt_of_le (show 38 * k < 2000 by omega) (by decide +kernel))
        have hnm : addN m (38 * k) < B64 ^ 4 := Nat.mod_lt _ (by decide)
        obtain ⟨c, hc⟩ : ∃ c, 38 * k = c := ⟨_, rfl⟩
        rw [hc] at KS KA hrr hnk hnm
        obtain ⟨m', hm'⟩ : ∃ m', addN m c = m' := ⟨_, rfl⟩
        obtain ⟨k', hk'⟩ : ∃ k', addK m c = k' := ⟨_, rfl⟩
        rw [hm', hk'] at KA hrr
        rw [hm'] at hnm
        rw [hk'] at hnk
        have HR := Lib.hid (And.intro hrr (And.intro hnk (And.intro hnm hc)))
        have HK := Lib.hid (And.intro h0 hk)
        simp only [numV_agg] at KS KA
        clear HM hrr hnk hnm hc hm' hk' h0 hk hm
        go_wp2_with fail
        go_region_law (first
          | (go_simp; go_at_call 62; go_must (refine (KS.out _).mono ?_); rintro e w3 ⟨rfl, hb3⟩
             have r3 := (show IsA wr.drew _ _ _ from X7.out).keep hb3
             have x3 := (show IsA wr.drew _ _ _ from XR.out).keep hb3
             have B3 := XB.out.drew.trans (hb3.mono XB.out.size)
             obtain ⟨⟨k0, k1, k2, k3⟩, f0, f1, f2, f3⟩ := fourV r3)
          | (go_simp; go_at_call 64; go_must (refine (KA.out _).mono ?_); rintro e w4 ⟨rfl, hb4⟩
             have r4 := r3.keep hb4
             have x4 := x3.keep hb4
             have B4 := B3.trans (hb4.mono B3.size)
             obtain ⟨⟨m0, m1, m2, m3⟩, h0, h1, h2, h3⟩ := fourV r4))
        all_goals
          have RA := Lib.hid (isA_set (n := m') r4)
          have RR := Lib.hid (x4.far (c := g7) (v0 := .int .u64 (wd m' 0 : Int)) (v1 := .int .u64 (wd m' 1 : Int)) (v2 := .int .u64 (wd m' 2 : Int)) (v3 := .int .u64 (wd m' 3 : Int)) (by omega))
          have BR := Lib.hid (b_set4 (v0 := .int .u64 (wd m' 0 : Int)) (v1 := .int .u64 (wd m' 1 : Int)) (v2 := .int .u64 (wd m' 2 : Int)) (v3 := .int .u64 (wd m' 3 : Int)) B4 (b := g7) (by omega))
          clear r3 r4 x3 x4 B3 B4
          go_wp2_with fail
          go_roundg (k' * B64 ^ 4 + m')
          case rel =>
            have h1 := HR.out
            have h2 := HG.out
            refine ⟨k', m', rfl, by omega, h1.2.2.1, rfl, ?_, RA.out, RR.out, BR.out⟩
            rw [h1.1, ← h2.2, h2.1, fold_mod, ← h1.2.2.2, Nat.add_comm]
          case measure =>
            have h1 := HR.out
            have h2 := HG.out
            have h3 := HK.out
            have hB := B4_is
            rw [h1.1, h2.1, hB, ← h1.2.2.2]
            omega
  case first =>
    have hxz : w.heap.size + 3 ≤ X.heap.size := by omega
    clear xz
    have hC0 : C4 X (w.heap.size + 1) hi := ⟨q0, q1, q2, q3⟩
    have hC : C4 X.drew (w.heap.size + 1) hi := ⟨q0, q1, q2, q3⟩
    go_region_held3 (fun w' => w'.cell? ⟨w.heap.size + 1, 0, none⟩ = some (.int .u64 (wd hi 0 : Int)) ∧ w'.cell? ⟨w.heap.size + 1, 1, none⟩ = some (.int .u64 (wd hi 1 : Int)) ∧ w'.cell? ⟨w.heap.size + 1, 2, none⟩ = some (.int .u64 (wd hi 2 : Int)) ∧ w'.cell? ⟨w.heap.size + 1, 3, none⟩ = some (.int .u64 (wd hi 3 : Int))) (first | (with_reducible exact hC) | (focus ((repeat (first | (with_reducible assumption) | (with_reducible apply C4.alloc) | (with_reducible apply C4.drew) | (with_reducible apply C4.far) | (with_reducible apply C4.calls) | exact Nat.le_refl _ | omega | (simp; done))); done))) (first
      | (go_at_call 62; go_must (refine (KS.out _).mono ?_); rintro e w3 ⟨rfl, hb3⟩
         have hs3 := hb3.size
         (try simp at hs3)
         try (have N3 : w3.heap[X.heap.size]? = some (.cells #[.int .u64 0, .int .u64 0, .int .u64 0, .int .u64 0] 26 (0, 0)) := by
                refine keep ?_ hb3
                first
                  | exact alloc_new X _
                  | exact alloc_keep (alloc_new X _) _
              obtain ⟨⟨c0, c1, c2, c3⟩, cf0, cf1, cf2, cf3⟩ := fourV N3)
         try (have M3 : w3.heap[X.heap.size + 1]? = some (.cells #[.int .u64 0, .int .u64 0, .int .u64 0, .int .u64 0] 26 (0, 0)) := by
                refine keep ?_ hb3
                exact alloc_new1 X _ _
              obtain ⟨⟨d0, d1, d2, d3⟩, df0, df1, df2, df3⟩ := fourV M3))
      | (go_at_call 61; go_must (refine (KM.out _).mono ?_); rintro e w4 ⟨rfl, hb4⟩
         have hs4 := hb4.size
         (try simp at hs4)
         try (have N4 : w4.heap[X.heap.size]? = some (.cells #[.int .u64 0, .int .u64 0, .int .u64 0, .int .u64 0] 26 (0, 0)) := by
                refine keep ?_ hb4
                first
                  | exact N3
                  | exact alloc_keep N3 _
              obtain ⟨⟨g0, g1, g2, g3⟩, gf0, gf1, gf2, gf3⟩ := fourV N4
              have ga0 := fun o => (fourV (alloc_keep N4 o)).1.1
              have ga1 := fun o => (fourV (alloc_keep N4 o)).1.2.1
              have ga2 := fun o => (fourV (alloc_keep N4 o)).1.2.2.1
              have ga3 := fun o => (fourV (alloc_keep N4 o)).1.2.2.2
              have gz0 := fun o => (fourV (alloc_keep N4 o)).2.1
              have gz1 := fun o => (fourV (alloc_keep N4 o)).2.2.1
              have gz2 := fun o => (fourV (alloc_keep N4 o)).2.2.2.1
              have gz3 := fun o => (fourV (alloc_keep N4 o)).2.2.2.2)
         try (have M4 : w4.heap[X.heap.size + 1]? = some (.cells #[.int .u64 0, .int .u64 0, .int .u64 0, .int .u64 0] 26 (0, 0)) := keep M3 hb4
              obtain ⟨⟨h0, h1, h2, h3⟩, hf0, hf1, hf2, hf3⟩ := fourV M4)
         try (have O4 : w4.heap[w3.heap.size]? = some (.cells #[.int .u64 0, .int .u64 0, .int .u64 0, .int .u64 0] 26 (0, 0)) := by
                refine keep ?_ hb4
                first
                  | exact alloc_new w3 _
                  | exact alloc_keep (alloc_new w3 _) _
              obtain ⟨⟨k0, k1, k2, k3⟩, kf0, kf1, kf2, kf3⟩ := fourV O4
              have ka0 := fun o => (fourV (alloc_keep O4 o)).1.1
              have ka1 := fun o => (fourV (alloc_keep O4 o)).1.2.1
              have ka2 := fun o => (fourV (alloc_keep O4 o)).1.2.2.1
              have ka3 := fun o => (fourV (alloc_keep O4 o)).1.2.2.2
              have kz0 := fun o => (fourV (alloc_keep O4 o)).2.1
              have kz1 := fun o => (fourV (alloc_keep O4 o)).2.2.1
              have kz2 := fun o => (fourV (alloc_keep O4 o)).2.2.2.1
              have kz3 := fun o => (fourV (alloc_keep O4 o)).2.2.2.2)
         try (have P4 : w4.heap[w3.heap.size + 1]? = some (.cells #[.int .u64 0, .int .u64 0, .int .u64 0, .int .u64 0] 26 (0, 0)) := by
                refine keep ?_ hb4
                exact alloc_new1 w3 _ _
              obtain ⟨⟨m0, m1, m2, m3⟩, mf0, mf1, mf2, mf3⟩ := fourV P4)
         try (have l1 : X.heap.size ≠ w3.heap.size := by omega
              have l2 : w3.heap.size ≠ X.heap.size := by omega)
         try (have l3 : X.heap.size ≠ w4.heap.size := by omega
              have l4 : w4.heap.size ≠ X.heap.size := by omega)
         try (have l5 : w3.heap.size ≠ w4.heap.size := by omega
              have l6 : w4.heap.size ≠ w3.heap.size := by omega)))
    all_goals
      rename_i hH
      clear hH
      have xA := XA.out
      have xR := XR.out
      have xW := XW.out
      go_wp2_with fail
      go_meet
      case rel =>
        refine ⟨_, _, rfl, rfl, ?_, ?_, ?_, ?_, ?_⟩
        all_goals
          (focus ((repeat (first | (with_reducible assumption) | (with_reducible apply isA_set) | (with_reducible exact isA_new _ _ _) | (with_reducible exact isA_a4 _ _ _ _) | (with_reducible exact isA_a2 _ _ _ _) | (with_reducible exact isA_a1 _ _ _ _) | (with_reducible apply IsA.far) | (with_reducible apply IsA.alloc) | (with_reducible apply IsA.drew) | (with_reducible apply isA_calls) | (with_reducible apply b_set4) | (with_reducible apply b_alloc) | (with_reducible apply b_drew) | (with_reducible apply b_calls) | (with_reducible exact alloc_new _ _) | (with_reducible apply alloc_keep) | (with_reducible apply far_keep) | exact Nat.le_refl _ | omega | (simp; done) | (simp; omega))); done))
end Go.Proofs.Ythdbadomppohbaa
