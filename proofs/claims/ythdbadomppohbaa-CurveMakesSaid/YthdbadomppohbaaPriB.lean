/- prime.Mod (layer 19): its contract. -/
import Derived.Test.YthdbadomppohbaaPriA
import Derived.Deep.LoopGhost
import Derived.Deep.AppendLies
namespace Go.Proofs.Ythdbadomppohbaa
set_option maxRecDepth 20000
set_option linter.unusedSimpArgs false
set_option linter.unusedVariables false
open Go.RowKit
theorem mod_cmp_ge (n : Nat) (h : PN ≤ n) : (0 : Int) ≤ cmpI n PN := by unfold cmpI; rw [if_neg (by omega)]; split <;> omega
theorem mod_cmp_lt (n : Nat) (h : n < PN) : ¬ (0 : Int) ≤ cmpI n PN := by unfold cmpI; rw [if_pos h]; omega
theorem IsA.below {w w' : World} {b n : Nat} {t : TypeId} (r : IsA w b n t) (hb : Below w.heap.size w w') : IsA w' b n t := r.keep hb
set_option maxHeartbeats 4000000 in
theorem pmod_any (n : Nat) (w : World) (hn : n < B64 ^ 4) : Calls Try.prog 36 #[numV n] w fun e w' => e = .returned (numV (n % PN)) ∧ Below w.heap.size w w' := by
  obtain ⟨xa, xr, xz, xB⟩ := a2_at n 26 28 w
  have K1 := Lib.hid p_any
  have HMIX := Lib.hid (show Try.prog.follows .mixedOrders = true by kernel_rfl)
  obtain ⟨p, hp⟩ : ∃ p, PN = p := ⟨_, rfl⟩
  have hpB : p < B64 ^ 4 := by rw [← hp]; exact PN_B
  have hp0 : 0 < p := by rw [← hp]; exact PN_pos
  have CG := Lib.hid mod_cmp_ge
  have CL := Lib.hid mod_cmp_lt
  rw [hp] at K1 CG CL
  rw [hp]
  clear hp
  simp only [numV_agg] at K1 ⊢
  have HP := Lib.hid (And.intro hpB (And.intro hp0 hn))
  clear hpB hp0 hn
  go_enter Try.func36, Try.ntmps36
  go_wp2_with fail
  change Code.wp _ _ _ _ (A2 n 26 28 w)
  generalize A2 n 26 28 w = X at *
  go_loopg [] n (fun gk wr => gk < B64 ^ 4 ∧ gk % p = n % p ∧ IsA wr w.heap.size gk 26 ∧ IsA wr (w.heap.size + 1) 0 28 ∧ Below w.heap.size w wr)
  case atStart => exact ⟨HP.out.2.2, rfl, xa, xr, xB⟩
  case round =>
    obtain ⟨hg, hm, ya, yr, yB⟩ := hrel
    have K2 := Lib.hid (fun w => cmp_any gk p w hg HP.out.1)
    obtain ⟨C, hC⟩ : ∃ C, cmpI gk p = C := ⟨_, rfl⟩
    have cge := CG.out gk
    have clt := CL.out gk
    rw [hC] at K2 cge clt
    simp only [numV_agg] at K2
    obtain ⟨⟨p0, p1, p2, p3⟩, _⟩ := fourV ya
    have hsz := yB.size
    have hlA := lt_blk ya
    have hlR := lt_blk yr
    have HA := Lib.hid ya
    have HR := Lib.hid yr
    have HB := Lib.hid yB
    have HM := Lib.hid (And.intro hg hm)
    clear xa xr xz xB ya yr yB hC hg hm
    by_cases hlt : gk < p
    · have c1 := clt hlt
      have HL := Lib.hid hlt
      have kl := load_el (isA_set (n := gk) (isA_zero' HR.out))
      clear cge clt hlt kl
      have D0 := fun d os => cell_regrown p0 d os
      have D1 := fun d os => cell_regrown p1 d os
      have D2 := fun d os => cell_regrown p2 d os
      have D3 := fun d os => cell_regrown p3 d os
      clear p0 p1 p2 p3
      go_wp2_with fail
      refine wp_region_quiet_below HMIX.out (by kernel_rfl) ?_
      repeat (go_big_quiet_step (first
        | (go_at_call 65; exact Calls.regrown_of (K1.out _))
        | (go_at_call 66; exact Calls.regrown_of (K2.out _))))
      refine wpQuiet_nil ?_
      intro _ hw'
      obtain ⟨⟨nq1, os1⟩, hw''⟩ := hw'
      subst hw''
      have xa := HA.out.below (below_regrown wr nq1 os1)
      have xr := isA_zero' (HR.out.below (below_regrown wr nq1 os1))
      have xB := HB.out.trans ((below_regrown wr nq1 os1).mono hsz)
      clear D0 D1 D2 D3 HA HR HB K1 K2
      generalize Sort.grow (redrawn wr nq1) os1 = U2 at xa xr xB ⊢
      obtain ⟨⟨p0, p1, p2, p3⟩, _⟩ := fourV xa
      obtain ⟨⟨d0, d1, d2, d3⟩, e0, e1, e2, e3⟩ := fourV xr
      have KL := Lib.hid (load_el (isA_set (n := gk) xr))
      have BR := Lib.hid (set4_below (v0 := .int .u64 (wd gk 0 : Int)) (v1 := .int .u64 (wd gk 1 : Int)) (v2 := .int .u64 (wd gk 2 : Int)) (v3 := .int .u64 (wd gk 3 : Int)) xB (b := w.heap.size + 1) (by omega))
      clear xa xr xB
      go_wp2_with fail
      have hE : n % p = gk := by
        rw [← HM.out.2, Nat.mod_eq_of_lt HL.out]
      exact bodyPost_ret (results_arr Try.results36 (by rfl) KL.out) rfl ⟨by rw [hE]; rfl, BR.out⟩
    · have c1 := cge (Nat.le_of_not_lt hlt)
      have HL := Lib.hid (Nat.le_of_not_lt hlt)
      have hS : subN gk p = gk - p := by unfold subN; rw [if_neg hlt]
      have K3 := Lib.hid (fun w => sub_any gk p w HM.out.1 HP.out.1)
      rw [hS] at K3
      obtain ⟨S, hSS⟩ : ∃ S, gk - p = S := ⟨_, rfl⟩
      obtain ⟨B, hBB⟩ : ∃ B, subK gk p = B := ⟨_, rfl⟩
      rw [hSS, hBB] at K3
      have HS := Lib.hid hSS
      simp only [numV_agg] at K3
      clear cge clt hlt hS hSS hBB
      have D0 := fun d os => cell_regrown p0 d os
      have D1 := fun d os => cell_regrown p1 d os
      have D2 := fun d os => cell_regrown p2 d os
      have D3 := fun d os => cell_regrown p3 d os
      clear p0 p1 p2 p3
      go_wp2_with fail
      refine wp_region_quiet_below HMIX.out (by kernel_rfl) ?_
      repeat (go_big_quiet_step (first
        | (go_at_call 65; exact Calls.regrown_of (K1.out _))
        | (go_at_call 66; exact Calls.regrown_of (K2.out _))))
      refine wpQuiet_nil ?_
      intro _ hw'
      obtain ⟨⟨nq1, os1⟩, hw''⟩ := hw'
      subst hw''
      have XA := Lib.hid (HA.out.below (below_regrown wr nq1 os1))
      have XR := Lib.hid (HR.out.below (below_regrown wr nq1 os1))
      have XB := Lib.hid (HB.out.trans ((below_regrown wr nq1 os1).mono hsz))
      clear D0 D1 D2 D3 HA HR HB K2
      generalize Sort.grow (redrawn wr nq1) os1 = Y at XA XR XB ⊢
      obtain ⟨⟨p0, p1, p2, p3⟩, g0, g1, g2, g3⟩ := fourV XA.out
      have hlY := lt_blk XA.out
      have hlZ := lt_blk XR.out
      go_wp2_with fail
      go_region_law (first
        | (go_simp; go_at_call 65; go_must (refine (K1.out _).mono ?_); rintro e w3 ⟨rfl, hb3⟩
           have r3 := (show IsA Y.drew _ _ _ from XA.out).keep hb3
           have x3 := (show IsA Y.drew _ _ _ from XR.out).keep hb3
           have B3 := XB.out.drew.trans (hb3.mono XB.out.size)
           obtain ⟨⟨k0, k1, k2, k3⟩, f0, f1, f2, f3⟩ := fourV r3)
        | (go_simp; go_at_call 63; go_must (refine (K3.out _).mono ?_); rintro e w4 ⟨rfl, hb4⟩
           have r4 := r3.keep hb4
           have x4 := x3.keep hb4
           have B4 := B3.trans (hb4.mono B3.size)
           obtain ⟨⟨m0, m1, m2, m3⟩, h0, h1, h2, h3⟩ := fourV r4))
      all_goals
        have RA := Lib.hid (isA_set (n := S) r4)
        have RR := Lib.hid (x4.far (c := w.heap.size) (v0 := .int .u64 (wd S 0 : Int)) (v1 := .int .u64 (wd S 1 : Int)) (v2 := .int .u64 (wd S 2 : Int)) (v3 := .int .u64 (wd S 3 : Int)) (by omega))
        have BR := Lib.hid (set4_below (v0 := .int .u64 (wd S 0 : Int)) (v1 := .int .u64 (wd S 1 : Int)) (v2 := .int .u64 (wd S 2 : Int)) (v3 := .int .u64 (wd S 3 : Int)) B4 (b := w.heap.size) (Nat.le_refl _))
        clear r3 r4 x3 x4 B3 B4
        go_wp2_with fail
        go_roundg S
        case rel =>
          have hS := HS.out
          have h1 := HP.out
          have h2 := HM.out
          have h3 := HL.out
          refine ⟨by omega, ?_, RA.out, RR.out, BR.out⟩
          rw [← h2.2, ← hS]
          exact (Nat.mod_eq_sub_mod h3).symm
        case measure =>
          have hS := HS.out
          have h1 := HP.out
          have h3 := HL.out
          omega
end Go.Proofs.Ythdbadomppohbaa
