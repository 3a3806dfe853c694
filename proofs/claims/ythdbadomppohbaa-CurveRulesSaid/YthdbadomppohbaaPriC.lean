/- prime.Sub, prime.Neg (layer 19): contracts. -/
import Derived.Test.YthdbadomppohbaaPriB
namespace Go.Proofs.Ythdbadomppohbaa
set_option maxRecDepth 20000
set_option linter.unusedSimpArgs false
set_option linter.unusedVariables false
open Go.RowKit
def A3 (a b : Nat) (t : TypeId) (w : World) : World := ((w.alloc (.cells #[.int .u64 (wd a 0 : Int), .int .u64 (wd a 1 : Int), .int .u64 (wd a 2 : Int), .int .u64 (wd a 3 : Int)] t)).alloc (.cells #[.int .u64 (wd b 0 : Int), .int .u64 (wd b 1 : Int), .int .u64 (wd b 2 : Int), .int .u64 (wd b 3 : Int)] t)).alloc (.cells #[.int .u64 0, .int .u64 0, .int .u64 0, .int .u64 0] 28)
theorem a3_at (a b : Nat) (t : TypeId) (w : World) : IsA (A3 a b t w) w.heap.size a t ∧ IsA (A3 a b t w) (w.heap.size + 1) b t ∧ IsA (A3 a b t w) (w.heap.size + 1 + 1) 0 28 ∧ (A3 a b t w).heap.size = w.heap.size + 3 ∧ Below w.heap.size w (A3 a b t w) := by
  unfold A3
  refine ⟨(isA_a1 w a t _).alloc _, (alloc_keep (alloc_new1 w _ _) _ : _), isA_zero (alloc_new2 w _ _ _), by simp, gr_alloc (gr_alloc (gr_alloc (Below.refl _ _) _) _) _⟩
theorem B4_gt : PN + PN < B64 ^ 4 := by decide +kernel
theorem sub_lt_mod (a b : Nat) (ha : a < PN) (hb : b < PN) (h : a < b) : addN (subN a b) PN = (a + PN - b) % PN := by
  have := B4_gt
  unfold addN subN
  rw [if_pos h, show a + B64 ^ 4 - b + PN = a + PN - b + B64 ^ 4 by omega, Nat.add_mod_right, Nat.mod_eq_of_lt (by omega : a + PN - b < B64 ^ 4), Nat.mod_eq_of_lt (by omega : a + PN - b < PN)]
theorem sub_ge_mod (a b : Nat) (ha : a < PN) (h : ¬ a < b) : subN a b = (a + PN - b) % PN := by
  unfold subN
  rw [if_neg h, show a + PN - b = a - b + PN by omega, Nat.add_mod_right, Nat.mod_eq_of_lt (by omega : a - b < PN)]
theorem of_PN {a : Nat} (h : a < PN) : a < B64 ^ 4 := Nat.lt_trans h PN_B
set_option maxHeartbeats 4000000 in
theorem psub_any (a b : Nat) (w : World) (ha : a < PN) (hb : b < PN) : Calls Try.prog 34 #[numV a, numV b] w fun e w' => e = .returned (numV ((a + PN - b) % PN)) ∧ Below w.heap.size w w' := by
  have K1 := Lib.hid (fun w => sub_any a b w (of_PN ha) (of_PN hb))
  have K2 := Lib.hid p_any
  have K3 := Lib.hid (fun w => add_any (subN a b) PN w (sub_fits a b (of_PN ha) (of_PN hb)) PN_B)
  obtain ⟨xa, xb, xr, xz, xB⟩ := a3_at a b 28 w
  by_cases h : a < b
  · have hk : subK a b = 1 := by unfold subK; rw [if_pos h]
    rw [sub_lt_mod a b ha hb h] at K3
    rw [hk] at K1
    obtain ⟨S, hS⟩ : ∃ S, subN a b = S := ⟨_, rfl⟩
    obtain ⟨R, hR⟩ : ∃ R, (a + PN - b) % PN = R := ⟨_, rfl⟩
    obtain ⟨C, hC⟩ : ∃ C, addK S PN = C := ⟨_, rfl⟩
    rw [hS] at K1
    rw [hS, hC, hR] at K3
    rw [hR]
    obtain ⟨p, hp⟩ : ∃ p, PN = p := ⟨_, rfl⟩
    rw [hp] at K2 K3
    have k1 : ((1 : Nat) : Int) = 1 := rfl
    rw [k1] at K1
    simp only [numV_agg] at K1 K2 K3 ⊢
    clear ha hb h hk hS hR hC hp k1
    go_enter Try.func34, Try.ntmps34
    go_wp2_with fail
    change Calls _ _ _ (A3 a b 28 w) _
    generalize A3 a b 28 w = X at *
    refine (K1.out X).mono ?_
    rintro e w1 ⟨rfl, hb1⟩
    have hz1 : w.heap.size + 3 ≤ w1.heap.size := by have := hb1.size; omega
    have XA : Hid (IsA (w1.alloc (.cells #[.int .u64 (wd S 0 : Int), .int .u64 (wd S 1 : Int), .int .u64 (wd S 2 : Int), .int .u64 (wd S 3 : Int)] 26)) w1.heap.size S 26) := (alloc_new w1 _ :)
    have XR := Lib.hid ((xr.keep hb1).alloc (.cells #[.int .u64 (wd S 0 : Int), .int .u64 (wd S 1 : Int), .int .u64 (wd S 2 : Int), .int .u64 (wd S 3 : Int)] 26))
    have XB := Lib.hid (gr_allocB (xB.trans (hb1.mono (by omega))) (by omega) (.cells #[.int .u64 (wd S 0 : Int), .int .u64 (wd S 1 : Int), .int .u64 (wd S 2 : Int), .int .u64 (wd S 3 : Int)] 26))
    clear xa xb xr xz xB hb1 K1
    go_wp2_with fail
    generalize w1.alloc (.cells #[.int .u64 (wd S 0 : Int), .int .u64 (wd S 1 : Int), .int .u64 (wd S 2 : Int), .int .u64 (wd S 3 : Int)] 26) = Y at XA XR XB ⊢
    obtain ⟨⟨p0, p1, p2, p3⟩, g0, g1, g2, g3⟩ := fourV XA.out
    go_region_law (first
        | (go_simp; go_at_call 65; go_must (refine (K2.out _).mono ?_); rintro e w3 ⟨rfl, hb3⟩
           have r3 := (show IsA Y.drew _ _ _ from XA.out).keep hb3
           have x3 := (show IsA Y.drew _ _ _ from XR.out).keep hb3
           have B3 := XB.out.drew.trans (hb3.mono XB.out.size)
           obtain ⟨⟨k0, k1, k2, k3⟩, f0, f1, f2, f3⟩ := fourV r3)
        | (go_simp; go_at_call 64; go_must (refine (K3.out _).mono ?_); rintro e w4 ⟨rfl, hb4⟩
           have r4 := r3.keep hb4
           have x4 := x3.keep hb4
           have B4 := B3.trans (hb4.mono B3.size)
           obtain ⟨⟨m0, m1, m2, m3⟩, h0, h1, h2, h3⟩ := fourV r4))
    all_goals
      have ra := isA_set (n := R) r4
      have rr := isA_zero' (x4.far (c := w1.heap.size) (v0 := .int .u64 (wd R 0 : Int)) (v1 := .int .u64 (wd R 1 : Int)) (v2 := .int .u64 (wd R 2 : Int)) (v3 := .int .u64 (wd R 3 : Int)) (by omega))
      have br := set4_below (v0 := .int .u64 (wd R 0 : Int)) (v1 := .int .u64 (wd R 1 : Int)) (v2 := .int .u64 (wd R 2 : Int)) (v3 := .int .u64 (wd R 3 : Int)) B4 (b := w1.heap.size) (by omega)
      clear r3 r4 x3 x4 B3 B4 hb3 hb4 XA XR XB
      generalize (((w4.setCell ⟨w1.heap.size, 0, none⟩ (.int .u64 (wd R 0 : Int))).setCell ⟨w1.heap.size, 1, none⟩ (.int .u64 (wd R 1 : Int))).setCell ⟨w1.heap.size, 2, none⟩ (.int .u64 (wd R 2 : Int))).setCell ⟨w1.heap.size, 3, none⟩ (.int .u64 (wd R 3 : Int)) = Z at *
      obtain ⟨⟨q0, q1, q2, q3⟩, _⟩ := fourV ra
      obtain ⟨⟨d0, d1, d2, d3⟩, e0, e1, e2, e3⟩ := fourV rr
      have KL := Lib.hid (load_el (isA_set (n := R) rr))
      have BR := Lib.hid (set4_below (v0 := .int .u64 (wd R 0 : Int)) (v1 := .int .u64 (wd R 1 : Int)) (v2 := .int .u64 (wd R 2 : Int)) (v3 := .int .u64 (wd R 3 : Int)) br (b := w.heap.size + 1 + 1) (by omega))
      clear ra rr br
      go_wp2_with fail
      exact bodyPost_ret (results_arr Try.results34 (by rfl) KL.out) rfl ⟨rfl, BR.out⟩
  · have hk : subK a b = 0 := by unfold subK; rw [if_neg h]
    rw [sub_ge_mod a b ha h] at K1
    rw [hk] at K1
    obtain ⟨R, hR⟩ : ∃ R, (a + PN - b) % PN = R := ⟨_, rfl⟩
    rw [hR] at K1 ⊢
    have k1 : ((0 : Nat) : Int) = 0 := rfl
    rw [k1] at K1
    simp only [numV_agg] at K1 ⊢
    clear ha hb h hk hR k1 K2 K3
    go_enter Try.func34, Try.ntmps34
    go_wp2_with fail
    change Calls _ _ _ (A3 a b 28 w) _
    generalize A3 a b 28 w = X at *
    refine (K1.out X).mono ?_
    rintro e w1 ⟨rfl, hb1⟩
    have xr1 := isA_zero' ((xr.keep hb1).alloc (.cells #[.int .u64 (wd R 0 : Int), .int .u64 (wd R 1 : Int), .int .u64 (wd R 2 : Int), .int .u64 (wd R 3 : Int)] 26))
    obtain ⟨⟨d0, d1, d2, d3⟩, e0, e1, e2, e3⟩ := fourV xr1
    have hz1 : w.heap.size + 3 ≤ w1.heap.size := by have := hb1.size; omega
    have KL := Lib.hid (load_el (isA_set (n := R) xr1))
    have BR := Lib.hid (set4_below (v0 := .int .u64 (wd R 0 : Int)) (v1 := .int .u64 (wd R 1 : Int)) (v2 := .int .u64 (wd R 2 : Int)) (v3 := .int .u64 (wd R 3 : Int)) (gr_allocB (xB.trans (hb1.mono (by omega))) (by omega) (.cells #[.int .u64 (wd R 0 : Int), .int .u64 (wd R 1 : Int), .int .u64 (wd R 2 : Int), .int .u64 (wd R 3 : Int)] 26)) (b := w.heap.size + 1 + 1) (by omega))
    clear xa xb xr xr1 xB hb1
    go_wp2_with fail
    exact bodyPost_ret (results_arr Try.results34 (by rfl) KL.out) rfl ⟨rfl, BR.out⟩
theorem pneg_any (a : Nat) (w : World) (ha : a < PN) : Calls Try.prog 51 #[numV a] w fun e w' => e = .returned (numV ((0 + PN - a) % PN)) ∧ Below w.heap.size w w' := by
  have K := Lib.hid (fun w => psub_any 0 a w PN_pos ha)
  obtain ⟨R, hR⟩ : ∃ R, (0 + PN - a) % PN = R := ⟨_, rfl⟩
  rw [hR, num_zero] at K
  rw [hR]
  obtain ⟨xa, xr, xz, xB⟩ := a2_at a 28 28 w
  simp only [numV_agg] at K ⊢
  obtain ⟨⟨p0, p1, p2, p3⟩, _⟩ := fourV xa
  clear hR
  go_enter Try.func51, Try.ntmps51
  go_wp2_with fail
  change Calls _ _ _ (A2 a 28 28 w) _
  generalize A2 a 28 28 w = X at *
  refine (K.out X).mono ?_
  rintro e w1 ⟨rfl, hb1⟩
  have xr1 := isA_zero' (xr.keep hb1)
  obtain ⟨⟨d0, d1, d2, d3⟩, e0, e1, e2, e3⟩ := fourV xr1
  have KL := Lib.hid (load_el (isA_set (n := R) xr1))
  have BR := Lib.hid (set4_below (v0 := .int .u64 (wd R 0 : Int)) (v1 := .int .u64 (wd R 1 : Int)) (v2 := .int .u64 (wd R 2 : Int)) (v3 := .int .u64 (wd R 3 : Int)) (xB.trans (hb1.mono (by omega))) (b := w.heap.size + 1) (by omega))
  clear xa xr xr1 xB hb1
  go_wp2_with fail
  exact bodyPost_ret (results_arr Try.results51 (by rfl) KL.out) rfl ⟨rfl, BR.out⟩
end Go.Proofs.Ythdbadomppohbaa
