/- scalar.L, scalar.Sum$1, scalar.Product$1 (layer 22): contracts. -/
import Derived.Test.YthalmomheecpcaaWidVd
import Derived.Test.YthalmomheecpcaaWidMc
import Derived.Test.YthalmomheecpcaaWidQ
namespace Go.Proofs.Ythalmomheecpcaa
open Go.RowKit
def LN : Nat := 7237005577332262213973186563042994240857116359379907606001950938285454250989
theorem LN_lt : LN < B64 ^ 4 := by decide +kernel
theorem LN_pos : 0 < LN := by decide +kernel
theorem num_LN : numV LN = .agg #[.int .u64 6346243789798364141, .int .u64 1503914060200516822, .int .u64 0, .int .u64 1152921504606846976] := by
  unfold numV
  rw [show wd LN 0 = 6346243789798364141 by decide +kernel, show wd LN 1 = 1503914060200516822 by decide +kernel, show wd LN 2 = 0 by decide +kernel, show wd LN 3 = 1152921504606846976 by decide +kernel]
  rfl
theorem load_num {W : World} {b n : Nat} (h : IsA W b n 25) : (loadVar 25 ⟨b, 0, none⟩).run Try.prog W = .ok (numV n) W :=
  run_loadVar_row (P := Try.prog) W b 25 25 _ (0, 0) _ h Try.underlying25 rfl (by kernel_rfl)
theorem load_arr {W : World} {b n : Nat} (h : IsA W b n 24) : (loadVar 24 ⟨b, 0, none⟩).run Try.prog W = .ok (numV n) W :=
  run_loadVar_row (P := Try.prog) W b 24 24 _ (0, 0) _ h Try.underlying24 rfl (by kernel_rfl)
theorem numV_agg (n : Nat) : numV n = .agg #[.int .u64 (wd n 0 : Int), .int .u64 (wd n 1 : Int), .int .u64 (wd n 2 : Int), .int .u64 (wd n 3 : Int)] := rfl
theorem l_any (w : World) : Calls Try.prog 10 #[] w fun e w' => e = .returned (numV LN) ∧ Below w.heap.size w w' := by
  have kl := load_num (W := w.alloc (.cells (numL LN).toArray 25)) (b := w.heap.size) (n := LN) (alloc_new _ _)
  have e1 : (numL LN).toArray = #[.int .u64 6346243789798364141, .int .u64 1503914060200516822, .int .u64 0, .int .u64 1152921504606846976] := by
    have h := num_LN
    unfold numV at h
    unfold numL
    injection h
  rw [e1, num_LN] at kl
  rw [num_LN]
  have KL := Lib.hid kl
  clear kl e1
  go_enter Try.func10, Try.ntmps10
  go_wp2_with fail
  exact bodyPost_ret (v := .agg #[.int .u64 6346243789798364141, .int .u64 1503914060200516822, .int .u64 0, .int .u64 1152921504606846976]) (results_arr Try.results10 (by rfl) KL.out) rfl ⟨rfl, gr_alloc (Below.refl _ _) _⟩
def M3 (a b : Nat) (t : TypeId) (w : World) : World := ((w.alloc (.cells #[.int .u64 (wd a 0 : Int), .int .u64 (wd a 1 : Int), .int .u64 (wd a 2 : Int), .int .u64 (wd a 3 : Int)] t)).alloc (.cells #[.int .u64 (wd b 0 : Int), .int .u64 (wd b 1 : Int), .int .u64 (wd b 2 : Int), .int .u64 (wd b 3 : Int)] t)).alloc (.cells #[.int .u64 0, .int .u64 0, .int .u64 0, .int .u64 0] t)
theorem m3_at (a b : Nat) (t : TypeId) (w : World) : IsA (M3 a b t w) w.heap.size a t ∧ IsA (M3 a b t w) (w.heap.size + 1) b t ∧ IsA (M3 a b t w) (w.heap.size + 1 + 1) 0 t ∧ (M3 a b t w).heap.size = w.heap.size + 3 ∧ Below w.heap.size w (M3 a b t w) := by
  unfold M3
  refine ⟨(isA_a1 w a t _).alloc _, (alloc_keep (alloc_new1 w _ _) _ : _), ?_, by simp, gr_alloc (gr_alloc (gr_alloc (Below.refl _ _) _) _) _⟩
  have h := alloc_new2 w (.cells #[.int .u64 (wd a 0 : Int), .int .u64 (wd a 1 : Int), .int .u64 (wd a 2 : Int), .int .u64 (wd a 3 : Int)] t) (.cells #[.int .u64 (wd b 0 : Int), .int .u64 (wd b 1 : Int), .int .u64 (wd b 2 : Int), .int .u64 (wd b 3 : Int)] t) (.cells #[.int .u64 0, .int .u64 0, .int .u64 0, .int .u64 0] t)
  have e : (numL 0).toArray = #[.int .u64 0, .int .u64 0, .int .u64 0, .int .u64 0] := numL_0
  show _ = some (Obj.cells (numL 0).toArray t (0, 0))
  rw [e]
  exact h
theorem sum_rest (a b : Nat) (ha : a < B64 ^ 4) (hb : b < B64 ^ 4) : remN (addN a b) (addK a b) LN = (a + b) % LN := by
  unfold remN addN addK
  rw [if_neg (by have := LN_pos; omega), Nat.mul_comm, Nat.add_comm, Nat.mod_add_div]
theorem prod_rest (a b : Nat) : remN (a * b % B64 ^ 4) (a * b / B64 ^ 4) LN = a * b % LN := by
  unfold remN
  rw [if_neg (by have := LN_pos; omega), Nat.mul_comm (a * b / B64 ^ 4), Nat.add_comm, Nat.mod_add_div]
set_option maxHeartbeats 2000000 in
theorem sum1_any (a b : Nat) (w : World) (ha : a < B64 ^ 4) (hb : b < B64 ^ 4) :
    Calls Try.prog 34 #[numV a, numV b] w fun e w' => e = .returned (numV ((a + b) % LN)) ∧ Below w.heap.size w w' := by
  have hk : addK a b < 2 := by
    unfold addK
    rw [Nat.div_lt_iff_lt_mul (by decide)]
    omega
  have hs : addN a b < B64 ^ 4 := Nat.mod_lt _ (by decide)
  have hk4 : addK a b < B64 ^ 4 := Nat.lt_trans hk (by decide)
  have K1 := Lib.hid (fun w => add_any a b w ha hb)
  have K2 := Lib.hid (fun w => small_any (addK a b) w (by omega))
  have K3 := Lib.hid l_any
  have K4 := Lib.hid (fun w => rem_whole (addN a b) (addK a b) LN w hs hk4 LN_lt)
  rw [sum_rest a b ha hb] at K4
  have hR : (a + b) % LN < B64 ^ 4 := Nat.lt_trans (Nat.mod_lt _ LN_pos) LN_lt
  obtain ⟨xa, xb, xr, xz, xB⟩ := m3_at a b 25 w
  obtain ⟨S, hS⟩ : ∃ S, addN a b = S := ⟨_, rfl⟩
  obtain ⟨C, hC⟩ : ∃ C, addK a b = C := ⟨_, rfl⟩
  obtain ⟨R, hRR⟩ : ∃ R, (a + b) % LN = R := ⟨_, rfl⟩
  obtain ⟨Lv, hLv⟩ : ∃ Lv, LN = Lv := ⟨_, rfl⟩
  rw [hS, hC] at K1
  rw [hC] at K2
  rw [hS, hC, hRR, hLv] at K4
  rw [hLv] at K3
  rw [hRR]
  simp only [numV_agg] at K1 K2 K3 K4 ⊢
  clear hS hC hRR hLv ha hb hs hk hk4 hR
  go_enter Try.func34, Try.ntmps34
  go_wp2_with fail
  change Calls _ _ _ (M3 a b 25 w) _
  generalize M3 a b 25 w = X at *
  refine (K1.out X).mono ?_
  rintro e w1 ⟨rfl, hb1⟩
  have xr1 := xr.keep hb1
  have hB1 : Below w.heap.size w w1 := xB.trans (hb1.mono (by omega))
  have hz1 : w.heap.size + 1 + 1 < w1.heap.size := by have := hb1.size; omega
  clear xa xb xr hb1 K1
  have r5 : IsA (w1.alloc (.cells #[.int .u64 (wd S 0 : Int), .int .u64 (wd S 1 : Int), .int .u64 (wd S 2 : Int), .int .u64 (wd S 3 : Int)] 25)) w1.heap.size S 25 := alloc_new w1 _
  have xr2 := xr1.alloc (.cells #[.int .u64 (wd S 0 : Int), .int .u64 (wd S 1 : Int), .int .u64 (wd S 2 : Int), .int .u64 (wd S 3 : Int)] 25)
  have hB2 := gr_allocB hB1 (by omega) (.cells #[.int .u64 (wd S 0 : Int), .int .u64 (wd S 1 : Int), .int .u64 (wd S 2 : Int), .int .u64 (wd S 3 : Int)] 25)
  have HB2 := Lib.hid hB2
  have XR2 := Lib.hid xr2
  have R5 := Lib.hid r5
  clear xr1 xr2 hB2 hB1 r5 xB
  go_wp2_with fail
  generalize w1.alloc (.cells #[.int .u64 (wd S 0 : Int), .int .u64 (wd S 1 : Int), .int .u64 (wd S 2 : Int), .int .u64 (wd S 3 : Int)] 25) = Y at HB2 XR2 R5 ⊢
  obtain ⟨⟨p0, p1, p2, p3⟩, _⟩ := fourV R5.out
  have hzY : w.heap.size + 3 ≤ Y.heap.size := by have := lt_blk XR2.out; have := lt_blk R5.out; omega
  have hne1 : w1.heap.size ≠ w.heap.size + 1 + 1 := by have := hz1; omega
  go_region_held3 (fun w' => w'.cell? ⟨w1.heap.size, 0, none⟩ = some (.int .u64 (wd S 0 : Int)) ∧ w'.cell? ⟨w1.heap.size, 1, none⟩ = some (.int .u64 (wd S 1 : Int)) ∧ w'.cell? ⟨w1.heap.size, 2, none⟩ = some (.int .u64 (wd S 2 : Int)) ∧ w'.cell? ⟨w1.heap.size, 3, none⟩ = some (.int .u64 (wd S 3 : Int))) (first | (with_reducible exact ⟨p0, p1, p2, p3⟩) | (with_reducible exact ⟨k0, k1, k2, k3⟩) | (with_reducible exact ⟨m0, m1, m2, m3⟩) | (with_reducible exact ⟨u0, u1, u2, u3⟩) | (with_reducible exact far4 ⟨u0, u1, u2, u3⟩ hne1) | go_keep) (first
    | (go_at_call 20; go_must (refine (K2.out _).mono ?_); rintro e w3 ⟨rfl, hb3⟩
       have r3 := (show IsA Y.drew _ _ _ from R5.out).keep hb3
       have x3 := (show IsA Y.drew _ _ _ from XR2.out).keep hb3
       have B3 := HB2.out.drew.trans (hb3.mono HB2.out.size)
       obtain ⟨⟨k0, k1, k2, k3⟩, _⟩ := fourV r3)
    | (go_at_call 10; go_must (refine (K3.out _).mono ?_); rintro e w4 ⟨rfl, hb4⟩
       have r4 := r3.keep hb4
       have x4 := x3.keep hb4
       have B4 := B3.trans (hb4.mono B3.size)
       obtain ⟨⟨m0, m1, m2, m3⟩, _⟩ := fourV r4)
    | (go_at_call 23; go_must (refine (K4.out _).mono ?_); rintro e w5 ⟨rfl, hb5⟩
       have r5 := r4.keep hb5
       have x5 := x4.keep hb5
       have B5 := B4.trans (hb5.mono B4.size)
       obtain ⟨⟨u0, u1, u2, u3⟩, _⟩ := fourV r5
       obtain ⟨⟨d0, d1, d2, d3⟩, e0, e1, e2, e3⟩ := fourV x5))
  all_goals
    have rR := isA_set (n := R) x5
    have bR := set4_below (v0 := .int .u64 (wd R 0 : Int)) (v1 := .int .u64 (wd R 1 : Int)) (v2 := .int .u64 (wd R 2 : Int)) (v3 := .int .u64 (wd R 3 : Int)) B5 (b := w.heap.size + 1 + 1) (by omega)
    have kl := load_num rR
    have KL := Lib.hid kl
    have BR := Lib.hid bR
    clear kl bR rR
    go_wp2_with fail
    exact bodyPost_ret (results_arr Try.results34 (by rfl) KL.out) rfl ⟨rfl, BR.out⟩
theorem cells8 {w : World} {b1 b2 x y : Nat} {t1 t2 : TypeId} (h1 : IsA w b1 x t1) (h2 : IsA w b2 y t2) :
    w.cell? ⟨b1, 0, none⟩ = some (.int .u64 (wd x 0 : Int)) ∧ w.cell? ⟨b1, 1, none⟩ = some (.int .u64 (wd x 1 : Int)) ∧ w.cell? ⟨b1, 2, none⟩ = some (.int .u64 (wd x 2 : Int)) ∧ w.cell? ⟨b1, 3, none⟩ = some (.int .u64 (wd x 3 : Int)) ∧ w.cell? ⟨b2, 0, none⟩ = some (.int .u64 (wd y 0 : Int)) ∧ w.cell? ⟨b2, 1, none⟩ = some (.int .u64 (wd y 1 : Int)) ∧ w.cell? ⟨b2, 2, none⟩ = some (.int .u64 (wd y 2 : Int)) ∧ w.cell? ⟨b2, 3, none⟩ = some (.int .u64 (wd y 3 : Int)) := by
  obtain ⟨⟨p0, p1, p2, p3⟩, _⟩ := fourV h1
  obtain ⟨⟨q0, q1, q2, q3⟩, _⟩ := fourV h2
  exact ⟨p0, p1, p2, p3, q0, q1, q2, q3⟩
theorem cells4 {w : World} {b1 x : Nat} {t1 : TypeId} (h1 : IsA w b1 x t1) :
    w.cell? ⟨b1, 0, none⟩ = some (.int .u64 (wd x 0 : Int)) ∧ w.cell? ⟨b1, 1, none⟩ = some (.int .u64 (wd x 1 : Int)) ∧ w.cell? ⟨b1, 2, none⟩ = some (.int .u64 (wd x 2 : Int)) ∧ w.cell? ⟨b1, 3, none⟩ = some (.int .u64 (wd x 3 : Int)) := (fourV h1).1
set_option maxHeartbeats 2000000 in
theorem product1_any (a b : Nat) (w : World) (ha : a < B64 ^ 4) (hb : b < B64 ^ 4) :
    Calls Try.prog 36 #[numV a, numV b] w fun e w' => e = .returned (numV (a * b % LN)) ∧ Below w.heap.size w w' := by
  have hs : a * b % B64 ^ 4 < B64 ^ 4 := Nat.mod_lt _ (by decide)
  have hh : a * b / B64 ^ 4 < B64 ^ 4 := Nat.div_lt_of_lt_mul (Nat.mul_lt_mul'' ha hb)
  have K1 := Lib.hid (fun w => mul_any a b w ha hb)
  have K3 := Lib.hid l_any
  have K4 := Lib.hid (fun w => rem_whole (a * b % B64 ^ 4) (a * b / B64 ^ 4) LN w hs hh LN_lt)
  rw [prod_rest a b] at K4
  obtain ⟨xa, xb, xr, xz, xB⟩ := m3_at a b 25 w
  obtain ⟨S, hS⟩ : ∃ S, a * b % B64 ^ 4 = S := ⟨_, rfl⟩
  obtain ⟨H, hH⟩ : ∃ H, a * b / B64 ^ 4 = H := ⟨_, rfl⟩
  obtain ⟨R, hRR⟩ : ∃ R, a * b % LN = R := ⟨_, rfl⟩
  obtain ⟨Lv, hLv⟩ : ∃ Lv, LN = Lv := ⟨_, rfl⟩
  rw [hS, hH] at K1
  rw [hS, hH, hRR, hLv] at K4
  rw [hLv] at K3
  rw [hRR]
  simp only [numV_agg] at K1 K3 K4 ⊢
  clear hS hH hRR hLv ha hb hs hh
  go_enter Try.func36, Try.ntmps36
  go_wp2_with fail
  change Calls _ _ _ (M3 a b 25 w) _
  generalize M3 a b 25 w = X at *
  refine (K1.out X).mono ?_
  rintro e w1 ⟨rfl, hb1⟩
  have xr1 := xr.keep hb1
  have hB1 : Below w.heap.size w w1 := xB.trans (hb1.mono (by omega))
  have hz1 : w.heap.size + 1 + 1 < w1.heap.size := by have := hb1.size; omega
  clear xa xb xr hb1 K1
  have R5 : Hid (IsA ((w1.alloc (.cells #[.int .u64 (wd S 0 : Int), .int .u64 (wd S 1 : Int), .int .u64 (wd S 2 : Int), .int .u64 (wd S 3 : Int)] 25)).alloc (.cells #[.int .u64 (wd H 0 : Int), .int .u64 (wd H 1 : Int), .int .u64 (wd H 2 : Int), .int .u64 (wd H 3 : Int)] 25)) w1.heap.size S 25) := (alloc_keep (alloc_new w1 _) _ :)
  have R6 : Hid (IsA ((w1.alloc (.cells #[.int .u64 (wd S 0 : Int), .int .u64 (wd S 1 : Int), .int .u64 (wd S 2 : Int), .int .u64 (wd S 3 : Int)] 25)).alloc (.cells #[.int .u64 (wd H 0 : Int), .int .u64 (wd H 1 : Int), .int .u64 (wd H 2 : Int), .int .u64 (wd H 3 : Int)] 25)) (w1.heap.size + 1) H 25) := (alloc_new1 w1 _ _ :)
  have XR2 := Lib.hid ((xr1.alloc (.cells #[.int .u64 (wd S 0 : Int), .int .u64 (wd S 1 : Int), .int .u64 (wd S 2 : Int), .int .u64 (wd S 3 : Int)] 25)).alloc (.cells #[.int .u64 (wd H 0 : Int), .int .u64 (wd H 1 : Int), .int .u64 (wd H 2 : Int), .int .u64 (wd H 3 : Int)] 25))
  have HB2 := Lib.hid (gr_allocB (gr_allocB hB1 (by omega) (.cells #[.int .u64 (wd S 0 : Int), .int .u64 (wd S 1 : Int), .int .u64 (wd S 2 : Int), .int .u64 (wd S 3 : Int)] 25)) (by rw [alloc_size1]; omega) (.cells #[.int .u64 (wd H 0 : Int), .int .u64 (wd H 1 : Int), .int .u64 (wd H 2 : Int), .int .u64 (wd H 3 : Int)] 25))
  clear xr1 hB1 xB
  go_wp2_with fail
  generalize (w1.alloc (.cells #[.int .u64 (wd S 0 : Int), .int .u64 (wd S 1 : Int), .int .u64 (wd S 2 : Int), .int .u64 (wd S 3 : Int)] 25)).alloc (.cells #[.int .u64 (wd H 0 : Int), .int .u64 (wd H 1 : Int), .int .u64 (wd H 2 : Int), .int .u64 (wd H 3 : Int)] 25) = Y at HB2 XR2 R5 R6 ⊢
  obtain ⟨⟨p0, p1, p2, p3⟩, _⟩ := fourV R5.out
  obtain ⟨⟨q0, q1, q2, q3⟩, _⟩ := fourV R6.out
  have hzY : w.heap.size + 3 ≤ Y.heap.size := by have := lt_blk XR2.out; have := lt_blk R5.out; omega
  have hne1 : w1.heap.size ≠ w.heap.size + 1 + 1 := by have := hz1; omega
  have hne2 : w1.heap.size + 1 ≠ w.heap.size + 1 + 1 := by have := hz1; omega
  go_region_held3 (fun w' => w'.cell? ⟨w1.heap.size, 0, none⟩ = some (.int .u64 (wd S 0 : Int)) ∧ w'.cell? ⟨w1.heap.size, 1, none⟩ = some (.int .u64 (wd S 1 : Int)) ∧ w'.cell? ⟨w1.heap.size, 2, none⟩ = some (.int .u64 (wd S 2 : Int)) ∧ w'.cell? ⟨w1.heap.size, 3, none⟩ = some (.int .u64 (wd S 3 : Int)) ∧ w'.cell? ⟨w1.heap.size + 1, 0, none⟩ = some (.int .u64 (wd H 0 : Int)) ∧ w'.cell? ⟨w1.heap.size + 1, 1, none⟩ = some (.int .u64 (wd H 1 : Int)) ∧ w'.cell? ⟨w1.heap.size + 1, 2, none⟩ = some (.int .u64 (wd H 2 : Int)) ∧ w'.cell? ⟨w1.heap.size + 1, 3, none⟩ = some (.int .u64 (wd H 3 : Int))) (first | (with_reducible exact ⟨p0, p1, p2, p3, q0, q1, q2, q3⟩) | (with_reducible exact cells8 r4 s4) | (with_reducible exact cells8 r5 s5) | (with_reducible exact cells8 (r5.far hne1) (s5.far hne2)) | go_keep) (first
    | (go_at_call 10; go_must (refine (K3.out _).mono ?_); rintro e w4 ⟨rfl, hb4⟩
       have r4 := (show IsA Y.drew _ _ _ from R5.out).keep hb4
       have s4 := (show IsA Y.drew _ _ _ from R6.out).keep hb4
       have x4 := (show IsA Y.drew _ _ _ from XR2.out).keep hb4
       have B4 := HB2.out.drew.trans (hb4.mono HB2.out.size)
       obtain ⟨⟨m0, m1, m2, m3⟩, _⟩ := fourV r4
       obtain ⟨⟨n0, n1, n2, n3⟩, _⟩ := fourV s4)
    | (go_at_call 23; go_must (refine (K4.out _).mono ?_); rintro e w5 ⟨rfl, hb5⟩
       have r5 := r4.keep hb5
       have s5 := s4.keep hb5
       have x5 := x4.keep hb5
       have B5 := B4.trans (hb5.mono B4.size)
       obtain ⟨⟨d0, d1, d2, d3⟩, e0, e1, e2, e3⟩ := fourV x5))
  all_goals
    have rR := isA_set (n := R) x5
    have bR := set4_below (v0 := .int .u64 (wd R 0 : Int)) (v1 := .int .u64 (wd R 1 : Int)) (v2 := .int .u64 (wd R 2 : Int)) (v3 := .int .u64 (wd R 3 : Int)) B5 (b := w.heap.size + 1 + 1) (by omega)
    have kl := load_num rR
    have KL := Lib.hid kl
    have BR := Lib.hid bR
    clear kl bR rR
    go_wp2_with fail
    exact bodyPost_ret (results_arr Try.results36 (by rfl) KL.out) rfl ⟨rfl, BR.out⟩
end Go.Proofs.Ythalmomheecpcaa
