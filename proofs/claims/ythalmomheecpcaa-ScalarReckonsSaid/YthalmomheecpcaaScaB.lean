/- scalar.Of, scalar.Reduce (layer 22): contracts. -/
import Derived.Test.YthalmomheecpcaaScaA
import Derived.Test.YthalmomheecpcaaShelfRep
namespace Go.Proofs.Ythalmomheecpcaa
open Go.RowKit
theorem num_zero : numV 0 = .agg #[.int .u64 0, .int .u64 0, .int .u64 0, .int .u64 0] := by unfold numV; simp [wd]
theorem isA_zero {W : World} {b : Nat} {t : TypeId} (h : W.heap[b]? = some (.cells #[.int .u64 0, .int .u64 0, .int .u64 0, .int .u64 0] t (0, 0))) : IsA W b 0 t := by
  unfold IsA
  rw [h]
  simp [wd]
theorem isA_zero' {W : World} {b : Nat} {t : TypeId} (h : IsA W b 0 t) : W.heap[b]? = some (.cells #[.int .u64 0, .int .u64 0, .int .u64 0, .int .u64 0] t (0, 0)) := by
  unfold IsA at h
  rw [h]
  simp [wd]
def Z1 (w : World) : World := w.alloc (.cells #[.int .u64 0, .int .u64 0, .int .u64 0, .int .u64 0] 25)
theorem z1_at (w : World) : IsA (Z1 w) w.heap.size 0 25 ∧ (Z1 w).heap.size = w.heap.size + 1 ∧ Below w.heap.size w (Z1 w) := ⟨isA_zero (alloc_new w _), by unfold Z1; simp, gr_alloc (Below.refl _ _) _⟩
set_option maxHeartbeats 2000000 in
theorem scof_short (s : ByteArray) (w : World) (hs : s.size ≠ 32) :
    Calls Try.prog 6 #[.string s] w fun e w' => e = .returned (.tuple #[numV 0, .int .i64 1]) ∧ Below w.heap.size w w' := by
  have K1 := Lib.hid (fun w => of_short s w hs)
  obtain ⟨xr, xz, xB⟩ := z1_at w
  have e0 := num_zero
  rw [e0] at K1 ⊢
  clear hs
  go_enter Try.func6, Try.ntmps6
  go_wp2_with fail
  change Calls _ _ _ (Z1 w) _
  generalize Z1 w = X at *
  refine (K1.out X).mono ?_
  rintro e w1 ⟨rfl, hb1⟩
  have xr1 := xr.keep hb1
  have hB1 : Below w.heap.size w w1 := xB.trans (hb1.mono (by omega))
  have xr2 := isA_zero' (xr1.alloc (.cells #[.int .u64 0, .int .u64 0, .int .u64 0, .int .u64 0] 25))
  have hB2 := gr_allocB hB1 (by have := lt_blk xr1; omega) (.cells #[.int .u64 0, .int .u64 0, .int .u64 0, .int .u64 0] 25)
  obtain ⟨⟨d0, d1, d2, d3⟩, e0, e1, e2, e3⟩ := fourV xr2
  have kl := load_num (isA_zero (set4_row (v0 := .int .u64 0) (v1 := .int .u64 0) (v2 := .int .u64 0) (v3 := .int .u64 0) xr2))
  have bR := set4_below (v0 := .int .u64 0) (v1 := .int .u64 0) (v2 := .int .u64 0) (v3 := .int .u64 0) hB2 (b := w.heap.size) (Nat.le_refl _)
  rw [num_zero] at kl
  have KL := Lib.hid kl
  have BR := Lib.hid bR
  clear kl bR xr xr1 hB1 hB2 xr2
  go_wp2_with fail
  exact bodyPost_ret (results_arr_tmp Try.results6 (by rfl) (by rfl) KL.out) rfl ⟨rfl, BR.out⟩
theorem cmp_below {a b : Nat} (h : a < b) : cmpI a b = -1 := by unfold cmpI; rw [if_pos h]
theorem cmp_least {a b : Nat} (h : ¬ a < b) : 0 ≤ cmpI a b := by unfold cmpI; rw [if_neg h]; split <;> decide
set_option maxHeartbeats 4000000 in
theorem scof_any (s : ByteArray) (w : World) (hs : s.size = 32) :
    Calls Try.prog 6 #[.string s] w fun e w' => e = .returned (if leN s.data.toList < LN then .tuple #[numV (leN s.data.toList), .int .i64 0] else .tuple #[numV 0, .int .i64 23]) ∧ Below w.heap.size w w' := by
  have K1 := Lib.hid (fun w => of_any s w hs)
  have hn : leN s.data.toList < B64 ^ 4 := by
    have h := leN_lt s.data.toList
    rw [← Lib.size_eq s, hs] at h
    exact Nat.lt_of_lt_of_le h (by decide)
  obtain ⟨n, hN⟩ : ∃ n, leN s.data.toList = n := ⟨_, rfl⟩
  rw [hN] at K1 hn ⊢
  have K2 := Lib.hid l_any
  have K3 := Lib.hid (fun w => cmp_any n LN w hn LN_lt)
  obtain ⟨c, hc⟩ : ∃ c, cmpI n LN = c := ⟨_, rfl⟩
  have hc1 : n < LN → c = -1 := fun h => by rw [← hc]; exact cmp_below h
  have hc2 : ¬ n < LN → 0 ≤ c := fun h => by rw [← hc]; exact cmp_least h
  rw [hc] at K3
  obtain ⟨Lv, hLv⟩ : ∃ Lv, LN = Lv := ⟨_, rfl⟩
  rw [hLv] at K2 K3 hc1 hc2 ⊢
  obtain ⟨xr, xz, xB⟩ := z1_at w
  have en := num_zero
  rw [en]
  simp only [numV_agg] at K1 K2 K3 ⊢
  clear hN hc hLv hs hn en
  by_cases hlt : n < Lv
  · obtain rfl := hc1 hlt
    rw [if_pos hlt]
    clear hc1 hc2 hlt
    go_enter Try.func6, Try.ntmps6
    go_wp2_with fail
    change Calls _ _ _ (Z1 w) _
    generalize Z1 w = X at *
    refine (K1.out X).mono ?_
    rintro e w1 ⟨rfl, hb1⟩
    have xr1 := xr.keep hb1
    have hB1 : Below w.heap.size w w1 := xB.trans (hb1.mono (by omega))
    have hz1 : w.heap.size < w1.heap.size := by have := lt_blk xr1; omega
    have R5 : Hid (IsA (w1.alloc (.cells #[.int .u64 (wd n 0 : Int), .int .u64 (wd n 1 : Int), .int .u64 (wd n 2 : Int), .int .u64 (wd n 3 : Int)] 25)) w1.heap.size n 25) := (alloc_new w1 _ :)
    have XR2 := Lib.hid (xr1.alloc (.cells #[.int .u64 (wd n 0 : Int), .int .u64 (wd n 1 : Int), .int .u64 (wd n 2 : Int), .int .u64 (wd n 3 : Int)] 25))
    have HB2 := Lib.hid (gr_allocB hB1 (by omega) (.cells #[.int .u64 (wd n 0 : Int), .int .u64 (wd n 1 : Int), .int .u64 (wd n 2 : Int), .int .u64 (wd n 3 : Int)] 25))
    clear xr xr1 hB1 xB hb1
    go_wp2_with fail
    generalize w1.alloc (.cells #[.int .u64 (wd n 0 : Int), .int .u64 (wd n 1 : Int), .int .u64 (wd n 2 : Int), .int .u64 (wd n 3 : Int)] 25) = Y at HB2 XR2 R5 ⊢
    obtain ⟨⟨p0, p1, p2, p3⟩, _⟩ := fourV R5.out
    go_region_held3 (fun w' => w'.cell? ⟨w1.heap.size, 0, none⟩ = some (.int .u64 (wd n 0 : Int)) ∧ w'.cell? ⟨w1.heap.size, 1, none⟩ = some (.int .u64 (wd n 1 : Int)) ∧ w'.cell? ⟨w1.heap.size, 2, none⟩ = some (.int .u64 (wd n 2 : Int)) ∧ w'.cell? ⟨w1.heap.size, 3, none⟩ = some (.int .u64 (wd n 3 : Int))) (first | (with_reducible exact ⟨p0, p1, p2, p3⟩) | (with_reducible exact cells4 r3) | (with_reducible exact cells4 r4) | go_keep) (first
      | (go_at_call 10; go_must (refine (K2.out _).mono ?_); rintro e w3 ⟨rfl, hb3⟩
         have r3 := (show IsA Y.drew _ _ _ from R5.out).keep hb3
         have x3 := (show IsA Y.drew _ _ _ from XR2.out).keep hb3
         have B3 := HB2.out.drew.trans (hb3.mono HB2.out.size)
         obtain ⟨⟨k0, k1, k2, k3⟩, _⟩ := fourV r3)
      | (go_at_call 21; go_must (refine (K3.out _).mono ?_); rintro e w4 ⟨rfl, hb4⟩
         have r4 := r3.keep hb4
         have x4 := x3.keep hb4
         have B4 := B3.trans (hb4.mono B3.size)
         obtain ⟨⟨m0, m1, m2, m3⟩, _⟩ := fourV r4))
    all_goals
      obtain ⟨⟨d0, d1, d2, d3⟩, e0, e1, e2, e3⟩ := fourV x4
      have KL := Lib.hid (load_num (isA_set (n := n) x4))
      have BR := Lib.hid (set4_below (v0 := .int .u64 (wd n 0 : Int)) (v1 := .int .u64 (wd n 1 : Int)) (v2 := .int .u64 (wd n 2 : Int)) (v3 := .int .u64 (wd n 3 : Int)) B4 (b := w.heap.size) (Nat.le_refl _))
      go_wp2_with fail
      exact bodyPost_ret (results_arr_tmp Try.results6 (by rfl) (by rfl) KL.out) rfl ⟨rfl, BR.out⟩
  · have hc0 := hc2 hlt
    rw [if_neg hlt]
    clear hc1 hc2 hlt
    go_enter Try.func6, Try.ntmps6
    go_wp2_with fail
    change Calls _ _ _ (Z1 w) _
    generalize Z1 w = X at *
    refine (K1.out X).mono ?_
    rintro e w1 ⟨rfl, hb1⟩
    have xr1 := xr.keep hb1
    have hB1 : Below w.heap.size w w1 := xB.trans (hb1.mono (by omega))
    have hz1 : w.heap.size < w1.heap.size := by have := lt_blk xr1; omega
    have R5 : Hid (IsA (w1.alloc (.cells #[.int .u64 (wd n 0 : Int), .int .u64 (wd n 1 : Int), .int .u64 (wd n 2 : Int), .int .u64 (wd n 3 : Int)] 25)) w1.heap.size n 25) := (alloc_new w1 _ :)
    have XR2 := Lib.hid (xr1.alloc (.cells #[.int .u64 (wd n 0 : Int), .int .u64 (wd n 1 : Int), .int .u64 (wd n 2 : Int), .int .u64 (wd n 3 : Int)] 25))
    have HB2 := Lib.hid (gr_allocB hB1 (by omega) (.cells #[.int .u64 (wd n 0 : Int), .int .u64 (wd n 1 : Int), .int .u64 (wd n 2 : Int), .int .u64 (wd n 3 : Int)] 25))
    clear xr xr1 hB1 xB hb1
    go_wp2_with fail
    generalize w1.alloc (.cells #[.int .u64 (wd n 0 : Int), .int .u64 (wd n 1 : Int), .int .u64 (wd n 2 : Int), .int .u64 (wd n 3 : Int)] 25) = Y at HB2 XR2 R5 ⊢
    obtain ⟨⟨p0, p1, p2, p3⟩, _⟩ := fourV R5.out
    go_region_held3 (fun w' => w'.cell? ⟨w1.heap.size, 0, none⟩ = some (.int .u64 (wd n 0 : Int)) ∧ w'.cell? ⟨w1.heap.size, 1, none⟩ = some (.int .u64 (wd n 1 : Int)) ∧ w'.cell? ⟨w1.heap.size, 2, none⟩ = some (.int .u64 (wd n 2 : Int)) ∧ w'.cell? ⟨w1.heap.size, 3, none⟩ = some (.int .u64 (wd n 3 : Int))) (first | (with_reducible exact ⟨p0, p1, p2, p3⟩) | (with_reducible exact cells4 r3) | (with_reducible exact cells4 r4) | go_keep) (first
      | (go_at_call 10; go_must (refine (K2.out _).mono ?_); rintro e w3 ⟨rfl, hb3⟩
         have r3 := (show IsA Y.drew _ _ _ from R5.out).keep hb3
         have x3 := (show IsA Y.drew _ _ _ from XR2.out).keep hb3
         have B3 := HB2.out.drew.trans (hb3.mono HB2.out.size)
         obtain ⟨⟨k0, k1, k2, k3⟩, _⟩ := fourV r3)
      | (go_at_call 21; go_must (refine (K3.out _).mono ?_); rintro e w4 ⟨rfl, hb4⟩
         have r4 := r3.keep hb4
         have x4 := x3.keep hb4
         have B4 := B3.trans (hb4.mono B3.size)
         obtain ⟨⟨m0, m1, m2, m3⟩, _⟩ := fourV r4))
    all_goals
      have x5 := isA_zero' x4
      obtain ⟨⟨d0, d1, d2, d3⟩, e0, e1, e2, e3⟩ := fourV x5
      have kl := load_num (isA_zero (set4_row (v0 := .int .u64 0) (v1 := .int .u64 0) (v2 := .int .u64 0) (v3 := .int .u64 0) x5))
      rw [num_zero] at kl
      have KL := Lib.hid kl
      have BR := Lib.hid (set4_below (v0 := .int .u64 0) (v1 := .int .u64 0) (v2 := .int .u64 0) (v3 := .int .u64 0) B4 (b := w.heap.size) (Nat.le_refl _))
      clear kl x5
      go_wp2_with fail
      exact bodyPost_ret (results_arr_tmp Try.results6 (by rfl) (by rfl) KL.out) rfl ⟨rfl, BR.out⟩
end Go.Proofs.Ythalmomheecpcaa
