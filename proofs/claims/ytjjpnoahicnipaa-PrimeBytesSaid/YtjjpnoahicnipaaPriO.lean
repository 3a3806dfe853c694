/- prime.Of (layer 19): its contract. -/
import Derived.Test.YtjjpnoahicnipaaPriN
import Derived.Test.YtjjpnoahicnipaaWidR
namespace Go.Proofs.Ytjjpnoahicnipaa
open Go.RowKit
theorem leN_B (s : ByteArray) (hs : s.size = 32) : leN s.data.toList < B64 ^ 4 := by
  have h := leN_lt s.data.toList
  rw [show s.data.toList.length = 32 by rw [← hs]; rfl, show (256 : Nat) ^ 32 = B64 ^ 4 by decide +kernel] at h
  exact h
set_option maxHeartbeats 4000000 in
theorem pof_short (s : ByteArray) (w : World) (hs : s.size ≠ 32) : Calls Try.prog 8 #[.string s] w fun e w' => e = .returned (.tuple #[numV 0, .int .i64 1]) ∧ Below w.heap.size w w' := by
  have K1 := Lib.hid (fun w => of_short s w hs)
  obtain ⟨xr, xz, xB⟩ := z1_at 27 w
  rw [num_zero] at K1 ⊢
  clear hs
  go_enter Try.func8, Try.ntmps8
  go_wp2_with fail
  change Calls _ _ _ (Z1 27 w) _
  generalize Z1 27 w = X at *
  refine (K1.out X).mono ?_
  rintro e w1 ⟨rfl, hb1⟩
  have xr2 := isA_zero' ((xr.keep hb1).alloc (.cells #[.int .u64 0, .int .u64 0, .int .u64 0, .int .u64 0] 25))
  obtain ⟨⟨d0, d1, d2, d3⟩, e0, e1, e2, e3⟩ := fourV xr2
  have kl := load_el (isA_zero (set4_row (v0 := .int .u64 0) (v1 := .int .u64 0) (v2 := .int .u64 0) (v3 := .int .u64 0) xr2))
  rw [num_zero] at kl
  have KL := Lib.hid kl
  have BR := Lib.hid (b_set4 (b_alloc (b_callsS hb1 xB (Nat.le_refl _)) (.cells #[.int .u64 0, .int .u64 0, .int .u64 0, .int .u64 0] 25)) (v0 := .int .u64 0) (v1 := .int .u64 0) (v2 := .int .u64 0) (v3 := .int .u64 0) (b := w.heap.size) (Nat.le_refl _))
  clear kl xr2 xr xB hb1
  go_wp2_with fail
  exact bodyPost_ret (results_arr_tmp Try.results8 (by rfl) (by rfl) KL.out) rfl ⟨rfl, BR.out⟩
set_option maxHeartbeats 8000000 in
theorem pof_any (s : ByteArray) (w : World) (hs : s.size = 32) : Calls Try.prog 8 #[.string s] w fun e w' => e = .returned (.tuple (if leN s.data.toList < PN then #[numV (leN s.data.toList), .int .i64 0] else #[numV 0, .int .i64 2])) ∧ Below w.heap.size w w' := by
  have HMIX := Lib.hid (show Try.prog.follows .mixedOrders = true by kernel_rfl)
  have hnB := leN_B s hs
  have K1 := Lib.hid (fun w => of_any s w hs)
  obtain ⟨n, hn⟩ : ∃ n, leN s.data.toList = n := ⟨_, rfl⟩
  rw [hn] at K1 hnB
  rw [hn]
  have K2 := Lib.hid p_any
  have K3 := Lib.hid (fun w => cmp_any n PN w hnB PN_B)
  have cge := mod_cmp_ge n
  have clt := mod_cmp_lt n
  obtain ⟨C, hC⟩ : ∃ C, cmpI n PN = C := ⟨_, rfl⟩
  rw [hC] at K3 cge clt
  obtain ⟨p, hp⟩ : ∃ p, PN = p := ⟨_, rfl⟩
  rw [hp] at K2 K3 cge clt ⊢
  obtain ⟨xr, xz, xB⟩ := z1_at 27 w
  rw [num_zero]
  simp only [numV_agg] at K1 K2 K3 ⊢
  have hc1 : p ≤ n → (0 : Int) ≤ C := cge
  have hc2 : n < p → ¬ (0 : Int) ≤ C := clt
  clear hs hn hnB hC hp cge clt
  by_cases hlt : n < p
  · have q1 := hc2 hlt
    rw [if_pos hlt]
    clear hc1 hc2 hlt
    go_enter Try.func8, Try.ntmps8
    go_wp2_with fail
    change Calls _ _ _ (Z1 27 w) _
    generalize Z1 27 w = X at *
    refine (K1.out X).mono ?_
    rintro e w1 ⟨rfl, hb1⟩
    have hs1 : w.heap.size + 1 ≤ w1.heap.size := by have := hb1.size; omega
    have XR := Lib.hid ((xr.keep hb1).alloc (.cells #[.int .u64 (wd n 0 : Int), .int .u64 (wd n 1 : Int), .int .u64 (wd n 2 : Int), .int .u64 (wd n 3 : Int)] 25))
    have XB := Lib.hid (b_alloc (b_callsS hb1 xB (Nat.le_refl _)) (.cells #[.int .u64 (wd n 0 : Int), .int .u64 (wd n 1 : Int), .int .u64 (wd n 2 : Int), .int .u64 (wd n 3 : Int)] 25))
    have XA : Hid (IsA (w1.alloc (.cells #[.int .u64 (wd n 0 : Int), .int .u64 (wd n 1 : Int), .int .u64 (wd n 2 : Int), .int .u64 (wd n 3 : Int)] 25)) w1.heap.size n 25) := (alloc_new w1 _ :)
    clear xr xz xB hb1 K1
    obtain ⟨⟨p0, p1, p2, p3⟩, _⟩ := fourV XA.out
    have D0 := fun d os => cell_regrown p0 d os
    have D1 := fun d os => cell_regrown p1 d os
    have D2 := fun d os => cell_regrown p2 d os
    have D3 := fun d os => cell_regrown p3 d os
    clear p0 p1 p2 p3
    go_wp2_with fail
    generalize w1.alloc (.cells #[.int .u64 (wd n 0 : Int), .int .u64 (wd n 1 : Int), .int .u64 (wd n 2 : Int), .int .u64 (wd n 3 : Int)] 25) = Y at *
    refine wp_region_quiet_below HMIX.out (by kernel_rfl) ?_
    repeat (go_big_quiet_step (first
      | (go_at_call 13; exact Calls.regrown_of (K2.out _))
      | (go_at_call 36; exact Calls.regrown_of (K3.out _))))
    refine wpQuiet_nil ?_
    intro _ hw'
    obtain ⟨⟨nq1, os1⟩, hw''⟩ := hw'
    subst hw''
    have xa := isA_calls (below_regrown Y nq1 os1) XA.out (Nat.le_refl _)
    have xr := isA_zero' (isA_calls (below_regrown Y nq1 os1) XR.out (Nat.le_refl _))
    have xB := b_callsS (below_regrown Y nq1 os1) XB.out (Nat.le_refl _)
    clear D0 D1 D2 D3 XA XR XB K2 K3
    generalize Sort.grow (redrawn Y nq1) os1 = U2 at xa xr xB ⊢
    obtain ⟨⟨p0, p1, p2, p3⟩, _⟩ := fourV xa
    obtain ⟨⟨d0, d1, d2, d3⟩, e0, e1, e2, e3⟩ := fourV xr
    have KL := Lib.hid (load_el (isA_set (n := n) xr))
    have BR := Lib.hid (b_set4 xB (v0 := .int .u64 (wd n 0 : Int)) (v1 := .int .u64 (wd n 1 : Int)) (v2 := .int .u64 (wd n 2 : Int)) (v3 := .int .u64 (wd n 3 : Int)) (b := w.heap.size) (Nat.le_refl _))
    clear xa xr xB
    go_wp2_with fail
    exact bodyPost_ret (results_arr_tmp Try.results8 (by rfl) (by rfl) KL.out) rfl ⟨rfl, BR.out⟩
  · have q1 := hc1 (Nat.le_of_not_lt hlt)
    rw [if_neg hlt]
    clear hc1 hc2 hlt
    go_enter Try.func8, Try.ntmps8
    go_wp2_with fail
    change Calls _ _ _ (Z1 27 w) _
    generalize Z1 27 w = X at *
    refine (K1.out X).mono ?_
    rintro e w1 ⟨rfl, hb1⟩
    have hs1 : w.heap.size + 1 ≤ w1.heap.size := by have := hb1.size; omega
    have XR := Lib.hid ((xr.keep hb1).alloc (.cells #[.int .u64 (wd n 0 : Int), .int .u64 (wd n 1 : Int), .int .u64 (wd n 2 : Int), .int .u64 (wd n 3 : Int)] 25))
    have XB := Lib.hid (b_alloc (b_callsS hb1 xB (Nat.le_refl _)) (.cells #[.int .u64 (wd n 0 : Int), .int .u64 (wd n 1 : Int), .int .u64 (wd n 2 : Int), .int .u64 (wd n 3 : Int)] 25))
    have XA : Hid (IsA (w1.alloc (.cells #[.int .u64 (wd n 0 : Int), .int .u64 (wd n 1 : Int), .int .u64 (wd n 2 : Int), .int .u64 (wd n 3 : Int)] 25)) w1.heap.size n 25) := (alloc_new w1 _ :)
    clear xr xz xB hb1 K1
    obtain ⟨⟨p0, p1, p2, p3⟩, _⟩ := fourV XA.out
    have D0 := fun d os => cell_regrown p0 d os
    have D1 := fun d os => cell_regrown p1 d os
    have D2 := fun d os => cell_regrown p2 d os
    have D3 := fun d os => cell_regrown p3 d os
    clear p0 p1 p2 p3
    go_wp2_with fail
    generalize w1.alloc (.cells #[.int .u64 (wd n 0 : Int), .int .u64 (wd n 1 : Int), .int .u64 (wd n 2 : Int), .int .u64 (wd n 3 : Int)] 25) = Y at *
    refine wp_region_quiet_below HMIX.out (by kernel_rfl) ?_
    repeat (go_big_quiet_step (first
      | (go_at_call 13; exact Calls.regrown_of (K2.out _))
      | (go_at_call 36; exact Calls.regrown_of (K3.out _))))
    refine wpQuiet_nil ?_
    intro _ hw'
    obtain ⟨⟨nq1, os1⟩, hw''⟩ := hw'
    subst hw''
    have xr := isA_zero' (isA_calls (below_regrown Y nq1 os1) XR.out (Nat.le_refl _))
    have xB := b_callsS (below_regrown Y nq1 os1) XB.out (Nat.le_refl _)
    clear D0 D1 D2 D3 XA XR XB K2 K3
    generalize Sort.grow (redrawn Y nq1) os1 = U2 at xr xB ⊢
    obtain ⟨⟨d0, d1, d2, d3⟩, e0, e1, e2, e3⟩ := fourV xr
    have kl := load_el (isA_zero (set4_row (v0 := .int .u64 0) (v1 := .int .u64 0) (v2 := .int .u64 0) (v3 := .int .u64 0) xr))
    rw [num_zero] at kl
    have KL := Lib.hid kl
    have BR := Lib.hid (b_set4 xB (v0 := .int .u64 0) (v1 := .int .u64 0) (v2 := .int .u64 0) (v3 := .int .u64 0) (b := w.heap.size) (Nat.le_refl _))
    clear xr xB kl
    go_wp2_with fail
    exact bodyPost_ret (results_arr_tmp Try.results8 (by rfl) (by rfl) KL.out) rfl ⟨rfl, BR.out⟩
end Go.Proofs.Ytjjpnoahicnipaa
