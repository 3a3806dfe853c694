/- The reference's Mod, and the law's El and is (layer 19): contracts. -/
import Derived.Test.YthdbadomppohbaaPriM
namespace Go.Proofs.Ythdbadomppohbaa
set_option maxRecDepth 20000
set_option linter.unusedSimpArgs false
set_option linter.unusedVariables false
open Go.RowKit
theorem mod_B (n : Nat) : n % PN < B64 ^ 4 := of_PN (Nat.mod_lt _ PN_pos)
set_option maxHeartbeats 4000000 in
theorem rmod_any (n : Nat) (w : World) (hn : n < B64 ^ 4) : Calls Try.prog 6 #[numV n] w fun e w' => e = .returned (numV (n % PN)) ∧ Below w.heap.size w w' := by
  have K1 := Lib.hid (fun w => rof_any n w hn)
  have K2 := Lib.hid (fun g w (h : OwnN w g 16 n) => fold_any g 16 16 n w (h.is 16 (Nat.le_refl _)) (by omega) (by omega))
  obtain ⟨R, hR⟩ : ∃ R, n % PN = R := ⟨_, rfl⟩
  rw [hR] at K2 ⊢
  obtain ⟨xa, xr, xz, xB⟩ := a2_at n 23 23 w
  simp only [numV_agg] at K1 K2 ⊢
  obtain ⟨⟨p0, p1, p2, p3⟩, _⟩ := fourV xa
  clear hR hn
  go_enter Try.func6, Try.ntmps6
  go_wp2_with fail
  change Calls _ _ _ (A2 n 23 23 w) _
  generalize A2 n 23 23 w = X at *
  refine (K1.out X).mono ?_
  rintro e w1 ⟨g, rfl, ho, hg, hb1⟩
  have XR := Lib.hid (xr.keep hb1)
  have XB := Lib.hid (b_callsS hb1 xB (Nat.le_refl _))
  have HO := Lib.hid ho
  clear xa xr xB hb1 ho p0 p1 p2 p3
  go_wp2_with fail
  refine (K2.out g w1 HO.out).mono ?_
  rintro e w2 ⟨rfl, hb2⟩
  have xr2 := isA_zero' (XR.out.keep hb2)
  obtain ⟨⟨d0, d1, d2, d3⟩, e0, e1, e2, e3⟩ := fourV xr2
  have KL := Lib.hid (load_arr (isA_set (n := R) xr2))
  have BR := Lib.hid (b_set4 (b_callsS hb2 XB.out (Nat.le_refl _)) (v0 := .int .u64 (wd R 0 : Int)) (v1 := .int .u64 (wd R 1 : Int)) (v2 := .int .u64 (wd R 2 : Int)) (v3 := .int .u64 (wd R 3 : Int)) (b := w.heap.size + 1) (by omega))
  clear xr2 XR XB HO hb2
  go_wp2_with fail
  exact bodyPost_ret (results_arr Try.results6 (by rfl) KL.out) rfl ⟨rfl, BR.out⟩
theorem el_any (n : Nat) (w : World) (hn : n < B64 ^ 4) : Calls Try.prog 8 #[numV n] w fun e w' => e = .returned (numV (n % PN)) ∧ Below w.heap.size w w' := by
  have K := Lib.hid (fun w => pmod_any n w hn)
  obtain ⟨R, hR⟩ : ∃ R, n % PN = R := ⟨_, rfl⟩
  rw [hR] at K ⊢
  obtain ⟨xa, xr, xz, xB⟩ := a2_at n 23 28 w
  simp only [numV_agg] at K ⊢
  obtain ⟨⟨p0, p1, p2, p3⟩, _⟩ := fourV xa
  clear hR hn
  go_enter Try.func8, Try.ntmps8
  go_wp2_with fail
  change Calls _ _ _ (A2 n 23 28 w) _
  generalize A2 n 23 28 w = X at *
  refine (K.out X).mono ?_
  rintro e w1 ⟨rfl, hb1⟩
  have xr1 := isA_zero' (xr.keep hb1)
  obtain ⟨⟨d0, d1, d2, d3⟩, e0, e1, e2, e3⟩ := fourV xr1
  have KL := Lib.hid (load_el (isA_set (n := R) xr1))
  have BR := Lib.hid (b_set4 (b_callsS hb1 xB (Nat.le_refl _)) (v0 := .int .u64 (wd R 0 : Int)) (v1 := .int .u64 (wd R 1 : Int)) (v2 := .int .u64 (wd R 2 : Int)) (v3 := .int .u64 (wd R 3 : Int)) (b := w.heap.size + 1) (by omega))
  clear xa xr xr1 xB hb1
  go_wp2_with fail
  exact bodyPost_ret (results_arr Try.results8 (by rfl) KL.out) rfl ⟨rfl, BR.out⟩
def A2n (a b : Nat) (t u : TypeId) (w : World) : World := (w.alloc (.cells #[.int .u64 (wd a 0 : Int), .int .u64 (wd a 1 : Int), .int .u64 (wd a 2 : Int), .int .u64 (wd a 3 : Int)] t)).alloc (.cells #[.int .u64 (wd b 0 : Int), .int .u64 (wd b 1 : Int), .int .u64 (wd b 2 : Int), .int .u64 (wd b 3 : Int)] u)
theorem a2n_at (a b : Nat) (t u : TypeId) (w : World) : IsA (A2n a b t u w) w.heap.size a t ∧ IsA (A2n a b t u w) (w.heap.size + 1) b u ∧ (A2n a b t u w).heap.size = w.heap.size + 2 ∧ Below w.heap.size w (A2n a b t u w) :=
  ⟨isA_a1 w a t _, alloc_new1 w _ _, by unfold A2n; simp, gr_alloc (gr_alloc (Below.refl _ _) _) _⟩
end Go.Proofs.Ythdbadomppohbaa
