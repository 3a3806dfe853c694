/- The reference's Small, Mul, Add, Sub (layer 19): contracts. -/
import Derived.Test.YthdbadomppohbaaPriN
import Derived.Test.YthdbadomppohbaaPrq
namespace Go.Proofs.Ythdbadomppohbaa
set_option maxRecDepth 20000
set_option linter.unusedSimpArgs false
set_option linter.unusedVariables false
open Go.RowKit
theorem C8.far {w : World} {b n c m d : Nat} {v0 v1 v2 v3 : Value} (h : C8 w b n c m) (h1 : b ≠ d) (h2 : c ≠ d) : C8 ((((w.setCell ⟨d, 0, none⟩ v0).setCell ⟨d, 1, none⟩ v1).setCell ⟨d, 2, none⟩ v2).setCell ⟨d, 3, none⟩ v3) b n c m := C8.of (h.left.far h1) (h.right.far h2)
def A3r (a b : Nat) (w : World) : World := ((w.alloc (.cells #[.int .u64 (wd a 0 : Int), .int .u64 (wd a 1 : Int), .int .u64 (wd a 2 : Int), .int .u64 (wd a 3 : Int)] 23)).alloc (.cells #[.int .u64 (wd b 0 : Int), .int .u64 (wd b 1 : Int), .int .u64 (wd b 2 : Int), .int .u64 (wd b 3 : Int)] 23)).alloc (.cells #[.int .u64 0, .int .u64 0, .int .u64 0, .int .u64 0] 23)
theorem a3r_at (a b : Nat) (w : World) : IsA (A3r a b w) w.heap.size a 23 ∧ IsA (A3r a b w) (w.heap.size + 1) b 23 ∧ IsA (A3r a b w) (w.heap.size + 1 + 1) 0 23 ∧ (A3r a b w).heap.size = w.heap.size + 3 ∧ Below w.heap.size w (A3r a b w) := by
  unfold A3r
  refine ⟨(isA_a1 w a _ _).alloc _, (alloc_keep (alloc_new1 w _ _) _ : _), isA_zero (alloc_new2 w _ _ _), by simp, gr_alloc (gr_alloc (gr_alloc (Below.refl _ _) _) _) _⟩
theorem rsmallp_any (a : Nat) (w : World) (ha : a < 18446744073709551616) : Calls Try.prog 40 #[.int .u64 (a : Int)] w fun e w' => e = .returned (numV a) ∧ Below w.heap.size w w' := by
  have hx : (numL a).toArray = #[.int .u64 (a : Int), .int .u64 0, .int .u64 0, .int .u64 0] := numL_small a ha
  have kl := load_arr (W := w.alloc (.cells (numL a).toArray 23)) (b := w.heap.size) (n := a) (alloc_new _ _)
  rw [hx] at kl
  have KL := Lib.hid kl
  clear kl hx
  go_enter Try.func40, Try.ntmps40
  go_wp2_with fail
  exact bodyPost_ret (results_arr Try.results40 (by rfl) KL.out) rfl ⟨rfl, gr_alloc (Below.refl _ _) _⟩
set_option maxHeartbeats 8000000 in
theorem rmulp_any (a b : Nat) (w : World) (ha : a < B64 ^ 4) (hb : b < B64 ^ 4) :
    Calls Try.prog 37 #[numV a, numV b] w fun e w' => e = .returned (numV (a * b % PN)) ∧ Below w.heap.size w w' := by
  have KOa := Lib.hid (fun w => rof_any a w ha)
  have KOb := Lib.hid (fun w => rof_any b w hb)
  have KM := Lib.hid (fun g h w (h1 : OwnN w g 16 a) (h2 : OwnN w h 16 b) => rmul_any g h 16 16 16 16 a b w (h1.is 16 (Nat.le_refl _)) (h2.is 16 (Nat.le_refl _)) (by omega) (by omega) (by omega) (by omega))
  have KF := Lib.hid (fun g w (h : OwnN w g 32 (a * b)) => fold_any g 32 32 (a * b) w (h.is 32 (Nat.le_refl _)) (by omega) (by omega))
  obtain ⟨R, hR⟩ : ∃ R, a * b % PN = R := ⟨_, rfl⟩
  have HR := Lib.hid hR
  rw [hR]
  obtain ⟨xa, xb, xr, xz, xB⟩ := a3r_at a b w
  simp only [numV_agg] at KOa KOb ⊢
  clear hR ha hb
  go_enter Try.func37, Try.ntmps37
  go_wp2_with fail
  change Code.wp _ _ _ _ (A3r a b w)
  generalize A3r a b w = X at *
  have hC : C8 X w.heap.size a (w.heap.size + 1) b := C8.of (cells4 xa) (cells4 xb)
  have hCd : C8 X.drew w.heap.size a (w.heap.size + 1) b := hC
  have XR := Lib.hid xr
  have XBl := xB
  have hxz : w.heap.size + 3 ≤ X.heap.size := by omega
  have hne1 : w.heap.size ≠ w.heap.size + 1 + 1 := by omega
  have hne2 : w.heap.size + 1 ≠ w.heap.size + 1 + 1 := by omega
  clear xa xb xr xz xB
  go_region_held3 (fun w' => w'.cell? ⟨w.heap.size, 0, none⟩ = some (.int .u64 (wd a 0 : Int)) ∧ w'.cell? ⟨w.heap.size, 1, none⟩ = some (.int .u64 (wd a 1 : Int)) ∧ w'.cell? ⟨w.heap.size, 2, none⟩ = some (.int .u64 (wd a 2 : Int)) ∧ w'.cell? ⟨w.heap.size, 3, none⟩ = some (.int .u64 (wd a 3 : Int)) ∧ w'.cell? ⟨w.heap.size + 1, 0, none⟩ = some (.int .u64 (wd b 0 : Int)) ∧ w'.cell? ⟨w.heap.size + 1, 1, none⟩ = some (.int .u64 (wd b 1 : Int)) ∧ w'.cell? ⟨w.heap.size + 1, 2, none⟩ = some (.int .u64 (wd b 2 : Int)) ∧ w'.cell? ⟨w.heap.size + 1, 3, none⟩ = some (.int .u64 (wd b 3 : Int))) (first | (with_reducible exact hCd) | (focus ((repeat (first | (with_reducible assumption) | (with_reducible apply C8.alloc) | (with_reducible apply C8.drew) | (with_reducible apply C8.far) | (with_reducible apply C8.calls) | exact Nat.le_refl _ | omega | (simp; done))); done))) (first
    | (go_at_call_of 31 (Value.agg #[.int .u64 (wd a 0 : Int), .int .u64 (wd a 1 : Int), .int .u64 (wd a 2 : Int), .int .u64 (wd a 3 : Int)]); go_must (refine (KOa.out _).mono ?_); rintro e w3 ⟨g1, rfl, ho1, hg1, hb3⟩)
    | (go_at_call_of 31 (Value.agg #[.int .u64 (wd b 0 : Int), .int .u64 (wd b 1 : Int), .int .u64 (wd b 2 : Int), .int .u64 (wd b 3 : Int)]); go_must (refine (KOb.out _).mono ?_); rintro e w4 ⟨g2, rfl, ho2, hg2, hb4⟩)
    | (go_at_call 55; (refine (KM.out g1 g2 _ ?_ ?_).mono ?_); (focus (exact ho1.below hb4; done)); (focus (exact ho2; done)); rintro e w5 ⟨g3, rfl, ho3, hg3, hb5⟩)
    | (go_at_call 30; (refine (KF.out g3 _ ?_).mono ?_); (focus (exact ho3; done)); rintro e wz ⟨rfl, hbz⟩; rw [HR.out, numV_agg]
       have xz0 : IsA wz (w.heap.size + 1 + 1) 0 23 := isA_calls (show Below X.heap.size X wz from by (repeat (first | (with_reducible assumption) | (with_reducible exact Below.refl _ _) | (with_reducible apply b_drew) | (with_reducible apply b_callsS) | exact Nat.le_refl _ | (simp; done)))) XR.out (Nat.le_refl _)
       have xz1 := isA_zero' xz0
       obtain ⟨⟨d0, d1, d2, d3⟩, e0, e1, e2, e3⟩ := fourV xz1))
  rename_i hH
  clear hH hC hCd
  have hbX : Below X.heap.size X wz := by
    (repeat (first | (with_reducible assumption) | (with_reducible exact Below.refl _ _) | (with_reducible apply b_drew) | (with_reducible apply b_callsS) | exact Nat.le_refl _ | (simp; done)))
  have KL := Lib.hid (load_arr (isA_set (n := R) xz0))
  have BR := Lib.hid (b_set4 (b_callsS hbX XBl (Nat.le_refl _)) (v0 := .int .u64 (wd R 0 : Int)) (v1 := .int .u64 (wd R 1 : Int)) (v2 := .int .u64 (wd R 2 : Int)) (v3 := .int .u64 (wd R 3 : Int)) (b := w.heap.size + 1 + 1) (by omega))
  go_wp2_with fail
  exact bodyPost_ret (results_arr Try.results37 (by rfl) KL.out) rfl ⟨rfl, BR.out⟩
set_option maxHeartbeats 8000000 in
theorem raddp_any (a b : Nat) (w : World) (ha : a < B64 ^ 4) (hb : b < B64 ^ 4) :
    Calls Try.prog 39 #[numV a, numV b] w fun e w' => e = .returned (numV ((a + b) % PN)) ∧ Below w.heap.size w w' := by
  have KOa := Lib.hid (fun w => rof_any a w ha)
  have KOb := Lib.hid (fun w => rof_any b w hb)
  have KM := Lib.hid (fun g h w (h1 : OwnN w g 16 a) (h2 : OwnN w h 16 b) => radd_any (some ⟨g, 0, none⟩) (some ⟨h, 0, none⟩) 16 16 16 16 a b w (h1.is 16 (Nat.le_refl _)) (h2.is 16 (Nat.le_refl _)) (by omega) (by omega))
  have KF := Lib.hid (fun g w (h : OwnN w g 17 (a + b)) => fold_any g 17 17 (a + b) w (h.is 17 (Nat.le_refl _)) (by omega) (by omega))
  obtain ⟨R, hR⟩ : ∃ R, (a + b) % PN = R := ⟨_, rfl⟩
  have HR := Lib.hid hR
  rw [hR]
  obtain ⟨xa, xb, xr, xz, xB⟩ := a3r_at a b w
  simp only [numV_agg] at KOa KOb ⊢
  clear hR ha hb
  go_enter Try.func39, Try.ntmps39
  go_wp2_with fail
  change Code.wp _ _ _ _ (A3r a b w)
  generalize A3r a b w = X at *
  have hC : C8 X w.heap.size a (w.heap.size + 1) b := C8.of (cells4 xa) (cells4 xb)
  have hCd : C8 X.drew w.heap.size a (w.heap.size + 1) b := hC
  have XR := Lib.hid xr
  have XBl := xB
  have hxz : w.heap.size + 3 ≤ X.heap.size := by omega
  have hne1 : w.heap.size ≠ w.heap.size + 1 + 1 := by omega
  have hne2 : w.heap.size + 1 ≠ w.heap.size + 1 + 1 := by omega
  clear xa xb xr xz xB
  go_region_held3 (fun w' => w'.cell? ⟨w.heap.size, 0, none⟩ = some (.int .u64 (wd a 0 : Int)) ∧ w'.cell? ⟨w.heap.size, 1, none⟩ = some (.int .u64 (wd a 1 : Int)) ∧ w'.cell? ⟨w.heap.size, 2, none⟩ = some (.int .u64 (wd a 2 : Int)) ∧ w'.cell? ⟨w.heap.size, 3, none⟩ = some (.int .u64 (wd a 3 : Int)) ∧ w'.cell? ⟨w.heap.size + 1, 0, none⟩ = some (.int .u64 (wd b 0 : Int)) ∧ w'.cell? ⟨w.heap.size + 1, 1, none⟩ = some (.int .u64 (wd b 1 : Int)) ∧ w'.cell? ⟨w.heap.size + 1, 2, none⟩ = some (.int .u64 (wd b 2 : Int)) ∧ w'.cell? ⟨w.heap.size + 1, 3, none⟩ = some (.int .u64 (wd b 3 : Int))) (first | (with_reducible exact hCd) | (focus ((repeat (first | (with_reducible assumption) | (with_reducible apply C8.alloc) | (with_reducible apply C8.drew) | (with_reducible apply C8.far) | (with_reducible apply C8.calls) | exact Nat.le_refl _ | omega | (simp; done))); done))) (first
    | (go_at_call_of 31 (Value.agg #[.int .u64 (wd a 0 : Int), .int .u64 (wd a 1 : Int), .int .u64 (wd a 2 : Int), .int .u64 (wd a 3 : Int)]); go_must (refine (KOa.out _).mono ?_); rintro e w3 ⟨g1, rfl, ho1, hg1, hb3⟩)
    | (go_at_call_of 31 (Value.agg #[.int .u64 (wd b 0 : Int), .int .u64 (wd b 1 : Int), .int .u64 (wd b 2 : Int), .int .u64 (wd b 3 : Int)]); go_must (refine (KOb.out _).mono ?_); rintro e w4 ⟨g2, rfl, ho2, hg2, hb4⟩)
    | (go_at_call 54; (refine (KM.out g1 g2 _ ?_ ?_).mono ?_); (focus (exact ho1.below hb4; done)); (focus (exact ho2; done)); rintro e w5 ⟨g3, rfl, ho3, hg3, hb5⟩)
    | (go_at_call 30; (refine (KF.out g3 _ ?_).mono ?_); (focus (exact ho3; done)); rintro e wz ⟨rfl, hbz⟩; rw [HR.out, numV_agg]
       have xz0 : IsA wz (w.heap.size + 1 + 1) 0 23 := isA_calls (show Below X.heap.size X wz from by (repeat (first | (with_reducible assumption) | (with_reducible exact Below.refl _ _) | (with_reducible apply b_drew) | (with_reducible apply b_callsS) | exact Nat.le_refl _ | (simp; done)))) XR.out (Nat.le_refl _)
       have xz1 := isA_zero' xz0
       obtain ⟨⟨d0, d1, d2, d3⟩, e0, e1, e2, e3⟩ := fourV xz1))
  rename_i hH
  clear hH hC hCd
  have hbX : Below X.heap.size X wz := by
    (repeat (first | (with_reducible assumption) | (with_reducible exact Below.refl _ _) | (with_reducible apply b_drew) | (with_reducible apply b_callsS) | exact Nat.le_refl _ | (simp; done)))
  have KL := Lib.hid (load_arr (isA_set (n := R) xz0))
  have BR := Lib.hid (b_set4 (b_callsS hbX XBl (Nat.le_refl _)) (v0 := .int .u64 (wd R 0 : Int)) (v1 := .int .u64 (wd R 1 : Int)) (v2 := .int .u64 (wd R 2 : Int)) (v3 := .int .u64 (wd R 3 : Int)) (b := w.heap.size + 1 + 1) (by omega))
  go_wp2_with fail
  exact bodyPost_ret (results_arr Try.results39 (by rfl) KL.out) rfl ⟨rfl, BR.out⟩
set_option maxHeartbeats 8000000 in
theorem rsubp_any (a b : Nat) (w : World) (ha : a < B64 ^ 4) (hb : b < B64 ^ 4) (hle : b ≤ a + PN) :
    Calls Try.prog 38 #[numV a, numV b] w fun e w' => e = .returned (numV ((a + PN - b) % PN)) ∧ Below w.heap.size w w' := by
  have KOa := Lib.hid (fun w => rof_any a w ha)
  have KOb := Lib.hid (fun w => rof_any b w hb)
  have KP := Lib.hid rpl_any
  have KM := Lib.hid (fun g h w (h1 : OwnN w g 16 a) (h2 : OwnN w h 16 PN) => radd_any (some ⟨g, 0, none⟩) (some ⟨h, 0, none⟩) 16 16 16 16 a PN w (h1.is 16 (Nat.le_refl _)) (h2.is 16 (Nat.le_refl _)) (by omega) (by omega))
  have KD := Lib.hid (fun g h w (h1 : OwnN w g 17 (a + PN)) (h2 : OwnN w h 16 b) => rsub_any (some ⟨g, 0, none⟩) (some ⟨h, 0, none⟩) 17 17 16 16 (a + PN) b w (h1.is 17 (Nat.le_refl _)) (h2.is 16 (Nat.le_refl _)) hle)
  have KF := Lib.hid (fun g w (h : OwnN w g 17 (a + PN - b)) => fold_any g 17 17 (a + PN - b) w (h.is 17 (Nat.le_refl _)) (by omega) (by omega))
  obtain ⟨R, hR⟩ : ∃ R, (a + PN - b) % PN = R := ⟨_, rfl⟩
  have HR := Lib.hid hR
  rw [hR]
  obtain ⟨xa, xb, xr, xz, xB⟩ := a3r_at a b w
  simp only [numV_agg] at KOa KOb ⊢
  clear hR ha hb hle
  go_enter Try.func38, Try.ntmps38
  go_wp2_with fail
  change Code.wp _ _ _ _ (A3r a b w)
  generalize A3r a b w = X at *
  have hC : C8 X w.heap.size a (w.heap.size + 1) b := C8.of (cells4 xa) (cells4 xb)
  have hCd : C8 X.drew w.heap.size a (w.heap.size + 1) b := hC
  have XR := Lib.hid xr
  have XBl := xB
  have hxz : w.heap.size + 3 ≤ X.heap.size := by omega
  have hne1 : w.heap.size ≠ w.heap.size + 1 + 1 := by omega
  have hne2 : w.heap.size + 1 ≠ w.heap.size + 1 + 1 := by omega
  clear xa xb xr xz xB
  go_region_held3 (fun w' => w'.cell? ⟨w.heap.size, 0, none⟩ = some (.int .u64 (wd a 0 : Int)) ∧ w'.cell? ⟨w.heap.size, 1, none⟩ = some (.int .u64 (wd a 1 : Int)) ∧ w'.cell? ⟨w.heap.size, 2, none⟩ = some (.int .u64 (wd a 2 : Int)) ∧ w'.cell? ⟨w.heap.size, 3, none⟩ = some (.int .u64 (wd a 3 : Int)) ∧ w'.cell? ⟨w.heap.size + 1, 0, none⟩ = some (.int .u64 (wd b 0 : Int)) ∧ w'.cell? ⟨w.heap.size + 1, 1, none⟩ = some (.int .u64 (wd b 1 : Int)) ∧ w'.cell? ⟨w.heap.size + 1, 2, none⟩ = some (.int .u64 (wd b 2 : Int)) ∧ w'.cell? ⟨w.heap.size + 1, 3, none⟩ = some (.int .u64 (wd b 3 : Int))) (first | (with_reducible exact hCd) | (focus ((repeat (first | (with_reducible assumption) | (with_reducible apply C8.alloc) | (with_reducible apply C8.drew) | (with_reducible apply C8.far) | (with_reducible apply C8.calls) | exact Nat.le_refl _ | omega | (simp; done))); done))) (first
    | (go_at_call_of 31 (Value.agg #[.int .u64 (wd a 0 : Int), .int .u64 (wd a 1 : Int), .int .u64 (wd a 2 : Int), .int .u64 (wd a 3 : Int)]); go_must (refine (KOa.out _).mono ?_); rintro e w3 ⟨g1, rfl, ho1, hg1, hb3⟩)
    | (go_at_call_of 31 (Value.agg #[.int .u64 (wd b 0 : Int), .int .u64 (wd b 1 : Int), .int .u64 (wd b 2 : Int), .int .u64 (wd b 3 : Int)]); go_must (refine (KOb.out _).mono ?_); rintro e w4 ⟨g2, rfl, ho2, hg2, hb4⟩)
    | (go_at_call 56; go_must (refine (KP.out _).mono ?_); rintro e w5 ⟨g3, rfl, ho3, hg3, hb5⟩)
    | (go_at_call 54; (refine (KM.out g1 g3 _ ?_ ?_).mono ?_); (focus (exact ho1.below hb5; done)); (focus (exact ho3; done)); rintro e w6 ⟨g4, rfl, ho4, hg4, hb6⟩)
    | (go_at_call 58; (refine (KD.out g4 g2 _ ?_ ?_).mono ?_); (focus (exact ho4.below hb4; done)); (focus (exact ho2; done)); rintro e w7 ⟨rfl, ho7, hb7⟩)
    | (go_at_call 30; (refine (KF.out _ _ ?_).mono ?_); (focus (exact ho7; done)); rintro e wz ⟨rfl, hbz⟩; rw [HR.out, numV_agg]
       have xz0 : IsA wz (w.heap.size + 1 + 1) 0 23 := isA_calls (show Below X.heap.size X wz from by (repeat (first | (with_reducible assumption) | (with_reducible exact Below.refl _ _) | (with_reducible apply b_drew) | (with_reducible apply b_callsS) | exact Nat.le_refl _ | (simp; done)))) XR.out (Nat.le_refl _)
       have xz1 := isA_zero' xz0
       obtain ⟨⟨d0, d1, d2, d3⟩, e0, e1, e2, e3⟩ := fourV xz1))
  rename_i hH
  clear hH hC hCd
  have hbX : Below X.heap.size X wz := by
    (repeat (first | (with_reducible assumption) | (with_reducible exact Below.refl _ _) | (with_reducible apply b_drew) | (with_reducible apply b_callsS) | exact Nat.le_refl _ | (simp; done)))
  have KL := Lib.hid (load_arr (isA_set (n := R) xz0))
  have BR := Lib.hid (b_set4 (b_callsS hbX XBl (Nat.le_refl _)) (v0 := .int .u64 (wd R 0 : Int)) (v1 := .int .u64 (wd R 1 : Int)) (v2 := .int .u64 (wd R 2 : Int)) (v3 := .int .u64 (wd R 3 : Int)) (b := w.heap.size + 1 + 1) (by omega))
  go_wp2_with fail
  exact bodyPost_ret (results_arr Try.results38 (by rfl) KL.out) rfl ⟨rfl, BR.out⟩
end Go.Proofs.Ythdbadomppohbaa
