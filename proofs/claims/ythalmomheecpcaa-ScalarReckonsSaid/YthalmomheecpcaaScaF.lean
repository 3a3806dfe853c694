/- The reference's Order (layer 22): its contract. -/
import Derived.Test.YthalmomheecpcaaScaE
namespace Go.Proofs.Ythalmomheecpcaa
open Go.RowKit
def ordS : ByteArray := ⟨#[49, 48, 48, 48, 48, 48, 48, 48, 48, 48, 48, 48, 48, 48, 48, 48, 48, 48, 48, 48, 48, 48, 48, 48, 48, 48, 48, 48, 48, 48, 48, 48, 49, 52, 100, 101, 102, 57, 100, 101, 97, 50, 102, 55, 57, 99, 100, 54, 53, 56, 49, 50, 54, 51, 49, 97, 53, 99, 102, 53, 100, 51, 101, 100]⟩
def ordB : ByteArray := ⟨#[16, 0, 0, 0, 0, 0, 0, 0, 0, 0, 0, 0, 0, 0, 0, 0, 20, 222, 249, 222, 162, 247, 156, 214, 88, 18, 99, 26, 92, 245, 211, 237]⟩
theorem ord_unhex : unhexS ordS = ordB ∧ unhexE ordS = 0 := by
  have h : okP ordS.data.toList = true := by decide +kernel
  refine ⟨?_, ?_⟩
  · unfold unhexS
    rw [h]
    decide +kernel
  · unfold unhexE
    rw [h]
    rfl
theorem ord0 : beN (ordB.extract 24 32).data.toList = wd LN 0 := by decide +kernel
theorem ord_get0 (w : World) : Calls Try.prog 28 #[.string (ordB.extract 24 32)] w fun e w' => e = .returned (.int .u64 (wd LN 0 : Int)) ∧ w = w' := by
  have h := rget_any (ordB.extract 24 32) w (by rw [ByteArray.size_extract]; omega)
  rw [ord0] at h
  exact h
theorem ord1 : beN (ordB.extract 16 24).data.toList = wd LN 1 := by decide +kernel
theorem ord_get1 (w : World) : Calls Try.prog 28 #[.string (ordB.extract 16 24)] w fun e w' => e = .returned (.int .u64 (wd LN 1 : Int)) ∧ w = w' := by
  have h := rget_any (ordB.extract 16 24) w (by rw [ByteArray.size_extract]; omega)
  rw [ord1] at h
  exact h
theorem ord2 : beN (ordB.extract 8 16).data.toList = wd LN 2 := by decide +kernel
theorem ord_get2 (w : World) : Calls Try.prog 28 #[.string (ordB.extract 8 16)] w fun e w' => e = .returned (.int .u64 (wd LN 2 : Int)) ∧ w = w' := by
  have h := rget_any (ordB.extract 8 16) w (by rw [ByteArray.size_extract]; omega)
  rw [ord2] at h
  exact h
theorem ord3 : beN (ordB.extract 0 8).data.toList = wd LN 3 := by decide +kernel
theorem ord_get3 (w : World) : Calls Try.prog 28 #[.string (ordB.extract 0 8)] w fun e w' => e = .returned (.int .u64 (wd LN 3 : Int)) ∧ w = w' := by
  have h := rget_any (ordB.extract 0 8) w (by rw [ByteArray.size_extract]; omega)
  rw [ord3] at h
  exact h
set_option maxHeartbeats 4000000 in
theorem order_any (w : World) : Calls Try.prog 12 #[] w fun e w' => ∃ g, e = .returned (.slice (some ⟨g, 0, none⟩) 16 16) ∧ OwnN w' g 16 LN ∧ w.heap.size ≤ g ∧ Below w.heap.size w w' := by
  have K1 : Hid (∀ w, Calls Try.prog 27 #[.string ordS] w fun e w' => e = .returned (.tuple #[.string ordB, .int .i64 0]) ∧ Below w.heap.size w w') := fun w => by
    have h := runhex_any ordS w (by decide)
    rw [ord_unhex.1, ord_unhex.2] at h
    exact h
  have G0 := Lib.hid ord_get0
  have G1 := Lib.hid ord_get1
  have G2 := Lib.hid ord_get2
  have G3 := Lib.hid ord_get3
  have K2 := Lib.hid (fun w => rof_any LN w LN_lt)
  have hB : (ordB.size : Int) = 32 := rfl
  simp only [numV_agg] at K2
  generalize ordB = B at K1 G0 G1 G2 G3 hB
  generalize LN = Lv at K2 G0 G1 G2 G3 ⊢
  go_enter Try.func12, Try.ntmps12
  go_wp2_with fail
  refine (K1.out _).mono ?_
  rintro e w1 ⟨rfl, hb1⟩
  have HB1 := Lib.hid hb1
  clear hb1
  go_wp2_with fail
  refine wp_loop_rounds 5 ?_
  rw [rounds_succ]; go_wp2_with (go_at_call 28; refine (G0.out _).mono ?_; rintro e w' ⟨rfl, rfl⟩)
  rw [rounds_succ]; go_wp2_with (go_at_call 28; refine (G1.out _).mono ?_; rintro e w' ⟨rfl, rfl⟩)
  rw [rounds_succ]; go_wp2_with (go_at_call 28; refine (G2.out _).mono ?_; rintro e w' ⟨rfl, rfl⟩)
  rw [rounds_succ]; go_wp2_with (go_at_call 28; refine (G3.out _).mono ?_; rintro e w' ⟨rfl, rfl⟩)
  rw [rounds_succ]; go_wp2_with fail
  refine (K2.out _).mono ?_
  rintro e w2 ⟨g, rfl, ho, hg, hb2⟩
  have hsz := HB1.out.size
  have hbf := (gr_alloc HB1.out _).trans (hb2.mono (by rw [alloc_size1]; omega))
  have hgw : w.heap.size ≤ g := by rw [alloc_size1] at hg; omega
  have HO := Lib.hid ho
  have HBF := Lib.hid hbf
  clear ho hbf hb2 hg K1 K2 G0 G1 G2 G3
  go_wp2_with fail
  go_ret
  exact ⟨g, rfl, HO.out, hgw, HBF.out⟩
theorem rto0 (a : Option Addr) (la ca n : Nat) (w : World) (ha : IsN w a la ca n) (hn : n < B64 ^ 4) :
    Calls Try.prog 11 #[.slice a la ca, .int .i64 0] w fun e w' => e = .returned (numV n) ∧ Below w.heap.size w w' := by
  have h := rto_any a la ca n 0 w ha (by omega)
  rw [Nat.pow_zero, Nat.div_one, Nat.mod_eq_of_lt hn] at h
  exact h
theorem radd16 (a b n m : Nat) (w : World) (ha : OwnN w a 16 n) (hb : OwnN w b 16 m) :
    Calls Try.prog 31 #[.slice (some ⟨a, 0, none⟩) 16 16, .slice (some ⟨b, 0, none⟩) 16 16] w fun e w' => ∃ g, e = .returned (.slice (some ⟨g, 0, none⟩) 17 17) ∧ OwnN w' g 17 (n + m) ∧ w.heap.size ≤ g ∧ Below w.heap.size w w' :=
  radd_any (some ⟨a, 0, none⟩) (some ⟨b, 0, none⟩) 16 16 16 16 n m w (ha.is 16 (Nat.le_refl _)) (hb.is 16 (Nat.le_refl _)) (by omega) (by omega)
theorem rmul16 (a b n m : Nat) (w : World) (ha : OwnN w a 16 n) (hb : OwnN w b 16 m) :
    Calls Try.prog 32 #[.slice (some ⟨a, 0, none⟩) 16 16, .slice (some ⟨b, 0, none⟩) 16 16] w fun e w' => ∃ g, e = .returned (.slice (some ⟨g, 0, none⟩) 32 32) ∧ OwnN w' g 32 (n * m) ∧ w.heap.size ≤ g ∧ Below w.heap.size w w' :=
  rmul_any a b 16 16 16 16 n m w (ha.is 16 (Nat.le_refl _)) (hb.is 16 (Nat.le_refl _)) (by omega) (by omega) (by omega) (by omega)
theorem rrem_ord (a la ca b n : Nat) (w : World) (ha : IsN w (some ⟨a, 0, none⟩) la ca n) (hb : OwnN w b 16 LN) (sa : la ≤ 100) :
    Calls Try.prog 24 #[.slice (some ⟨a, 0, none⟩) la ca, .slice (some ⟨b, 0, none⟩) 16 16] w fun e w' => ∃ g cap, ∃ len, e = .returned (.slice g len cap) ∧ IsN w' g len cap (n % LN) ∧ len ≤ 16 ∧ Below w.heap.size w w' :=
  rrem_any (some ⟨a, 0, none⟩) (some ⟨b, 0, none⟩) la ca 16 16 n LN w ha (hb.is 16 (Nat.le_refl _)) LN_pos sa (by omega)
theorem mod_LN_lt (n : Nat) : n % LN < B64 ^ 4 := Nat.lt_trans (Nat.mod_lt _ LN_pos) LN_lt
set_option maxHeartbeats 8000000 in
theorem rsum_any (a b : Nat) (w : World) (ha : a < B64 ^ 4) (hb : b < B64 ^ 4) :
    Calls Try.prog 15 #[numV a, numV b] w fun e w' => e = .returned (numV ((a + b) % LN)) ∧ Below w.heap.size w w' := by
  have KA := Lib.hid (fun w => rof_any a w ha)
  have KB := Lib.hid (fun w => rof_any b w hb)
  have KO := Lib.hid order_any
  have KR := Lib.hid rrem_ord
  have KM := Lib.hid (fun g h w => radd16 g h a b w)
  have KT := Lib.hid (fun q la ca w h => rto0 q la ca ((a + b) % LN) w h (mod_LN_lt _))
  obtain ⟨xa, xb, xr, xz, xB⟩ := m3_at a b 24 w
  obtain ⟨R, hR⟩ : ∃ R, (a + b) % LN = R := ⟨_, rfl⟩
  have HR := Lib.hid hR
  rw [hR] at KT ⊢
  simp only [numV_agg] at KA KB KT ⊢
  clear hR ha hb
  go_enter Try.func15, Try.ntmps15
  go_wp2_with fail
  change Code.wp _ _ _ _ (M3 a b 24 w)
  generalize M3 a b 24 w = X at *
  obtain ⟨⟨p0, p1, p2, p3⟩, _⟩ := fourV xa
  obtain ⟨⟨q0, q1, q2, q3⟩, _⟩ := fourV xb
  have XA := Lib.hid xa
  have XB := Lib.hid xb
  have XR := Lib.hid xr
  have HXB := Lib.hid xB
  clear xa xb xr xB
  have hne1 : w.heap.size ≠ w.heap.size + 1 + 1 := by omega
  have hne2 : w.heap.size + 1 ≠ w.heap.size + 1 + 1 := by omega
  go_region_held3 (fun w' => w'.cell? ⟨w.heap.size, 0, none⟩ = some (.int .u64 (wd a 0 : Int)) ∧ w'.cell? ⟨w.heap.size, 1, none⟩ = some (.int .u64 (wd a 1 : Int)) ∧ w'.cell? ⟨w.heap.size, 2, none⟩ = some (.int .u64 (wd a 2 : Int)) ∧ w'.cell? ⟨w.heap.size, 3, none⟩ = some (.int .u64 (wd a 3 : Int)) ∧ w'.cell? ⟨w.heap.size + 1, 0, none⟩ = some (.int .u64 (wd b 0 : Int)) ∧ w'.cell? ⟨w.heap.size + 1, 1, none⟩ = some (.int .u64 (wd b 1 : Int)) ∧ w'.cell? ⟨w.heap.size + 1, 2, none⟩ = some (.int .u64 (wd b 2 : Int)) ∧ w'.cell? ⟨w.heap.size + 1, 3, none⟩ = some (.int .u64 (wd b 3 : Int))) (first | (with_reducible exact ⟨p0, p1, p2, p3, q0, q1, q2, q3⟩) | (with_reducible exact cells8 r3 s3) | (with_reducible exact cells8 r4 s4) | (with_reducible exact cells8 r5 s5) | (with_reducible exact cells8 r6 s6) | (with_reducible exact cells8 r7 s7) | (with_reducible exact cells8 r8 s8) | (with_reducible exact cells8 (r8.far hne1) (s8.far hne2)) | go_keep) (first
    | (go_at_call_of 29 (Value.agg #[.int .u64 (wd a 0 : Int), .int .u64 (wd a 1 : Int), .int .u64 (wd a 2 : Int), .int .u64 (wd a 3 : Int)]); go_must (refine (KA.out _).mono ?_); rintro e w3 ⟨g1, rfl, ho1, hg1, hb3⟩
       have r3 := (show IsA X.drew _ _ _ from XA.out).keep hb3
       have s3 := (show IsA X.drew _ _ _ from XB.out).keep hb3
       have x3 := (show IsA X.drew _ _ _ from XR.out).keep hb3
       have B3 := HXB.out.drew.trans (hb3.mono HXB.out.size)
       obtain ⟨⟨k0, k1, k2, k3⟩, _⟩ := fourV r3
       obtain ⟨⟨l0, l1, l2, l3⟩, _⟩ := fourV s3)
    | (go_at_call_of 29 (Value.agg #[.int .u64 (wd b 0 : Int), .int .u64 (wd b 1 : Int), .int .u64 (wd b 2 : Int), .int .u64 (wd b 3 : Int)]); go_must (refine (KB.out _).mono ?_); rintro e w4 ⟨g2, rfl, ho2, hg2, hb4⟩
       have r4 := r3.keep hb4
       have s4 := s3.keep hb4
       have x4 := x3.keep hb4
       have B4 := B3.trans (hb4.mono B3.size)
       have ho1b := ho1.below hb4)
    | (go_at_call 31; go_must (refine (KM.out g1 g2 _ ho1b ho2).mono ?_); rintro e w5 ⟨g3, rfl, ho3, hg3, hb5⟩
       have r5 := r4.keep hb5
       have s5 := s4.keep hb5
       have x5 := x4.keep hb5
       have B5 := B4.trans (hb5.mono B4.size))
    | (go_at_call 12; go_must (refine (KO.out _).mono ?_); rintro e w6 ⟨g4, rfl, ho4, hg4, hb6⟩
       have r6 := r5.keep hb6
       have s6 := s5.keep hb6
       have x6 := x5.keep hb6
       have B6 := B5.trans (hb6.mono B5.size)
       have ho3b := (ho3.below hb6).is 17 (Nat.le_refl _))
    | (go_at_call 24; go_must (refine (KR.out g3 17 17 g4 _ _ ho3b ho4 (by omega)).mono ?_); rintro e w7 ⟨g5, c5, n5, rfl, ho5, hl5, hb7⟩
       have r7 := r6.keep hb7
       have s7 := s6.keep hb7
       have x7 := x6.keep hb7
       have B7 := B6.trans (hb7.mono B6.size)
       rw [HR.out] at ho5)
    | (go_at_call 11; go_must (refine (KT.out g5 n5 c5 _ ho5).mono ?_); rintro e w8 ⟨rfl, hb8⟩
       have r8 := r7.keep hb8
       have s8 := s7.keep hb8
       have x8 := x7.keep hb8
       have B8 := B7.trans (hb8.mono B7.size)
       obtain ⟨⟨d0, d1, d2, d3⟩, e0, e1, e2, e3⟩ := fourV x8))
  all_goals
    have KL := Lib.hid (load_arr (isA_set (n := R) x8))
    have BR := Lib.hid (set4_below (v0 := .int .u64 (wd R 0 : Int)) (v1 := .int .u64 (wd R 1 : Int)) (v2 := .int .u64 (wd R 2 : Int)) (v3 := .int .u64 (wd R 3 : Int)) B8 (b := w.heap.size + 1 + 1) (by omega))
    go_wp2_with fail
    exact bodyPost_ret (results_arr Try.results15 (by rfl) KL.out) rfl ⟨rfl, BR.out⟩
set_option maxHeartbeats 8000000 in
theorem rproduct_any (a b : Nat) (w : World) (ha : a < B64 ^ 4) (hb : b < B64 ^ 4) :
    Calls Try.prog 16 #[numV a, numV b] w fun e w' => e = .returned (numV ((a * b) % LN)) ∧ Below w.heap.size w w' := by
  have KA := Lib.hid (fun w => rof_any a w ha)
  have KB := Lib.hid (fun w => rof_any b w hb)
  have KO := Lib.hid order_any
  have KR := Lib.hid rrem_ord
  have KM := Lib.hid (fun g h w => rmul16 g h a b w)
  have KT := Lib.hid (fun q la ca w h => rto0 q la ca ((a * b) % LN) w h (mod_LN_lt _))
  obtain ⟨xa, xb, xr, xz, xB⟩ := m3_at a b 24 w
  obtain ⟨R, hR⟩ : ∃ R, (a * b) % LN = R := ⟨_, rfl⟩
  have HR := Lib.hid hR
  rw [hR] at KT ⊢
  simp only [numV_agg] at KA KB KT ⊢
  clear hR ha hb
  go_enter Try.func16, Try.ntmps16
  go_wp2_with fail
  change Code.wp _ _ _ _ (M3 a b 24 w)
  generalize M3 a b 24 w = X at *
  obtain ⟨⟨p0, p1, p2, p3⟩, _⟩ := fourV xa
  obtain ⟨⟨q0, q1, q2, q3⟩, _⟩ := fourV xb
  have XA := Lib.hid xa
  have XB := Lib.hid xb
  have XR := Lib.hid xr
  have HXB := Lib.hid xB
  clear xa xb xr xB
  have hne1 : w.heap.size ≠ w.heap.size + 1 + 1 := by omega
  have hne2 : w.heap.size + 1 ≠ w.heap.size + 1 + 1 := by omega
  go_region_held3 (fun w' => w'.cell? ⟨w.heap.size, 0, none⟩ = some (.int .u64 (wd a 0 : Int)) ∧ w'.cell? ⟨w.heap.size, 1, none⟩ = some (.int .u64 (wd a 1 : Int)) ∧ w'.cell? ⟨w.heap.size, 2, none⟩ = some (.int .u64 (wd a 2 : Int)) ∧ w'.cell? ⟨w.heap.size, 3, none⟩ = some (.int .u64 (wd a 3 : Int)) ∧ w'.cell? ⟨w.heap.size + 1, 0, none⟩ = some (.int .u64 (wd b 0 : Int)) ∧ w'.cell? ⟨w.heap.size + 1, 1, none⟩ = some (.int .u64 (wd b 1 : Int)) ∧ w'.cell? ⟨w.heap.size + 1, 2, none⟩ = some (.int .u64 (wd b 2 : Int)) ∧ w'.cell? ⟨w.heap.size + 1, 3, none⟩ = some (.int .u64 (wd b 3 : Int))) (first | (with_reducible exact ⟨p0, p1, p2, p3, q0, q1, q2, q3⟩) | (with_reducible exact cells8 r3 s3) | (with_reducible exact cells8 r4 s4) | (with_reducible exact cells8 r5 s5) | (with_reducible exact cells8 r6 s6) | (with_reducible exact cells8 r7 s7) | (with_reducible exact cells8 r8 s8) | (with_reducible exact cells8 (r8.far hne1) (s8.far hne2)) | go_keep) (first
    | (go_at_call_of 29 (Value.agg #[.int .u64 (wd a 0 : Int), .int .u64 (wd a 1 : Int), .int .u64 (wd a 2 : Int), .int .u64 (wd a 3 : Int)]); go_must (refine (KA.out _).mono ?_); rintro e w3 ⟨g1, rfl, ho1, hg1, hb3⟩
       have r3 := (show IsA X.drew _ _ _ from XA.out).keep hb3
       have s3 := (show IsA X.drew _ _ _ from XB.out).keep hb3
       have x3 := (show IsA X.drew _ _ _ from XR.out).keep hb3
       have B3 := HXB.out.drew.trans (hb3.mono HXB.out.size)
       obtain ⟨⟨k0, k1, k2, k3⟩, _⟩ := fourV r3
       obtain ⟨⟨l0, l1, l2, l3⟩, _⟩ := fourV s3)
    | (go_at_call_of 29 (Value.agg #[.int .u64 (wd b 0 : Int), .int .u64 (wd b 1 : Int), .int .u64 (wd b 2 : Int), .int .u64 (wd b 3 : Int)]); go_must (refine (KB.out _).mono ?_); rintro e w4 ⟨g2, rfl, ho2, hg2, hb4⟩
       have r4 := r3.keep hb4
       have s4 := s3.keep hb4
       have x4 := x3.keep hb4
       have B4 := B3.trans (hb4.mono B3.size)
       have ho1b := ho1.below hb4)
    | (go_at_call 32; go_must (refine (KM.out g1 g2 _ ho1b ho2).mono ?_); rintro e w5 ⟨g3, rfl, ho3, hg3, hb5⟩
       have r5 := r4.keep hb5
       have s5 := s4.keep hb5
       have x5 := x4.keep hb5
       have B5 := B4.trans (hb5.mono B4.size))
    | (go_at_call 12; go_must (refine (KO.out _).mono ?_); rintro e w6 ⟨g4, rfl, ho4, hg4, hb6⟩
       have r6 := r5.keep hb6
       have s6 := s5.keep hb6
       have x6 := x5.keep hb6
       have B6 := B5.trans (hb6.mono B5.size)
       have ho3b := (ho3.below hb6).is 32 (Nat.le_refl _))
    | (go_at_call 24; go_must (refine (KR.out g3 32 32 g4 _ _ ho3b ho4 (by omega)).mono ?_); rintro e w7 ⟨g5, c5, n5, rfl, ho5, hl5, hb7⟩
       have r7 := r6.keep hb7
       have s7 := s6.keep hb7
       have x7 := x6.keep hb7
       have B7 := B6.trans (hb7.mono B6.size)
       rw [HR.out] at ho5)
    | (go_at_call 11; go_must (refine (KT.out g5 n5 c5 _ ho5).mono ?_); rintro e w8 ⟨rfl, hb8⟩
       have r8 := r7.keep hb8
       have s8 := s7.keep hb8
       have x8 := x7.keep hb8
       have B8 := B7.trans (hb8.mono B7.size)
       obtain ⟨⟨d0, d1, d2, d3⟩, e0, e1, e2, e3⟩ := fourV x8))
  all_goals
    have KL := Lib.hid (load_arr (isA_set (n := R) x8))
    have BR := Lib.hid (set4_below (v0 := .int .u64 (wd R 0 : Int)) (v1 := .int .u64 (wd R 1 : Int)) (v2 := .int .u64 (wd R 2 : Int)) (v3 := .int .u64 (wd R 3 : Int)) B8 (b := w.heap.size + 1 + 1) (by omega))
    go_wp2_with fail
    exact bodyPost_ret (results_arr Try.results16 (by rfl) KL.out) rfl ⟨rfl, BR.out⟩
end Go.Proofs.Ythalmomheecpcaa
