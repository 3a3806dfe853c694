/- scalar.Reduce (layer 22): its contract. -/
import Derived.Test.YthalmomheecpcaaScaB
namespace Go.Proofs.Ythalmomheecpcaa
open Go.RowKit
theorem leN_app : ∀ (l r : List UInt8), leN (l ++ r) = leN l + 256 ^ l.length * leN r
  | [], r => by simp [leN]
  | b :: l, r => by
    have h := leN_app l r
    rw [List.cons_append, leN.eq_2, leN.eq_2, h, List.length_cons, Nat.pow_succ, Nat.mul_add, ← Nat.mul_assoc, Nat.mul_comm (256 ^ l.length) 256, Nat.add_assoc]
theorem leN_zeros : ∀ c, leN (Lib.repeatL [0] c) = 0
  | 0 => rfl
  | c + 1 => by
    show leN (0 :: Lib.repeatL [0] c) = 0
    unfold leN
    rw [leN_zeros c]
    rfl
theorem leN_halves (l : List UInt8) (hl : l.length = 64) : remN (leN (l.take 32)) (leN (l.drop 32)) LN = leN l % LN := by
  have h : leN l = leN (l.take 32) + B64 ^ 4 * leN (l.drop 32) := by
    conv => lhs; rw [← List.take_append_drop 32 l]
    rw [leN_app, List.length_take, hl, show 256 ^ min 32 64 = B64 ^ 4 by decide]
  unfold remN
  rw [if_neg (by have := LN_pos; omega), h, Nat.mul_comm (leN (l.drop 32)), Nat.add_comm]
theorem leN_len32 (l : List UInt8) (h : l.length ≤ 32) : leN l < B64 ^ 4 :=
  Nat.lt_of_lt_of_le (leN_lt l) (Nat.le_trans (Nat.pow_le_pow_right (by decide) h) (by decide))
set_option maxHeartbeats 4000000 in
theorem reduce_long (s : ByteArray) (w : World) (hs : 64 < s.size) :
    Calls Try.prog 7 #[.string s] w fun e w' => e = .returned (.tuple #[numV 0, .int .i64 4]) ∧ Below w.heap.size w w' := by
  obtain ⟨xr, xz, xB⟩ := z1_at w
  have p1 : (64 : Int) < (s.size : Int) := by omega
  have kl := load_num xr
  rw [num_zero] at kl ⊢
  have KL := Lib.hid kl
  have BR := Lib.hid xB
  clear kl xr xB
  go_enter Try.func7, Try.ntmps7
  go_wp2_with fail
  exact bodyPost_ret (results_arr_tmp Try.results7 (by rfl) (by rfl) KL.out) rfl ⟨rfl, BR.out⟩
set_option maxHeartbeats 4000000 in
theorem reduce_any (s : ByteArray) (w : World) (hs : s.size ≤ 64) :
    Calls Try.prog 7 #[.string s] w fun e w' => e = .returned (.tuple #[numV (leN s.data.toList % LN), .int .i64 0]) ∧ Below w.heap.size w w' := by
  have p1 : ¬ (64 : Int) < (s.size : Int) := by omega
  have K0 := Lib.hid (fun w => Try.strings_Repeat ⟨#[0]⟩ (64 - s.size) w (by omega) (by rw [show (⟨#[0]⟩ : ByteArray).size = 1 from rfl]; omega))
  have q1 : (64 : Int) - (s.size : Int) = ((64 - s.size : Nat) : Int) := by omega
  obtain ⟨Zs, hZs⟩ : ∃ Zs : ByteArray, (⟨(Lib.repeatL (⟨#[0]⟩ : ByteArray).data.toList (64 - s.size)).toArray⟩ : ByteArray) = Zs := ⟨_, rfl⟩
  rw [hZs] at K0
  have hZl : Zs.data.toList = Lib.repeatL [0] (64 - s.size) := by rw [← hZs]
  have hZn : Zs.size = 64 - s.size := by rw [Lib.size_eq, hZl, Lib.repeatL_length]; simp
  have hTl : (s ++ Zs).data.toList = s.data.toList ++ Lib.repeatL [0] (64 - s.size) := by rw [← hZl]; simp
  have hTn : (s ++ Zs).size = 64 := by rw [ByteArray.size_append, hZn]; omega
  have hTe : leN (s ++ Zs).data.toList = leN s.data.toList := by rw [hTl, leN_app, leN_zeros]; omega
  obtain ⟨T, hT⟩ : ∃ T, s ++ Zs = T := ⟨_, rfl⟩
  rw [hT] at hTn hTe
  have hlo : (T.extract 0 32).size = 32 := by rw [ByteArray.size_extract]; omega
  have hhi : (T.extract 32 64).size = 32 := by rw [ByteArray.size_extract]; omega
  have elo : (T.extract 0 32).data.toList = T.data.toList.take 32 := by simp
  have ehi : (T.extract 32 64).data.toList = T.data.toList.drop 32 := by
    have h1 := Lib.size_eq T
    rw [hTn] at h1
    have h2 : (T.data.toList.drop 32).length ≤ 32 := by rw [List.length_drop]; omega
    simp only [ByteArray.data_extract, Array.toList_extract, List.extract_eq_take_drop]
    exact List.take_of_length_le h2
  have K1 := Lib.hid (fun w => of_any (T.extract 0 32) w hlo)
  have K2 := Lib.hid (fun w => of_any (T.extract 32 64) w hhi)
  have K3 := Lib.hid l_any
  have hTl2 : T.data.toList.length = 64 := by rw [← Lib.size_eq T]; exact hTn
  have K4 := Lib.hid (fun w => rem_whole (leN (T.data.toList.take 32)) (leN (T.data.toList.drop 32)) LN w (leN_len32 _ (by rw [List.length_take]; omega)) (leN_len32 _ (by rw [List.length_drop]; omega)) LN_lt)
  rw [leN_halves _ hTl2, hTe] at K4
  rw [elo] at K1
  rw [ehi] at K2
  obtain ⟨S, hS⟩ : ∃ S, leN (T.data.toList.take 32) = S := ⟨_, rfl⟩
  obtain ⟨H, hH⟩ : ∃ H, leN (T.data.toList.drop 32) = H := ⟨_, rfl⟩
  obtain ⟨R, hRR⟩ : ∃ R, leN s.data.toList % LN = R := ⟨_, rfl⟩
  obtain ⟨Lv, hLv⟩ : ∃ Lv, LN = Lv := ⟨_, rfl⟩
  rw [hS] at K1
  rw [hH] at K2
  rw [hS, hH, hRR, hLv] at K4
  rw [hLv] at K3
  rw [hRR]
  simp only [numV_agg] at K1 K2 K3 K4 ⊢
  have HTT := Lib.hid hT
  have hq : ¬ 9223372036854775807 < s.size + Zs.size := by omega
  have t1 : (T.size : Int) = 64 := by omega
  obtain ⟨xr, xz, xB⟩ := z1_at w
  rw [← q1] at K0
  have hs64 : (s.size : Int) ≤ 64 := by omega
  clear hS hH hRR hLv hlo hhi elo ehi hTl2 hTe hTl hZl hZs hT q1
  go_enter Try.func7, Try.ntmps7
  go_wp2_with fail
  change Calls _ _ _ (Z1 w) _
  generalize Z1 w = X at *
  refine (K0.out X).mono ?_
  rintro e w1 ⟨rfl, hb1⟩
  have xr1 := xr.keep hb1
  have hB1 : Below w.heap.size w w1 := xB.trans (hb1.mono (by omega))
  clear xr xB hb1 K0
  have hT := HTT.out
  go_wp2_with fail
  refine (K1.out w1).mono ?_
  rintro e w2 ⟨rfl, hb2⟩
  have xr2 := (xr1.keep hb2).alloc (.cells #[.int .u64 (wd S 0 : Int), .int .u64 (wd S 1 : Int), .int .u64 (wd S 2 : Int), .int .u64 (wd S 3 : Int)] 25)
  have hB2 := hB1.trans (hb2.mono (by have := lt_blk xr1; omega))
  have hz2 : w.heap.size < w2.heap.size := by have := lt_blk (xr1.keep hb2); omega
  have R5 : IsA (w2.alloc (.cells #[.int .u64 (wd S 0 : Int), .int .u64 (wd S 1 : Int), .int .u64 (wd S 2 : Int), .int .u64 (wd S 3 : Int)] 25)) w2.heap.size S 25 := alloc_new w2 _
  have hB3 := gr_allocB hB2 (by omega) (.cells #[.int .u64 (wd S 0 : Int), .int .u64 (wd S 1 : Int), .int .u64 (wd S 2 : Int), .int .u64 (wd S 3 : Int)] 25)
  have hz3 : (w2.alloc (.cells #[.int .u64 (wd S 0 : Int), .int .u64 (wd S 1 : Int), .int .u64 (wd S 2 : Int), .int .u64 (wd S 3 : Int)] 25)).heap.size = w2.heap.size + 1 := by simp
  clear hB2 xr1 hB1 hb2 K1
  have XR2 := Lib.hid xr2
  have HR5 := Lib.hid R5
  have HB3 := Lib.hid hB3
  clear xr2 R5 hB3
  go_wp2_with fail
  generalize w2.alloc (.cells #[.int .u64 (wd S 0 : Int), .int .u64 (wd S 1 : Int), .int .u64 (wd S 2 : Int), .int .u64 (wd S 3 : Int)] 25) = V at *
  refine (K2.out V).mono ?_
  rintro e w3 ⟨rfl, hb3⟩
  have XR3 := Lib.hid ((XR2.out.keep hb3).alloc (.cells #[.int .u64 (wd H 0 : Int), .int .u64 (wd H 1 : Int), .int .u64 (wd H 2 : Int), .int .u64 (wd H 3 : Int)] 25))
  have R5 := Lib.hid ((HR5.out.keep hb3).alloc (.cells #[.int .u64 (wd H 0 : Int), .int .u64 (wd H 1 : Int), .int .u64 (wd H 2 : Int), .int .u64 (wd H 3 : Int)] 25))
  have R6 : Hid (IsA (w3.alloc (.cells #[.int .u64 (wd H 0 : Int), .int .u64 (wd H 1 : Int), .int .u64 (wd H 2 : Int), .int .u64 (wd H 3 : Int)] 25)) w3.heap.size H 25) := (alloc_new w3 _ :)
  have hb3s := hb3.size
  have HB2 := Lib.hid (gr_allocB (HB3.out.trans (hb3.mono (by omega))) (by omega) (.cells #[.int .u64 (wd H 0 : Int), .int .u64 (wd H 1 : Int), .int .u64 (wd H 2 : Int), .int .u64 (wd H 3 : Int)] 25))
  have XR2 := XR3
  clear XR3 HB3 HR5 hb3 K2
  go_wp2_with fail
  generalize w3.alloc (.cells #[.int .u64 (wd H 0 : Int), .int .u64 (wd H 1 : Int), .int .u64 (wd H 2 : Int), .int .u64 (wd H 3 : Int)] 25) = Y at HB2 XR2 R5 R6 ⊢
  have hne1 : w2.heap.size ≠ w.heap.size := by omega
  have hne2 : w3.heap.size ≠ w.heap.size := by omega
  obtain ⟨⟨p0, p1, p2, p3⟩, _⟩ := fourV R5.out
  obtain ⟨⟨q0, q1, q2, q3⟩, _⟩ := fourV R6.out
  go_region_held3 (fun w' => w'.cell? ⟨w2.heap.size, 0, none⟩ = some (.int .u64 (wd S 0 : Int)) ∧ w'.cell? ⟨w2.heap.size, 1, none⟩ = some (.int .u64 (wd S 1 : Int)) ∧ w'.cell? ⟨w2.heap.size, 2, none⟩ = some (.int .u64 (wd S 2 : Int)) ∧ w'.cell? ⟨w2.heap.size, 3, none⟩ = some (.int .u64 (wd S 3 : Int)) ∧ w'.cell? ⟨w3.heap.size, 0, none⟩ = some (.int .u64 (wd H 0 : Int)) ∧ w'.cell? ⟨w3.heap.size, 1, none⟩ = some (.int .u64 (wd H 1 : Int)) ∧ w'.cell? ⟨w3.heap.size, 2, none⟩ = some (.int .u64 (wd H 2 : Int)) ∧ w'.cell? ⟨w3.heap.size, 3, none⟩ = some (.int .u64 (wd H 3 : Int))) (first | (with_reducible exact ⟨p0, p1, p2, p3, q0, q1, q2, q3⟩) | (with_reducible exact cells8 r4 s4) | (with_reducible exact cells8 r5 s5) | (with_reducible exact cells8 (r5.far hne1) (s5.far hne2)) | go_keep) (first
    | (go_at_call 10; go_must (refine (K3.out _).mono ?_); rintro e w4 ⟨rfl, hb4⟩
       have r4 := (show IsA Y.drew _ _ _ from R5.out).keep hb4
       have s4 := (show IsA Y.drew _ _ _ from R6.out).keep hb4
       have x4 := (show IsA Y.drew _ _ _ from XR2.out).keep hb4
       have B4 := HB2.out.drew.trans (hb4.mono HB2.out.size)
       obtain ⟨⟨m0, m1, m2, m3⟩, _⟩ := fourV r4
       obtain ⟨⟨n0, n1, n2, n3⟩, _⟩ := fourV s4)
    | (go_at_call 23; go_must (refine (K4.out _).mono ?_); rintro e w5 ⟨rfl, hb5⟩
       have r5 := r4.keep hb5
       have s5 := s4.keep hb5
       have x5 := x4.keep hb5
       have B5 := B4.trans (hb5.mono B4.size)
       obtain ⟨⟨d0, d1, d2, d3⟩, e0, e1, e2, e3⟩ := fourV x5))
  all_goals
    have KL := Lib.hid (load_num (isA_set (n := R) x5))
    have BR := Lib.hid (set4_below (v0 := .int .u64 (wd R 0 : Int)) (v1 := .int .u64 (wd R 1 : Int)) (v2 := .int .u64 (wd R 2 : Int)) (v3 := .int .u64 (wd R 3 : Int)) B5 (b := w.heap.size) (Nat.le_refl _))
    go_wp2_with fail
    exact bodyPost_ret (results_arr_tmp Try.results7 (by rfl) (by rfl) KL.out) rfl ⟨rfl, BR.out⟩
end Go.Proofs.Ythalmomheecpcaa
