/- curve.divide (layer 20): its contract. curve.D (layer 20): what it answers. curve.quotients (layer 20): its contract. Points that are compared, number by number (layer 20). The curve's values as rows (layer 20): what makes them, loads them, compares them. -/
import Derived.Test.YthdbadomppohbaaPriI
import Derived.Test.YthdbadomppohbaaMRow
import Derived.Test.YthdbadomppohbaaMEdw
import Derived.Laws.Tables
import Derived.Laws.CopyOwn
namespace Go.Proofs.Ythdbadomppohbaa
set_option maxRecDepth 20000
set_option linter.unusedSimpArgs false
set_option linter.unusedVariables false
open Go.RowKit Go.Sort
set_option maxRecDepth 20000 in
set_option maxHeartbeats 4000000 in
theorem div_any (a b : Nat) (w : World) (ha : a < PN) (hb : b < PN) : Calls Try.prog 45 #[numV a, numV b] w fun e w' => e = .returned (numV (a * (b ^ (PN - 2) % PN) % PN)) ∧ Below w.heap.size w w' := by
  have HMIX := Lib.hid (show Try.prog.follows .mixedOrders = true by kernel_rfl)
  have K1 := Lib.hid (fun w => pinv_any b w hb)
  have hI : b ^ (PN - 2) % PN < PN := Nat.mod_lt _ PN_pos
  obtain ⟨I, hIe⟩ : ∃ I, b ^ (PN - 2) % PN = I := ⟨_, rfl⟩
  rw [hIe] at K1 hI ⊢
  have K2 := Lib.hid (mul_two a I ha hI)
  obtain ⟨R, hR⟩ : ∃ R, a * I % PN = R := ⟨_, rfl⟩
  rw [hR] at K2 ⊢
  obtain ⟨xa, xb, xr, xz, xB⟩ := a3_at a b 28 w
  simp only [numV_agg] at K1 K2 ⊢
  clear ha hb hI hIe hR
  go_enter Try.func45, Try.ntmps45
  go_wp2_with fail
  change Code.wp _ _ _ _ (A3 a b 28 w)
  generalize A3 a b 28 w = X at *
  obtain ⟨⟨q0, q1, q2, q3⟩, _⟩ := fourV xa
  obtain ⟨⟨q4, q5, q6, q7⟩, _⟩ := fourV xb
  have d0 := fun d os => cell_regrown q0 d os
  have d1 := fun d os => cell_regrown q1 d os
  have d2 := fun d os => cell_regrown q2 d os
  have d3 := fun d os => cell_regrown q3 d os
  have d4 := fun d os => cell_regrown q4 d os
  have d5 := fun d os => cell_regrown q5 d os
  have d6 := fun d os => cell_regrown q6 d os
  have d7 := fun d os => cell_regrown q7 d os
  have XR := Lib.hid xr
  have XB := Lib.hid xB
  clear xa xb xr xz xB q0 q1 q2 q3 q4 q5 q6 q7
  refine wp_region_inw 5 HMIX.out (by decide) (by kernel_rfl) (by kernel_rfl) ?_
  repeat (first
    | (refine inw_skip (by rfl) (by rfl) ?_; simp only [Act.put, List.setIfInBounds_toArray, List.set_cons_zero, List.set_cons_succ])
    | (refine inw_val (v := ?_) (by rfl) (by rfl) (fun d os => ?_) ?_; rotate_left; (focus (go_simp; (try with_reducible rfl); done)); simp only [Act.put, List.setIfInBounds_toArray, List.set_cons_zero, List.set_cons_succ]))
  refine inw_call (args := ?_) (v := ?_) (f := 67) (by rfl) (by rfl) (fun d os => ?_) (fun d os => ?_) ?_; rotate_left 3; (focus (with_reducible exact K1.out _; done)); rotate_left; (focus (go_simp; done)); simp only [Act.put, List.setIfInBounds_toArray, List.set_cons_zero, List.set_cons_succ]
  repeat (first
    | (refine inw_skip (by rfl) (by rfl) ?_; simp only [Act.put, List.setIfInBounds_toArray, List.set_cons_zero, List.set_cons_succ])
    | (refine inw_val (v := ?_) (by rfl) (by rfl) (fun d os => ?_) ?_; rotate_left; (focus (go_simp; (try with_reducible rfl); done)); simp only [Act.put, List.setIfInBounds_toArray, List.set_cons_zero, List.set_cons_succ]))
  refine inw_mk (fun b => .slice (some ⟨b, 0, none⟩) 2 2) (.cells #[.int .u64 (wd a 0 : Int), .int .u64 (wd a 1 : Int), .int .u64 (wd a 2 : Int), .int .u64 (wd a 3 : Int), .int .u64 (wd I 0 : Int), .int .u64 (wd I 1 : Int), .int .u64 (wd I 2 : Int), .int .u64 (wd I 3 : Int)] 28 (0, 0)) (by rfl) (by rfl) (fun d os => ?_) ?_; (focus (go_simp; done)); simp only [List.nil_append, List.cons_append]
  repeat (first
    | (refine inw_skip (by rfl) (by rfl) ?_; simp only [Act.put, List.setIfInBounds_toArray, List.set_cons_zero, List.set_cons_succ])
    | (refine inw_val (v := ?_) (by rfl) (by rfl) (fun d os => ?_) ?_; rotate_left; (focus (go_simp; (try with_reducible rfl); done)); simp only [Act.put, List.setIfInBounds_toArray, List.set_cons_zero, List.set_cons_succ]))
  refine inw_callp (v := _) (f := 32) (args := fun b => #[.slice (some ⟨b, 0, none⟩) 2 2]) (by rfl) (by rfl) (fun b => by rfl) (fun b d os => by (simp only [Act.put, List.setIfInBounds_toArray, List.set_cons_zero, List.set_cons_succ]; go_simp; done)) K2.out ?_; simp only [Act.put, List.setIfInBounds_toArray, List.set_cons_zero, List.set_cons_succ]
  repeat (first
    | (refine inw_skip (by rfl) (by rfl) ?_; simp only [Act.put, List.setIfInBounds_toArray, List.set_cons_zero, List.set_cons_succ])
    | (refine inw_val (v := ?_) (by rfl) (by rfl) (fun d os => ?_) ?_; rotate_left; (focus (go_simp; (try with_reducible rfl); done)); simp only [Act.put, List.setIfInBounds_toArray, List.set_cons_zero, List.set_cons_succ]))

  refine inw_end1k (t1 := 8) (by rfl) (fun b1 d os hb1 => ?_)
  have BW := below_regrown X d os
  have xr := XR.out.keep BW
  have xB := XB.out.trans (BW.mono XB.out.size)
  generalize grow (redrawn X d) os = V at xr xB ⊢
  simp only [Act.put, List.setIfInBounds_toArray, List.set_cons_zero, List.set_cons_succ]
  clear BW XR XB d0 d1 d2 d3 d4 d5 d6 d7
  obtain ⟨⟨z0, z1, z2, z3⟩, zf0, zf1, zf2, zf3⟩ := fourV xr
  have ra := isA_set (n := R) (isA_zero' xr)
  have rb := set4_below (v0 := .int .u64 (wd R 0 : Int)) (v1 := .int .u64 (wd R 1 : Int)) (v2 := .int .u64 (wd R 2 : Int)) (v3 := .int .u64 (wd R 3 : Int)) xB (b := w.heap.size + 1 + 1) (by omega)
  have KL := Lib.hid (load_el ra)
  have BR := Lib.hid rb
  clear ra rb xr xB
  change wpAny _ _ _ _ 1 _ _ _
  refine any_one (i := 5) (by kernel_rfl) rfl (fun K hK => ?_)
  go_simp
  refine hK _ _ ?_
  clear hK K z0 z1 z2 z3 zf0 zf1 zf2 zf3
  refine wpAny_done (by kernel_rfl) ?_ _
  iterate 4 go_step
  exact bodyPost_ret (results_arr Try.results45 (by rfl) KL.out) rfl ⟨rfl, BR.out⟩
open Go.RowKit
def cN : Nat := 20800338683988658368647408995589388737092878452977063003340006470870624536394
theorem d_num : 121665 * (121666 ^ (PN - 2) % PN) % PN = cN ∧ (0 + PN - cN) % PN = dN ∧ cN < PN := by
  rw [pow_of PN 256 (PN - 2) 121666 37095705934669439343138083508754565189542113879843219016388785533085940283556 (by decide +kernel) (by decide +kernel)]
  decide +kernel
set_option maxRecDepth 20000 in
theorem curD_any (w : World) : Calls Try.prog 19 #[] w fun e w' => e = .returned (numV dN) ∧ Below w.heap.size w w' := by
  have K1 := Lib.hid (fun w => psmall_any 121665 w (by decide))
  have K2 := Lib.hid (fun w => psmall_any 121666 w (by decide))
  have K3 := Lib.hid (fun w => div_any 121665 121666 w (by decide +kernel) (by decide +kernel))
  rw [d_num.1] at K3
  have K4 := Lib.hid (fun w => pneg_any cN w d_num.2.2)
  rw [d_num.2.1] at K4
  generalize cN = c at *
  generalize dN = R at *
  obtain ⟨xr, xz, xB⟩ := z1_at 28 w
  obtain ⟨m1, hm1⟩ : ∃ m : Nat, m = 121665 := ⟨_, rfl⟩
  obtain ⟨m2, hm2⟩ : ∃ m : Nat, m = 121666 := ⟨_, rfl⟩
  rw [← hm1] at K1 K3
  rw [← hm2] at K2 K3
  have e1 : ((m1 : Nat) : Int) = 121665 := by rw [hm1]; rfl
  have e2 : ((m2 : Nat) : Int) = 121666 := by rw [hm2]; rfl
  rw [e1] at K1
  rw [e2] at K2
  clear hm1 hm2 e1 e2
  simp only [numV_agg] at K1 K2 K3 K4 ⊢
  go_enter Try.func19, Try.ntmps19
  go_wp2_with fail
  change Calls _ _ _ (Z1 28 w) _
  generalize Z1 28 w = X at *
  refine (K1.out X).mono ?_
  rintro e w1 ⟨rfl, hb1⟩
  have B1 := Lib.hid (xB.trans (hb1.mono xB.size))
  have X1 := Lib.hid (xr.keep hb1)
  clear hb1 xr xB K1
  go_wp2_with fail
  refine (K2.out _).mono ?_
  rintro e w2 ⟨rfl, hb2⟩
  have B2 := Lib.hid (B1.out.trans (hb2.mono B1.out.size))
  have X2 := Lib.hid (X1.out.keep hb2)
  clear hb2 B1 X1 K2
  go_wp2_with fail
  refine (K3.out _).mono ?_
  rintro e w3 ⟨rfl, hb3⟩
  have B3 := Lib.hid (B2.out.trans (hb3.mono B2.out.size))
  have X3 := Lib.hid (X2.out.keep hb3)
  clear hb3 B2 X2 K3
  go_wp2_with fail
  refine (K4.out _).mono ?_
  rintro e w4 ⟨rfl, hb4⟩
  have xr := isA_zero' (X3.out.keep hb4)
  obtain ⟨⟨d0, d1, d2, d3⟩, e0, e1, e2, e3⟩ := fourV xr
  have KL := Lib.hid (load_el (isA_set (n := R) xr))
  have BR := Lib.hid (set4_below (v0 := .int .u64 (wd R 0 : Int)) (v1 := .int .u64 (wd R 1 : Int)) (v2 := .int .u64 (wd R 2 : Int)) (v3 := .int .u64 (wd R 3 : Int)) (B3.out.trans (hb4.mono B3.out.size)) (b := w.heap.size) (Nat.le_refl _))
  clear hb4 B3 X3 K4 xr
  go_wp2_with fail
  exact bodyPost_ret (results_arr Try.results19 (by rfl) KL.out) rfl ⟨rfl, BR.out⟩
open Go.RowKit Go.Sort
/-- A point's sixteen words. -/
def ptL (X Y Z T : Nat) : List Value := [.int .u64 (wd X 0 : Int), .int .u64 (wd X 1 : Int), .int .u64 (wd X 2 : Int), .int .u64 (wd X 3 : Int), .int .u64 (wd Y 0 : Int), .int .u64 (wd Y 1 : Int), .int .u64 (wd Y 2 : Int), .int .u64 (wd Y 3 : Int), .int .u64 (wd Z 0 : Int), .int .u64 (wd Z 1 : Int), .int .u64 (wd Z 2 : Int), .int .u64 (wd Z 3 : Int), .int .u64 (wd T 0 : Int), .int .u64 (wd T 1 : Int), .int .u64 (wd T 2 : Int), .int .u64 (wd T 3 : Int)]
def ptV (X Y Z T : Nat) : Value := .agg (ptL X Y Z T).toArray
def A5 (e f g h : Nat) (w : World) : World := ((((w.alloc (.cells #[.int .u64 (wd e 0 : Int), .int .u64 (wd e 1 : Int), .int .u64 (wd e 2 : Int), .int .u64 (wd e 3 : Int)] 28)).alloc (.cells #[.int .u64 (wd f 0 : Int), .int .u64 (wd f 1 : Int), .int .u64 (wd f 2 : Int), .int .u64 (wd f 3 : Int)] 28)).alloc (.cells #[.int .u64 (wd g 0 : Int), .int .u64 (wd g 1 : Int), .int .u64 (wd g 2 : Int), .int .u64 (wd g 3 : Int)] 28)).alloc (.cells #[.int .u64 (wd h 0 : Int), .int .u64 (wd h 1 : Int), .int .u64 (wd h 2 : Int), .int .u64 (wd h 3 : Int)] 28)).alloc (.cells #[.int .u64 0, .int .u64 0, .int .u64 0, .int .u64 0, .int .u64 0, .int .u64 0, .int .u64 0, .int .u64 0, .int .u64 0, .int .u64 0, .int .u64 0, .int .u64 0, .int .u64 0, .int .u64 0, .int .u64 0, .int .u64 0] 31)
theorem a5_at (e f g h : Nat) (w : World) : IsA (A5 e f g h w) w.heap.size e 28 ∧ IsA (A5 e f g h w) (w.heap.size + 1) f 28 ∧ IsA (A5 e f g h w) (w.heap.size + 1 + 1) g 28 ∧ IsA (A5 e f g h w) (w.heap.size + 1 + 1 + 1) h 28 ∧
    (A5 e f g h w).heap[w.heap.size + 1 + 1 + 1 + 1]? = some (.cells #[.int .u64 0, .int .u64 0, .int .u64 0, .int .u64 0, .int .u64 0, .int .u64 0, .int .u64 0, .int .u64 0, .int .u64 0, .int .u64 0, .int .u64 0, .int .u64 0, .int .u64 0, .int .u64 0, .int .u64 0, .int .u64 0] 31 (0, 0)) ∧ Below w.heap.size w (A5 e f g h w) := by
  have s : ∀ (W : World) (o : Obj), (W.alloc o).heap.size = W.heap.size + 1 := fun W o => by simp
  unfold A5
  refine ⟨((((isA_new w e _).alloc _).alloc _).alloc _).alloc _, ?_, ?_, ?_, ?_, gr_alloc (gr_alloc (gr_alloc (gr_alloc (gr_alloc (Below.refl _ _) _) _) _) _) _⟩
  · have x := (((isA_new (w.alloc (.cells #[.int .u64 (wd e 0 : Int), .int .u64 (wd e 1 : Int), .int .u64 (wd e 2 : Int), .int .u64 (wd e 3 : Int)] 28)) f 28).alloc (.cells #[.int .u64 (wd g 0 : Int), .int .u64 (wd g 1 : Int), .int .u64 (wd g 2 : Int), .int .u64 (wd g 3 : Int)] 28)).alloc (.cells #[.int .u64 (wd h 0 : Int), .int .u64 (wd h 1 : Int), .int .u64 (wd h 2 : Int), .int .u64 (wd h 3 : Int)] 28)).alloc (.cells #[.int .u64 0, .int .u64 0, .int .u64 0, .int .u64 0, .int .u64 0, .int .u64 0, .int .u64 0, .int .u64 0, .int .u64 0, .int .u64 0, .int .u64 0, .int .u64 0, .int .u64 0, .int .u64 0, .int .u64 0, .int .u64 0] 31)
    rwa [s] at x
  · have x := ((isA_new ((w.alloc (.cells #[.int .u64 (wd e 0 : Int), .int .u64 (wd e 1 : Int), .int .u64 (wd e 2 : Int), .int .u64 (wd e 3 : Int)] 28)).alloc (.cells #[.int .u64 (wd f 0 : Int), .int .u64 (wd f 1 : Int), .int .u64 (wd f 2 : Int), .int .u64 (wd f 3 : Int)] 28)) g 28).alloc (.cells #[.int .u64 (wd h 0 : Int), .int .u64 (wd h 1 : Int), .int .u64 (wd h 2 : Int), .int .u64 (wd h 3 : Int)] 28)).alloc (.cells #[.int .u64 0, .int .u64 0, .int .u64 0, .int .u64 0, .int .u64 0, .int .u64 0, .int .u64 0, .int .u64 0, .int .u64 0, .int .u64 0, .int .u64 0, .int .u64 0, .int .u64 0, .int .u64 0, .int .u64 0, .int .u64 0] 31)
    rwa [s, s] at x
  · have x := (isA_new (((w.alloc (.cells #[.int .u64 (wd e 0 : Int), .int .u64 (wd e 1 : Int), .int .u64 (wd e 2 : Int), .int .u64 (wd e 3 : Int)] 28)).alloc (.cells #[.int .u64 (wd f 0 : Int), .int .u64 (wd f 1 : Int), .int .u64 (wd f 2 : Int), .int .u64 (wd f 3 : Int)] 28)).alloc (.cells #[.int .u64 (wd g 0 : Int), .int .u64 (wd g 1 : Int), .int .u64 (wd g 2 : Int), .int .u64 (wd g 3 : Int)] 28)) h 28).alloc (.cells #[.int .u64 0, .int .u64 0, .int .u64 0, .int .u64 0, .int .u64 0, .int .u64 0, .int .u64 0, .int .u64 0, .int .u64 0, .int .u64 0, .int .u64 0, .int .u64 0, .int .u64 0, .int .u64 0, .int .u64 0, .int .u64 0] 31)
    rwa [s, s, s] at x
  · have x := alloc_new ((((w.alloc (.cells #[.int .u64 (wd e 0 : Int), .int .u64 (wd e 1 : Int), .int .u64 (wd e 2 : Int), .int .u64 (wd e 3 : Int)] 28)).alloc (.cells #[.int .u64 (wd f 0 : Int), .int .u64 (wd f 1 : Int), .int .u64 (wd f 2 : Int), .int .u64 (wd f 3 : Int)] 28)).alloc (.cells #[.int .u64 (wd g 0 : Int), .int .u64 (wd g 1 : Int), .int .u64 (wd g 2 : Int), .int .u64 (wd g 3 : Int)] 28)).alloc (.cells #[.int .u64 (wd h 0 : Int), .int .u64 (wd h 1 : Int), .int .u64 (wd h 2 : Int), .int .u64 (wd h 3 : Int)] 28)) (.cells #[.int .u64 0, .int .u64 0, .int .u64 0, .int .u64 0, .int .u64 0, .int .u64 0, .int .u64 0, .int .u64 0, .int .u64 0, .int .u64 0, .int .u64 0, .int .u64 0, .int .u64 0, .int .u64 0, .int .u64 0, .int .u64 0] 31)
    rwa [s, s, s, s] at x
set_option maxRecDepth 20000 in
set_option maxHeartbeats 8000000 in
theorem quot_any (e f g h : Nat) (w : World) (he : e < PN) (hf : f < PN) (hg : g < PN) (hh : h < PN) : Calls Try.prog 52 #[numV e, numV f, numV g, numV h] w fun E w' => E = .returned (ptV (e * f % PN) (g * h % PN) (f * g % PN) (e * h % PN)) ∧ Below w.heap.size w w' := by
  have HMIX := Lib.hid (show Try.prog.follows .mixedOrders = true by kernel_rfl)
  have K1 := Lib.hid (mul_two e f he hf)
  have K2 := Lib.hid (mul_two g h hg hh)
  have K3 := Lib.hid (mul_two f g hf hg)
  have K4 := Lib.hid (mul_two e h he hh)
  generalize e * f % PN = X at *
  generalize g * h % PN = Y at *
  generalize f * g % PN = Z at *
  generalize e * h % PN = T at *
  simp only [numV_agg] at K1 K2 K3 K4 ⊢
  clear he hf hg hh
  go_enter Try.func52, Try.ntmps52
  go_wp2_with fail
  change Code.wp _ _ _ _ (A5 e f g h w)
  obtain ⟨xe, xf, xg, xh, xr, xB⟩ := a5_at e f g h w
  generalize A5 e f g h w = V0 at *
  obtain ⟨⟨q0, q1, q2, q3⟩, _⟩ := fourV xe
  obtain ⟨⟨q4, q5, q6, q7⟩, _⟩ := fourV xf
  obtain ⟨⟨q8, q9, q10, q11⟩, _⟩ := fourV xg
  obtain ⟨⟨q12, q13, q14, q15⟩, _⟩ := fourV xh
  have d0 := fun d os => cell_regrown q0 d os
  have d1 := fun d os => cell_regrown q1 d os
  have d2 := fun d os => cell_regrown q2 d os
  have d3 := fun d os => cell_regrown q3 d os
  have d4 := fun d os => cell_regrown q4 d os
  have d5 := fun d os => cell_regrown q5 d os
  have d6 := fun d os => cell_regrown q6 d os
  have d7 := fun d os => cell_regrown q7 d os
  have d8 := fun d os => cell_regrown q8 d os
  have d9 := fun d os => cell_regrown q9 d os
  have d10 := fun d os => cell_regrown q10 d os
  have d11 := fun d os => cell_regrown q11 d os
  have d12 := fun d os => cell_regrown q12 d os
  have d13 := fun d os => cell_regrown q13 d os
  have d14 := fun d os => cell_regrown q14 d os
  have d15 := fun d os => cell_regrown q15 d os
  have XR := Lib.hid xr
  have XB := Lib.hid xB
  clear xe xf xg xh xr xB q0 q1 q2 q3 q4 q5 q6 q7 q8 q9 q10 q11 q12 q13 q14 q15
  refine wp_region_inw 18 HMIX.out (by decide) (by kernel_rfl) (by kernel_rfl) ?_
  repeat (first
    | (refine inw_skip (by rfl) (by rfl) ?_; simp only [Act.put, List.setIfInBounds_toArray, List.set_cons_zero, List.set_cons_succ])
    | (refine inw_val (v := ?_) (by rfl) (by rfl) (fun d os => ?_) ?_; rotate_left; (focus (go_simp; (try with_reducible rfl); done)); simp only [Act.put, List.setIfInBounds_toArray, List.set_cons_zero, List.set_cons_succ]))
  refine inw_mk (fun b => .slice (some ⟨b, 0, none⟩) 2 2) (.cells #[.int .u64 (wd e 0 : Int), .int .u64 (wd e 1 : Int), .int .u64 (wd e 2 : Int), .int .u64 (wd e 3 : Int), .int .u64 (wd f 0 : Int), .int .u64 (wd f 1 : Int), .int .u64 (wd f 2 : Int), .int .u64 (wd f 3 : Int)] 28 (0, 0)) (by rfl) (by rfl) (fun d os => ?_) ?_; (focus (go_simp; done)); simp only [List.nil_append, List.cons_append]
  repeat (first
    | (refine inw_skip (by rfl) (by rfl) ?_; simp only [Act.put, List.setIfInBounds_toArray, List.set_cons_zero, List.set_cons_succ])
    | (refine inw_val (v := ?_) (by rfl) (by rfl) (fun d os => ?_) ?_; rotate_left; (focus (go_simp; (try with_reducible rfl); done)); simp only [Act.put, List.setIfInBounds_toArray, List.set_cons_zero, List.set_cons_succ]))
  refine inw_callp (v := _) (f := 32) (args := fun b => #[.slice (some ⟨b, 0, none⟩) 2 2]) (by rfl) (by rfl) (fun b => by rfl) (fun b d os => by (simp only [Act.put, List.setIfInBounds_toArray, List.set_cons_zero, List.set_cons_succ]; go_simp; done)) K1.out ?_; simp only [Act.put, List.setIfInBounds_toArray, List.set_cons_zero, List.set_cons_succ]
  repeat (first
    | (refine inw_skip (by rfl) (by rfl) ?_; simp only [Act.put, List.setIfInBounds_toArray, List.set_cons_zero, List.set_cons_succ])
    | (refine inw_val (v := ?_) (by rfl) (by rfl) (fun d os => ?_) ?_; rotate_left; (focus (go_simp; (try with_reducible rfl); done)); simp only [Act.put, List.setIfInBounds_toArray, List.set_cons_zero, List.set_cons_succ]))
  refine inw_mk (fun b => .slice (some ⟨b, 0, none⟩) 2 2) (.cells #[.int .u64 (wd g 0 : Int), .int .u64 (wd g 1 : Int), .int .u64 (wd g 2 : Int), .int .u64 (wd g 3 : Int), .int .u64 (wd h 0 : Int), .int .u64 (wd h 1 : Int), .int .u64 (wd h 2 : Int), .int .u64 (wd h 3 : Int)] 28 (0, 0)) (by rfl) (by rfl) (fun d os => ?_) ?_; (focus (go_simp; done)); simp only [List.nil_append, List.cons_append]
  repeat (first
    | (refine inw_skip (by rfl) (by rfl) ?_; simp only [Act.put, List.setIfInBounds_toArray, List.set_cons_zero, List.set_cons_succ])
    | (refine inw_val (v := ?_) (by rfl) (by rfl) (fun d os => ?_) ?_; rotate_left; (focus (go_simp; (try with_reducible rfl); done)); simp only [Act.put, List.setIfInBounds_toArray, List.set_cons_zero, List.set_cons_succ]))
  refine inw_callp (v := _) (f := 32) (args := fun b => #[.slice (some ⟨b, 0, none⟩) 2 2]) (by rfl) (by rfl) (fun b => by rfl) (fun b d os => by (simp only [Act.put, List.setIfInBounds_toArray, List.set_cons_zero, List.set_cons_succ]; go_simp; done)) K2.out ?_; simp only [Act.put, List.setIfInBounds_toArray, List.set_cons_zero, List.set_cons_succ]
  repeat (first
    | (refine inw_skip (by rfl) (by rfl) ?_; simp only [Act.put, List.setIfInBounds_toArray, List.set_cons_zero, List.set_cons_succ])
    | (refine inw_val (v := ?_) (by rfl) (by rfl) (fun d os => ?_) ?_; rotate_left; (focus (go_simp; (try with_reducible rfl); done)); simp only [Act.put, List.setIfInBounds_toArray, List.set_cons_zero, List.set_cons_succ]))
  refine inw_mk (fun b => .slice (some ⟨b, 0, none⟩) 2 2) (.cells #[.int .u64 (wd f 0 : Int), .int .u64 (wd f 1 : Int), .int .u64 (wd f 2 : Int), .int .u64 (wd f 3 : Int), .int .u64 (wd g 0 : Int), .int .u64 (wd g 1 : Int), .int .u64 (wd g 2 : Int), .int .u64 (wd g 3 : Int)] 28 (0, 0)) (by rfl) (by rfl) (fun d os => ?_) ?_; (focus (go_simp; done)); simp only [List.nil_append, List.cons_append]
  repeat (first
    | (refine inw_skip (by rfl) (by rfl) ?_; simp only [Act.put, List.setIfInBounds_toArray, List.set_cons_zero, List.set_cons_succ])
    | (refine inw_val (v := ?_) (by rfl) (by rfl) (fun d os => ?_) ?_; rotate_left; (focus (go_simp; (try with_reducible rfl); done)); simp only [Act.put, List.setIfInBounds_toArray, List.set_cons_zero, List.set_cons_succ]))
  refine inw_callp (v := _) (f := 32) (args := fun b => #[.slice (some ⟨b, 0, none⟩) 2 2]) (by rfl) (by rfl) (fun b => by rfl) (fun b d os => by (simp only [Act.put, List.setIfInBounds_toArray, List.set_cons_zero, List.set_cons_succ]; go_simp; done)) K3.out ?_; simp only [Act.put, List.setIfInBounds_toArray, List.set_cons_zero, List.set_cons_succ]
  repeat (first
    | (refine inw_skip (by rfl) (by rfl) ?_; simp only [Act.put, List.setIfInBounds_toArray, List.set_cons_zero, List.set_cons_succ])
    | (refine inw_val (v := ?_) (by rfl) (by rfl) (fun d os => ?_) ?_; rotate_left; (focus (go_simp; (try with_reducible rfl); done)); simp only [Act.put, List.setIfInBounds_toArray, List.set_cons_zero, List.set_cons_succ]))
  refine inw_mk (fun b => .slice (some ⟨b, 0, none⟩) 2 2) (.cells #[.int .u64 (wd e 0 : Int), .int .u64 (wd e 1 : Int), .int .u64 (wd e 2 : Int), .int .u64 (wd e 3 : Int), .int .u64 (wd h 0 : Int), .int .u64 (wd h 1 : Int), .int .u64 (wd h 2 : Int), .int .u64 (wd h 3 : Int)] 28 (0, 0)) (by rfl) (by rfl) (fun d os => ?_) ?_; (focus (go_simp; done)); simp only [List.nil_append, List.cons_append]
  repeat (first
    | (refine inw_skip (by rfl) (by rfl) ?_; simp only [Act.put, List.setIfInBounds_toArray, List.set_cons_zero, List.set_cons_succ])
    | (refine inw_val (v := ?_) (by rfl) (by rfl) (fun d os => ?_) ?_; rotate_left; (focus (go_simp; (try with_reducible rfl); done)); simp only [Act.put, List.setIfInBounds_toArray, List.set_cons_zero, List.set_cons_succ]))
  refine inw_callp (v := _) (f := 32) (args := fun b => #[.slice (some ⟨b, 0, none⟩) 2 2]) (by rfl) (by rfl) (fun b => by rfl) (fun b d os => by (simp only [Act.put, List.setIfInBounds_toArray, List.set_cons_zero, List.set_cons_succ]; go_simp; done)) K4.out ?_; simp only [Act.put, List.setIfInBounds_toArray, List.set_cons_zero, List.set_cons_succ]
  repeat (first
    | (refine inw_skip (by rfl) (by rfl) ?_; simp only [Act.put, List.setIfInBounds_toArray, List.set_cons_zero, List.set_cons_succ])
    | (refine inw_val (v := ?_) (by rfl) (by rfl) (fun d os => ?_) ?_; rotate_left; (focus (go_simp; (try with_reducible rfl); done)); simp only [Act.put, List.setIfInBounds_toArray, List.set_cons_zero, List.set_cons_succ]))

  refine inw_end4 (t1 := 11) (t2 := 15) (t3 := 19) (t4 := 23) (by rfl) (by rfl) (by rfl) (by rfl) (fun n1 n2 n3 n4 d os => ?_)
  have BW := below_regrown V0 d os
  have xr := (BW.block _ (Array.getElem?_eq_some_iff.1 XR.out).1).trans XR.out
  have xB := XB.out.trans (BW.mono XB.out.size)
  generalize grow (redrawn V0 d) os = V at xr xB ⊢
  clear BW XR XB d0 d1 d2 d3 d4 d5 d6 d7 d8 d9 d10 d11 d12 d13 d14 d15 K1 K2 K3 K4
  simp only [Act.put, List.setIfInBounds_toArray, List.set_cons_zero, List.set_cons_succ]
  have G := Lib.hid (setRow_heap V (w.heap.size + 1 + 1 + 1 + 1) _ (ptL X Y Z T).toArray _ _ xr)
  have GB := Lib.hid (below_setRow xB (by omega : w.heap.size ≤ w.heap.size + 1 + 1 + 1 + 1) (ptL X Y Z T).toArray)
  change wpAny _ _ _ _ 1 _ _ _
  refine any_one (i := 18) (by kernel_rfl) rfl (fun K hK => ?_)
  rw [if_pos (by rfl)]
  refine wp_store_row 31 (.tmp 8) (.tmp 26) rfl (w.heap.size + 1 + 1 + 1 + 1) (ptL X Y Z T).toArray (by simp [Act.eval]) (by simp [Act.eval, ptL]) 31 _ xr (by kernel_rfl) (by rfl) (by simp [ptL, Value.oneCell']) ?_
  simp only [Act.put, List.setIfInBounds_toArray, List.set_cons_zero, List.set_cons_succ]
  refine hK _ _ ?_
  clear hK K xr xB
  generalize V.setRow (w.heap.size + 1 + 1 + 1 + 1) (ptL X Y Z T).toArray = Y9 at *
  refine wpAny_done (by kernel_rfl) ?_ _
  iterate 4 go_step
  have kl := run_loadVar_row (P := Try.prog) Y9 (w.heap.size + 1 + 1 + 1 + 1) 31 31 _ (0, 0) _ G.out Try.underlying31 rfl (by kernel_rfl)
  exact bodyPost_ret (v := ptV X Y Z T) (results_arr Try.results52 (by rfl) kl) rfl ⟨rfl, GB.out⟩
open Go.RowKit Go.Sort
theorem eql_elF (f : Nat) (w : World) (a b : Nat) (ha : a < B64 ^ 4) (hb : b < B64 ^ 4) : (Op.equalIn (f + 3) 28 (numV a) (numV b)).run Try.prog w = .ok (decide (a = b)) w := by
  rw [← wd_same a b ha hb]
  unfold numV
  have hn := fun w x0 x1 x2 x3 y0 y1 y2 y3 => eql_numF f w x0 x1 x2 x3 y0 y1 y2 y3
  rw [show f + 3 = (f + 2) + 1 from rfl, run_equalIn_struct w (f + 2) 28 _ _ (by kernel_rfl) (by kernel_rfl)]
  have hp : ∀ (a0 a1 a2 a3 : Int) (w : World), (part 26 #[.int .u64 a0, .int .u64 a1, .int .u64 a2, .int .u64 a3] 0).run Try.prog w = .ok (.agg #[.int .u64 a0, .int .u64 a1, .int .u64 a2, .int .u64 a3]) w := fun a0 a1 a2 a3 w => by
    simp only [part]
    go_simp
  simp only [Program.fieldsOf, Try.underlying28]
  simp only [Op.eqFields, hp, hn]
  generalize (wd a 0 : Int) = x0
  generalize (wd a 1 : Int) = x1
  generalize (wd a 2 : Int) = x2
  generalize (wd a 3 : Int) = x3
  generalize (wd b 0 : Int) = y0
  generalize (wd b 1 : Int) = y1
  generalize (wd b 2 : Int) = y2
  generalize (wd b 3 : Int) = y3
  simp [Op.eqFields, hp, hn]
  by_cases h0 : x0 = y0 <;> by_cases h1 : x1 = y1 <;> by_cases h2 : x2 = y2 <;> by_cases h3 : x3 = y3 <;> simp [h0, h1, h2, h3]
theorem eql_arr (w : World) (X Y Z T X' Y' Z' T' : Nat) (h0 : X < B64 ^ 4) (h1 : Y < B64 ^ 4) (h2 : Z < B64 ^ 4) (h3 : T < B64 ^ 4) (k0 : X' < B64 ^ 4) (k1 : Y' < B64 ^ 4) (k2 : Z' < B64 ^ 4) (k3 : T' < B64 ^ 4) :
    (Op.equalIn 9999 29 (ptV X Y Z T) (ptV X' Y' Z' T')).run Try.prog w = .ok (decide (X = X') && (decide (Y = Y') && (decide (Z = Z') && decide (T = T')))) w := by
  have e0 := fun w => eql_elF 9995 w X X' h0 k0
  have e1 := fun w => eql_elF 9995 w Y Y' h1 k1
  have e2 := fun w => eql_elF 9995 w Z Z' h2 k2
  have e3 := fun w => eql_elF 9995 w T T' h3 k3
  rw [show (9999 : Nat) = 9998 + 1 from rfl, Op.equalIn]
  simp only [Sem.run_bind, run_underlying Try.underlying29, Result.andThen_ok, ptV]
  have hp : ∀ (v : Nat) (k : Nat) (xs : Array Value) (w : World), (xs.toList.drop k).take 4 = [.int .u64 (wd v 0 : Int), .int .u64 (wd v 1 : Int), .int .u64 (wd v 2 : Int), .int .u64 (wd v 3 : Int)] → (part 28 xs k).run Try.prog w = .ok (numV v) w := fun v k xs w h => by
    simp only [part]
    go_simp
    unfold numV
    refine congrArg Value.agg (Array.ext' ?_)
    rw [Array.toList_extract, List.extract_eq_take_drop, show k + 4 - k = 4 by omega]
    exact h
  have hz : ∀ w, (sizeOf 28).run Try.prog w = .ok 4 w := Try.sizeOf28
  rw [hz]
  simp only [Result.andThen_ok]
  rw [Std.Legacy.Range.forIn_eq_forIn_range']
  simp [Std.Legacy.Range.size, List.range']
  have a0 := fun w => hp X 0 (ptL X Y Z T).toArray w rfl
  have a1 := fun w => hp Y 4 (ptL X Y Z T).toArray w rfl
  have a2 := fun w => hp Z 8 (ptL X Y Z T).toArray w rfl
  have a3 := fun w => hp T 12 (ptL X Y Z T).toArray w rfl
  have b0 := fun w => hp X' 0 (ptL X' Y' Z' T').toArray w rfl
  have b1 := fun w => hp Y' 4 (ptL X' Y' Z' T').toArray w rfl
  have b2 := fun w => hp Z' 8 (ptL X' Y' Z' T').toArray w rfl
  have b3 := fun w => hp T' 12 (ptL X' Y' Z' T').toArray w rfl
  simp only [a0, b0, a1, b1, a2, b2, a3, b3, e0, e1, e2, e3, Result.andThen_ok]
  generalize decide (X = X') = c0
  generalize decide (Y = Y') = c1
  generalize decide (Z = Z') = c2
  generalize decide (T = T') = c3
  cases c0 <;> cases c1 <;> cases c2 <;> cases c3 <;> simp
theorem bin_eql_pt (X Y Z T X' Y' Z' T' : Nat) (x y : Operand) (w : World) (h0 : X < B64 ^ 4) (h1 : Y < B64 ^ 4) (h2 : Z < B64 ^ 4) (h3 : T < B64 ^ 4) (k0 : X' < B64 ^ 4) (k1 : Y' < B64 ^ 4) (k2 : Z' < B64 ^ 4) (k3 : T' < B64 ^ 4) :
    (do eqGuard .eql 31 x y (ptV X Y Z T) (ptV X' Y' Z' T'); binOp .eql 31 (ptV X Y Z T) (ptV X' Y' Z' T') : Sem Value).run Try.prog w = .ok (.bool (decide (X = X') && (decide (Y = Y') && (decide (Z = Z') && decide (T = T'))))) w := by
  have e := fun w => eql_arr w X Y Z T X' Y' Z' T' h0 h1 h2 h3 k0 k1 k2 k3
  have hq : ∀ w, (Op.equalIn 10000 31 (ptV X Y Z T) (ptV X' Y' Z' T')).run Try.prog w = .ok (decide (X = X') && (decide (Y = Y') && (decide (Z = Z') && decide (T = T')))) w := fun w => by
    unfold ptV at e ⊢
    rw [show (10000 : Nat) = 9999 + 1 from rfl, run_equalIn_struct w 9999 31 _ _ (by kernel_rfl) (by kernel_rfl)]
    simp only [Program.fieldsOf, Try.underlying31]
    have hp : ∀ (X Y Z T : Nat) (w : World), (part 29 (ptL X Y Z T).toArray 0).run Try.prog w = .ok (.agg (ptL X Y Z T).toArray) w := fun X Y Z T w => by
      simp only [part]
      unfold ptL
      go_simp
    generalize (decide (X = X') && (decide (Y = Y') && (decide (Z = Z') && decide (T = T')))) = E at e ⊢
    simp only [Op.eqFields]
    simp [hp, e]
    cases E <;> simp
  generalize (decide (X = X') && (decide (Y = Y') && (decide (Z = Z') && decide (T = T')))) = E at hq ⊢
  unfold ptV at hq ⊢
  generalize (ptL X Y Z T).toArray = A at *
  generalize (ptL X' Y' Z' T').toArray = B at *
  go_simp
open Go.RowKit Go.Sort
def elR (n : Nat) : Array Value := #[.int .u64 (wd n 0 : Int), .int .u64 (wd n 1 : Int), .int .u64 (wd n 2 : Int), .int .u64 (wd n 3 : Int)]
def z4 : Array Value := #[.int .u64 0, .int .u64 0, .int .u64 0, .int .u64 0]
def z16 : Array Value := #[.int .u64 0, .int .u64 0, .int .u64 0, .int .u64 0, .int .u64 0, .int .u64 0, .int .u64 0, .int .u64 0, .int .u64 0, .int .u64 0, .int .u64 0, .int .u64 0, .int .u64 0, .int .u64 0, .int .u64 0, .int .u64 0]
theorem one_el (n : Nat) : (elR n).all (·.oneCell') = true := by simp [elR, Value.oneCell']
theorem one_pt (X Y Z T : Nat) : (ptL X Y Z T).toArray.all (·.oneCell') = true := by simp [ptL, Value.oneCell']
theorem rowEl : RowTy Try.prog 28 4 := ⟨.inl ⟨_, Try.underlying28⟩, by kernel_rfl⟩
theorem rowPt : RowTy Try.prog 31 16 := ⟨.inl ⟨_, Try.underlying31⟩, by kernel_rfl⟩
theorem rowAd : RowTy Try.prog 58 4 := ⟨.inl ⟨_, Try.underlying58⟩, by kernel_rfl⟩
theorem bx_El (a : Nat) (W : World) : (Instr.box 28 (numV a)).run Try.prog W = .ok (.pointer (some ⟨W.heap.size, 0, none⟩)) (W.alloc (.cells (elR a) 28 (0, 0))) := by
  unfold numV elR
  go_simp
theorem bx_Pt (X Y Z T : Nat) (W : World) : (Instr.box 31 (ptV X Y Z T)).run Try.prog W = .ok (.pointer (some ⟨W.heap.size, 0, none⟩)) (W.alloc (.cells (ptL X Y Z T).toArray 31 (0, 0))) := by
  unfold ptV ptL
  go_simp
theorem bx_Ad (a : Nat) (W : World) : (Instr.box 58 (numV a)).run Try.prog W = .ok (.pointer (some ⟨W.heap.size, 0, none⟩)) (W.alloc (.cells (elR a) 58 (0, 0))) := by
  unfold numV elR
  go_simp
theorem al_El (W : World) : (Instr.alloc 28 true (.tuple #[])).run Try.prog W = .ok (.pointer (some ⟨W.heap.size, 0, none⟩)) (W.alloc (.cells z4 28 (0, 0))) := by
  unfold z4
  go_simp
theorem al_Ad (W : World) : (Instr.alloc 58 true (.tuple #[])).run Try.prog W = .ok (.pointer (some ⟨W.heap.size, 0, none⟩)) (W.alloc (.cells z4 58 (0, 0))) := by
  unfold z4
  go_simp
theorem al_Pt (W : World) : (Instr.alloc 31 true (.tuple #[])).run Try.prog W = .ok (.pointer (some ⟨W.heap.size, 0, none⟩)) (W.alloc (.cells z16 31 (0, 0))) := by
  unfold z16
  go_simp
theorem bs2 (a b : Nat) (W : World) : (Instr.buildSlice 91 2 #[(0, numV a), (1, numV b)]).run Try.prog W = .ok (.slice (some ⟨W.heap.size, 0, none⟩) 2 2) (W.alloc (.cells (elR a ++ elR b) 28 (0, 0))) := by
  unfold numV elR
  go_simp
theorem bs3 (a b c : Nat) (W : World) : (Instr.buildSlice 91 3 #[(0, numV a), (1, numV b), (2, numV c)]).run Try.prog W = .ok (.slice (some ⟨W.heap.size, 0, none⟩) 3 3) (W.alloc (.cells (elR a ++ elR b ++ elR c) 28 (0, 0))) := by
  unfold numV elR
  go_simp
theorem bd4 (a b c d : Nat) (W : World) : (Instr.build 29 #[(0, numV a), (1, numV b), (2, numV c), (3, numV d)]).run Try.prog W = .ok (ptV a b c d) W := by
  unfold numV ptV ptL
  go_simp
theorem bdP (a b c d : Nat) (W : World) : (Instr.build 31 #[(0, ptV a b c d)]).run Try.prog W = .ok (ptV a b c d) W := by
  unfold ptV ptL
  go_simp
theorem bdP0 (W : World) : (Instr.build 31 #[]).run Try.prog W = .ok (.agg z16) W := by
  unfold z16
  go_simp
theorem bdA (a : Nat) (W : World) : (Instr.build 58 #[(0, numV a)]).run Try.prog W = .ok (numV a) W := by
  unfold numV
  go_simp
theorem fa_Pt0 (b : Nat) (W : World) : (Instr.fieldAt 31 (.pointer (some ⟨b, 0, none⟩)) 0).run Try.prog W = .ok (.pointer (some ⟨b, 0, none⟩)) W := by
  go_simp
theorem fa_Ad0 (b : Nat) (W : World) : (Instr.fieldAt 58 (.pointer (some ⟨b, 0, none⟩)) 0).run Try.prog W = .ok (.pointer (some ⟨b, 0, none⟩)) W := by
  go_simp
theorem ix_P0 (b : Nat) (W : World) : (Instr.indexAt 29 (.pointer (some ⟨b, 0, none⟩)) (.int .i64 0)).run Try.prog W = .ok (.pointer (some ⟨b, 0, none⟩)) W := by
  go_simp
theorem ix_P1 (b : Nat) (W : World) : (Instr.indexAt 29 (.pointer (some ⟨b, 0, none⟩)) (.int .i64 1)).run Try.prog W = .ok (.pointer (some ⟨b, 4, none⟩)) W := by
  go_simp
theorem ix_P2 (b : Nat) (W : World) : (Instr.indexAt 29 (.pointer (some ⟨b, 0, none⟩)) (.int .i64 2)).run Try.prog W = .ok (.pointer (some ⟨b, 8, none⟩)) W := by
  go_simp
theorem ix_P3 (b : Nat) (W : World) : (Instr.indexAt 29 (.pointer (some ⟨b, 0, none⟩)) (.int .i64 3)).run Try.prog W = .ok (.pointer (some ⟨b, 12, none⟩)) W := by
  go_simp
theorem bin_eql_el (a b : Nat) (x y : Operand) (W : World) (ha : a < B64 ^ 4) (hb : b < B64 ^ 4) : (do eqGuard .eql 28 x y (numV a) (numV b); binOp .eql 28 (numV a) (numV b) : Sem Value).run Try.prog W = .ok (.bool (decide (a = b))) W := by
  have h := fun w => eql_el a b w ha hb
  unfold numV
  go_simp
theorem bin_neq_el (a b : Nat) (x y : Operand) (W : World) (ha : a < B64 ^ 4) (hb : b < B64 ^ 4) : (do eqGuard .neq 28 x y (numV a) (numV b); binOp .neq 28 (numV a) (numV b) : Sem Value).run Try.prog W = .ok (.bool (!decide (a = b))) W := by
  have h := fun w => eql_el a b w ha hb
  unfold numV
  go_simp
theorem bin_eql_nu (a b : Nat) (x y : Operand) (W : World) (ha : a < B64 ^ 4) (hb : b < B64 ^ 4) : (do eqGuard .eql 26 x y (numV a) (numV b); binOp .eql 26 (numV a) (numV b) : Sem Value).run Try.prog W = .ok (.bool (decide (a = b))) W := by
  have h := fun w => eql_nu a b w ha hb
  unfold numV
  go_simp
theorem z16_is : (.agg z16 : Value) = ptV 0 0 0 0 := by
  have h : ∀ i, wd 0 i = 0 := fun i => by simp [wd]
  simp [ptV, ptL, z16, h]
theorem eq_pt_zero (X Y Z T : Nat) (x y : Operand) (w : World) (hX : X < PN) (hY : Y < PN) (hZ : Z < PN) (hT : T < PN) (hz : 0 < Z) :
    (do eqGuard .eql 31 x y (ptV X Y Z T) (.agg z16); binOp .eql 31 (ptV X Y Z T) (.agg z16) : Sem Value).run Try.prog w = .ok (.bool false) w := by
  rw [z16_is, bin_eql_pt X Y Z T 0 0 0 0 x y w (of_PN hX) (of_PN hY) (of_PN hZ) (of_PN hT) (by decide) (by decide) (by decide) (by decide)]
  have h : decide (Z = 0) = false := decide_eq_false (by omega)
  rw [h]
  simp
theorem eq_zero_zero (x y : Operand) (w : World) :
    (do eqGuard .eql 31 x y (.agg z16) (.agg z16); binOp .eql 31 (.agg z16) (.agg z16) : Sem Value).run Try.prog w = .ok (.bool true) w := by
  rw [z16_is, bin_eql_pt 0 0 0 0 0 0 0 0 x y w (by decide) (by decide) (by decide) (by decide) (by decide) (by decide) (by decide) (by decide)]
  simp
def IV (a : Nat) : Nat := a ^ (PN - 2) % PN
theorem IV_lt (a : Nat) : IV a < PN := Nat.mod_lt _ PN_pos
theorem pinv_any' (a : Nat) (w : World) (ha : a < PN) : Calls Try.prog 67 #[numV a] w fun e w' => e = .returned (numV (IV a)) ∧ Below w.heap.size w w' := pinv_any a w ha
theorem div_any' (a b : Nat) (w : World) (ha : a < PN) (hb : b < PN) : Calls Try.prog 45 #[numV a, numV b] w fun e w' => e = .returned (numV (a * IV b % PN)) ∧ Below w.heap.size w w' := div_any a b w ha hb
theorem mul_three (p q r : Nat) (hp : p < PN) (hq : q < PN) (hr : r < PN) (b : Nat) (W : World) (h : W.heap[b]? = some (.cells (elR p ++ elR q ++ elR r) 28 (0, 0))) :
    Calls Try.prog 32 #[.slice (some ⟨b, 0, none⟩) 3 3] W fun e w' => e = .returned (numV (p * q % PN * r % PN)) ∧ Below W.heap.size W w' := by
  refine pmul_any (some ⟨b, 0, none⟩) 3 3 [p, q, r] W (by omega) (by omega) ⟨rfl, fun n hn => ?_, fun _ => ⟨b, rfl, lt_blk h, fun i k hi hk => ?_⟩⟩
  · simp at hn
    rcases hn with rfl | rfl | rfl <;> assumption
  · unfold elR at h
    have hi2 : i = 0 ∨ i = 1 ∨ i = 2 := by omega
    have hk4 : k = 0 ∨ k = 1 ∨ k = 2 ∨ k = 3 := by omega
    rcases hi2 with rfl | rfl | rfl <;> rcases hk4 with rfl | rfl | rfl | rfl <;> simp [World.cell?, h]
theorem psmall_any_ (a : Nat) (ha : a < 18446744073709551616) (w : World) : Calls Try.prog 33 #[.int .u64 (a : Int)] w fun e w' => e = .returned (numV a) ∧ Below w.heap.size w w' := psmall_any a w ha
theorem mul_two' (p q : Nat) (hp : p < PN) (hq : q < PN) (b : Nat) (W : World) (h : W.heap[b]? = some (.cells (elR p ++ elR q) 28 (0, 0))) :
    Calls Try.prog 32 #[.slice (some ⟨b, 0, none⟩) 2 2] W fun e w' => e = .returned (numV (p * q % PN)) ∧ Below W.heap.size W w' := mul_two p q hp hq b W h
theorem add_two' (p q : Nat) (hp : p < PN) (hq : q < PN) (b : Nat) (W : World) (h : W.heap[b]? = some (.cells (elR p ++ elR q) 28 (0, 0))) :
    Calls Try.prog 47 #[.slice (some ⟨b, 0, none⟩) 2 2] W fun e w' => e = .returned (numV ((p + q) % PN)) ∧ Below W.heap.size W w' := add_two p q hp hq b W h
set_option maxRecDepth 20000 in
set_option maxHeartbeats 8000000 in
theorem at_any (a b : Nat) (w : World) (ha : a < PN) (hb : b < PN) : Calls Try.prog 35 #[numV a, numV b] w fun E w' => E = .returned (ptV a b 1 (a * b % PN)) ∧ Below w.heap.size w w' := by
  have HMIX := Lib.hid (show Try.prog.follows .mixedOrders = true by kernel_rfl)
  go_enter Try.func35, Try.ntmps35
  have hM0 := Mem.start w
  (first | (refine wp_region_lit ?_) | (go_step; (first | (refine wp_region_lit ?_) | (go_step; (first | (refine wp_region_lit ?_) | (go_step; (first | (refine wp_region_lit ?_) | (go_step; (first | (refine wp_region_lit ?_) | (go_step; (first | (refine wp_region_lit ?_) | (go_step; (first | (refine wp_region_lit ?_) | (go_step; (refine wp_region_lit ?_)))))))))))))))
  refine wl_new hM0 (f := fun b => .pointer (some ⟨b, 0, none⟩)) (ob := .cells (elR a) 28 (0, 0)) (fun W => run_box_of rfl rfl (bx_El a W)) rfl fun b1 W1 hM1 => ?_
  simp only [Act.put, List.setIfInBounds_toArray, List.set_cons_zero, List.set_cons_succ]
  refine wl_new hM1 (f := fun b => .pointer (some ⟨b, 0, none⟩)) (ob := .cells (elR b) 28 (0, 0)) (fun W => run_box_of rfl rfl (bx_El b W)) rfl fun b2 W2 hM2 => ?_
  simp only [Act.put, List.setIfInBounds_toArray, List.set_cons_zero, List.set_cons_succ]
  refine wl_new hM2 (f := fun b => .pointer (some ⟨b, 0, none⟩)) (ob := .cells z16 31 (0, 0)) (fun W => run_alloc_of rfl (al_Pt W)) rfl fun b3 W3 hM3 => ?_
  simp only [Act.put, List.setIfInBounds_toArray, List.set_cons_zero, List.set_cons_succ]
  refine wpList_nil ?_
  (first | (refine wp_region_inw 9 HMIX.out (by decide) (by kernel_rfl) (by kernel_rfl) ?_) | (go_step; (first | (refine wp_region_inw 9 HMIX.out (by decide) (by kernel_rfl) (by kernel_rfl) ?_) | (go_step; (first | (refine wp_region_inw 9 HMIX.out (by decide) (by kernel_rfl) (by kernel_rfl) ?_) | (go_step; (first | (refine wp_region_inw 9 HMIX.out (by decide) (by kernel_rfl) (by kernel_rfl) ?_) | (go_step; (first | (refine wp_region_inw 9 HMIX.out (by decide) (by kernel_rfl) (by kernel_rfl) ?_) | (go_step; (first | (refine wp_region_inw 9 HMIX.out (by decide) (by kernel_rfl) (by kernel_rfl) ?_) | (go_step; (first | (refine wp_region_inw 9 HMIX.out (by decide) (by kernel_rfl) (by kernel_rfl) ?_) | (go_step; (refine wp_region_inw 9 HMIX.out (by decide) (by kernel_rfl) (by kernel_rfl) ?_)))))))))))))))
  refine inw_row hM3 2 (v := numV a) rfl rfl rfl rfl rowEl rfl rfl ?_; simp only [Act.put, List.setIfInBounds_toArray, List.set_cons_zero, List.set_cons_succ]
  refine inw_row hM3 1 (v := numV b) rfl rfl rfl rfl rowEl rfl rfl ?_; simp only [Act.put, List.setIfInBounds_toArray, List.set_cons_zero, List.set_cons_succ]
  refine inw_callV (args := #[.int .u64 1]) (v := numV 1) (fun W => run_call_fn W (enters_of Try.func33 rfl rfl) rfl (by simp [Act.eval])) (fun W _ => psmall_any_ 1 (by decide) W) rfl rfl ?_; simp only [Act.put, List.setIfInBounds_toArray, List.set_cons_zero, List.set_cons_succ]
  refine inw_row hM3 2 (v := numV a) rfl rfl rfl rfl rowEl rfl rfl ?_; simp only [Act.put, List.setIfInBounds_toArray, List.set_cons_zero, List.set_cons_succ]
  refine inw_row hM3 1 (v := numV b) rfl rfl rfl rfl rowEl rfl rfl ?_; simp only [Act.put, List.setIfInBounds_toArray, List.set_cons_zero, List.set_cons_succ]
  refine inw_slice (n := 2) (L := elR a ++ elR b) (T := 28) (fun W => run_slice_of rfl (by simp [Act.eval]) (bs2 a b W)) rfl rfl ?_; simp only [List.nil_append, List.cons_append]
  obtain ⟨v1, ev1⟩ : ∃ x, x = a * b % PN := ⟨_, rfl⟩
  have pv1 : v1 < PN := by rw [ev1]; exact Nat.mod_lt _ PN_pos
  have Kv1 := mul_two' a b ha hb
  rw [← ev1] at Kv1
  refine inw_callS 5 10 (v := numV v1) rfl rfl (fun _ => rfl) (fun b W => run_call_fn W (enters_of Try.func32 rfl rfl) rfl (by simp [Act.eval, Act.put])) (fun b W h => Kv1 b W h) ?_; simp only [Act.put, List.setIfInBounds_toArray, List.set_cons_zero, List.set_cons_succ]
  refine inw_pure (v := ptV a b 1 v1) (fun W => run_build_of rfl (by simp [Act.eval]) (bd4 a b 1 v1 W)) rfl rfl ?_; simp only [Act.put, List.setIfInBounds_toArray, List.set_cons_zero, List.set_cons_succ]
  refine inw_pure (v := ptV a b 1 v1) (fun W => run_build_of rfl (by simp [Act.eval]) (bdP a b 1 v1 W)) rfl rfl ?_; simp only [Act.put, List.setIfInBounds_toArray, List.set_cons_zero, List.set_cons_succ]
  refine inw_fin fun d os => ?_
  refine given_mk (t := 10) rfl fun s5 => ?_
  refine given_nil fun hap => ?_
  simp only [Act.put, List.setIfInBounds_toArray, List.set_cons_zero, List.set_cons_succ] at hap ⊢
  have hM4 := hM3.calls (below_regrown W3 d os)
  clear hap 
  generalize grow (redrawn W3 d) os = W4 at hM4 ⊢
  change wpAny _ _ _ _ 1 _ _ _
  refine any_set (n := 9) (by kernel_rfl) rfl hM4 0 (cs := ((ptL a b 1 v1).toArray)) rfl rfl rfl rfl rowPt rfl (one_pt a b 1 v1) rfl rfl fun W5 hM5 => ?_
  simp only [List.set_cons_zero, List.set_cons_succ] at hM5
  refine wpAny_done (by kernel_rfl) ?_ _
  (first | (refine bodyPost_ret (v := ptV a b 1 v1) (results_arr Try.results35 rfl (hM5.load 0 rfl rowPt)) rfl ⟨?_, hM5.below⟩) | (go_step; (first | (refine bodyPost_ret (v := ptV a b 1 v1) (results_arr Try.results35 rfl (hM5.load 0 rfl rowPt)) rfl ⟨?_, hM5.below⟩) | (go_step; (first | (refine bodyPost_ret (v := ptV a b 1 v1) (results_arr Try.results35 rfl (hM5.load 0 rfl rowPt)) rfl ⟨?_, hM5.below⟩) | (go_step; (first | (refine bodyPost_ret (v := ptV a b 1 v1) (results_arr Try.results35 rfl (hM5.load 0 rfl rowPt)) rfl ⟨?_, hM5.below⟩) | (go_step; (first | (refine bodyPost_ret (v := ptV a b 1 v1) (results_arr Try.results35 rfl (hM5.load 0 rfl rowPt)) rfl ⟨?_, hM5.below⟩) | (go_step; (first | (refine bodyPost_ret (v := ptV a b 1 v1) (results_arr Try.results35 rfl (hM5.load 0 rfl rowPt)) rfl ⟨?_, hM5.below⟩) | (go_step; (first | (refine bodyPost_ret (v := ptV a b 1 v1) (results_arr Try.results35 rfl (hM5.load 0 rfl rowPt)) rfl ⟨?_, hM5.below⟩) | (go_step; (refine bodyPost_ret (v := ptV a b 1 v1) (results_arr Try.results35 rfl (hM5.load 0 rfl rowPt)) rfl ⟨?_, hM5.below⟩)))))))))))))))
  exact by rw [ev1]
end Go.Proofs.Ythdbadomppohbaa
