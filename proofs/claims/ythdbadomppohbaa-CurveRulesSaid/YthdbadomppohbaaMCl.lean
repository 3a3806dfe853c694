/- The laws' Low and lives (layer 20): their contracts. The laws of the curve (layer 20): they return true. -/
import Derived.Test.YthdbadomppohbaaMCv
namespace Go.Proofs.Ythdbadomppohbaa
set_option maxRecDepth 20000
set_option linter.unusedSimpArgs false
set_option linter.unusedVariables false
open Go.RowKit Go.Sort
def mN : Nat := 57896044618658097711785492504343953926634992332820282019728792003956564819948
def iR : Nat := 19681161376707505956807079304988542015446066515923890162744021073123829784752
def jR : Nat := 38214883241950591754978413199355411911188925816896391856984770930832735035197
theorem mN_lt : mN < PN := by decide +kernel
theorem iR_lt : iR < PN := by decide +kernel
theorem jR_lt : jR < PN := by decide +kernel
theorem rsub01 (w : World) : Calls Try.prog 38 #[numV 0, numV 1] w fun e w' => e = .returned (numV mN) ∧ Below w.heap.size w w' := by
  have h := rsub' 0 1 w (by decide +kernel) one_below
  rw [show (0 + PN - 1) % PN = mN by decide +kernel] at h
  exact h
theorem rsub0i (w : World) : Calls Try.prog 38 #[numV 0, numV iR] w fun e w' => e = .returned (numV jR) ∧ Below w.heap.size w w' := by
  have h := rsub' 0 iR w (by decide +kernel) iR_lt
  rw [show (0 + PN - iR) % PN = jR by decide +kernel] at h
  exact h
theorem rroot_m (w : World) : Calls Try.prog 49 #[numV mN] w fun e w' => e = .returned (.tuple #[numV iR, .bool true]) ∧ Below w.heap.size w w' := by
  have h := rroot' mN w mN_lt
  obtain ⟨e1, e2⟩ := rootC_is iV mN 1 (r0N_pm mN _ (by decide +kernel))
  rw [e1, e2, show rootC iV mN 1 = (iR, true) by decide +kernel] at h
  exact h
def lowX (j : Nat) : Nat := if j = 2 then iR else if j = 3 then jR else 0
def lowY (j : Nat) : Nat := if j = 1 then mN else if j = 2 then 0 else if j = 3 then 0 else 1
def lowE (j : Nat) : Pt := (fz (lowX j), fz (lowY j))
theorem on_of (x y : Nat) (h : isB x y = true) : On (fz x, fz y) := (isB_on x y).1 h
theorem fzv {x : Nat} (h : x < PN) : x = (fz x).val := (Nat.mod_eq_of_lt h).symm
theorem ok3_at (x y : Nat) (hx : x < PN) (hy : y < PN) (h : On (fz x, fz y)) : Ok3 (x, y, 1) (fz x, fz y) :=
  ⟨⟨hx, hy, one_below⟩, h, base_rep.1, by show fz x * fz 1 = fz x; rw [fz_one, Lean.Grind.Semiring.mul_one], by show fz y * fz 1 = fz y; rw [fz_one, Lean.Grind.Semiring.mul_one]⟩
theorem on_low0 : On (fz 0, fz 1) := on_of _ _ (by decide +kernel)
theorem on_low1 : On (fz 0, fz mN) := on_of _ _ (by decide +kernel)
theorem on_low2 : On (fz iR, fz 0) := on_of _ _ (by decide +kernel)
theorem on_low3 : On (fz jR, fz 0) := on_of _ _ (by decide +kernel)
theorem zero_below : 0 < PN := PN_pos
theorem bin_rem8 (k j : Nat) (h : k % 4 = j) (x y : Operand) (W : World) : (do eqGuard .rem 5 x y (.int .u8 (k : Int)) (.int .u8 4); binOp .rem 5 (.int .u8 (k : Int)) (.int .u8 4) : Sem Value).run Try.prog W = .ok (.int .u8 (j : Int)) W := by
  have e : ((k : Int).tmod 4) = (j : Int) := by rw [Int.tmod_eq_emod_of_nonneg (by omega)]; omega
  have e2 : IntKind.u8.wrap (j : Int) = (j : Int) := IntWalk.u8_in _ (by omega)
  have e3 : (k : Int) % 4 = (j : Int) := by omega
  go_simp
set_option maxRecDepth 20000 in
set_option maxHeartbeats 8000000 in
theorem low0 (k : Nat) (hk4 : k % 4 = 0) (w : World) : Calls Try.prog 22 #[.int .u8 (k : Int)] w fun E w' => E = .returned (.tuple #[pv4 (at4 (fz 0, fz 1)), pv3 (0, 1, 1)]) ∧ Below w.heap.size w w' := by
  have HMIX := Lib.hid (show Try.prog.follows .mixedOrders = true by kernel_rfl)
  go_enter Try.func22, Try.ntmps22
  have hM0 := Mem.start w
  (first | (refine wp_region_lit ?_) | (go_step; (first | (refine wp_region_lit ?_) | (go_step; (first | (refine wp_region_lit ?_) | (go_step; (first | (refine wp_region_lit ?_) | (go_step; (first | (refine wp_region_lit ?_) | (go_step; (first | (refine wp_region_lit ?_) | (go_step; (first | (refine wp_region_lit ?_) | (go_step; (refine wp_region_lit ?_)))))))))))))))
  refine wl_new hM0 (f := fun b => .pointer (some ⟨b, 0, none⟩)) (ob := .cells z16 31 (0, 0)) (fun W => run_alloc_of rfl (al_Pt W)) rfl fun b1 W1 hM1 => ?_
  simp only [Act.put, List.setIfInBounds_toArray, List.set_cons_zero, List.set_cons_succ]
  refine wl_new hM1 (f := fun b => .pointer (some ⟨b, 0, none⟩)) (ob := .cells z12 41 (0, 0)) (fun W => run_alloc_of rfl (al_Rp W)) rfl fun b2 W2 hM2 => ?_
  simp only [Act.put, List.setIfInBounds_toArray, List.set_cons_zero, List.set_cons_succ]
  refine wpList_nil ?_
  (first | (refine wp_region_lit ?_) | (go_step; (first | (refine wp_region_lit ?_) | (go_step; (first | (refine wp_region_lit ?_) | (go_step; (first | (refine wp_region_lit ?_) | (go_step; (first | (refine wp_region_lit ?_) | (go_step; (first | (refine wp_region_lit ?_) | (go_step; (first | (refine wp_region_lit ?_) | (go_step; (refine wp_region_lit ?_)))))))))))))))
  refine wl_call hM2 (args := #[.int .u64 0]) (v := numV 0) (fun W => run_call_fn W (enters_of Try.func40 rfl rfl) rfl (by simp [Act.eval])) (rsmall' 0 (by decide) W2) rfl fun W3 hM3 => ?_
  simp only [Act.put, List.setIfInBounds_toArray, List.set_cons_zero, List.set_cons_succ]
  refine wl_call hM3 (args := #[.int .u64 1]) (v := numV 1) (fun W => run_call_fn W (enters_of Try.func40 rfl rfl) rfl (by simp [Act.eval])) (rsmall' 1 (by decide) W3) rfl fun W4 hM4 => ?_
  simp only [Act.put, List.setIfInBounds_toArray, List.set_cons_zero, List.set_cons_succ]
  refine wl_new hM4 (f := fun b => .pointer (some ⟨b, 0, none⟩)) (ob := .cells z4 23 (0, 0)) (fun W => run_alloc_of rfl (al_Nu W)) rfl fun b3 W5 hM5 => ?_
  simp only [Act.put, List.setIfInBounds_toArray, List.set_cons_zero, List.set_cons_succ]
  refine wl_new hM5 (f := fun b => .pointer (some ⟨b, 0, none⟩)) (ob := .cells z4 23 (0, 0)) (fun W => run_alloc_of rfl (al_Nu W)) rfl fun b4 W6 hM6 => ?_
  simp only [Act.put, List.setIfInBounds_toArray, List.set_cons_zero, List.set_cons_succ]
  refine wl_set hM6 1 (cs := (elR 0)) rfl rfl rfl rfl rowNu rfl (one_el 0) rfl rfl fun W7 hM7 => ?_
  simp only [List.set_cons_zero, List.set_cons_succ] at hM7
  refine wl_set hM7 0 (cs := (elR 1)) rfl rfl rfl rfl rowNu rfl (one_el 1) rfl rfl fun W8 hM8 => ?_
  simp only [List.set_cons_zero, List.set_cons_succ] at hM8
  refine wpList_nil ?_
  (first | (refine wp_region_lit ?_) | (go_step; (first | (refine wp_region_lit ?_) | (go_step; (first | (refine wp_region_lit ?_) | (go_step; (first | (refine wp_region_lit ?_) | (go_step; (first | (refine wp_region_lit ?_) | (go_step; (first | (refine wp_region_lit ?_) | (go_step; (first | (refine wp_region_lit ?_) | (go_step; (refine wp_region_lit ?_)))))))))))))))
  refine wl_row hM8 1 (v := numV 0) rfl rfl rfl rfl rowNu rfl ?_
  simp only [Act.put, List.setIfInBounds_toArray, List.set_cons_zero, List.set_cons_succ]
  refine wl_row hM8 0 (v := numV 1) rfl rfl rfl rfl rowNu rfl ?_
  simp only [Act.put, List.setIfInBounds_toArray, List.set_cons_zero, List.set_cons_succ]
  refine wl_call hM8 (args := #[numV 0, numV 1]) (v := numV mN) (fun W => run_call_fn W (enters_of Try.func38 rfl rfl) rfl (by simp [Act.eval])) (rsub01 W8) rfl fun W9 hM9 => ?_
  simp only [Act.put, List.setIfInBounds_toArray, List.set_cons_zero, List.set_cons_succ]
  refine wl_new hM9 (f := fun b => .pointer (some ⟨b, 0, none⟩)) (ob := .cells z4 23 (0, 0)) (fun W => run_alloc_of rfl (al_Nu W)) rfl fun b5 W10 hM10 => ?_
  simp only [Act.put, List.setIfInBounds_toArray, List.set_cons_zero, List.set_cons_succ]
  refine wl_set hM10 0 (cs := (elR mN)) rfl rfl rfl rfl rowNu rfl (one_el mN) rfl rfl fun W11 hM11 => ?_
  simp only [List.set_cons_zero, List.set_cons_succ] at hM11
  refine wpList_nil ?_
  (first | (refine wp_region_lit ?_) | (go_step; (first | (refine wp_region_lit ?_) | (go_step; (first | (refine wp_region_lit ?_) | (go_step; (first | (refine wp_region_lit ?_) | (go_step; (first | (refine wp_region_lit ?_) | (go_step; (first | (refine wp_region_lit ?_) | (go_step; (first | (refine wp_region_lit ?_) | (go_step; (refine wp_region_lit ?_)))))))))))))))
  refine wl_row hM11 0 (v := numV mN) rfl rfl rfl rfl rowNu rfl ?_
  simp only [Act.put, List.setIfInBounds_toArray, List.set_cons_zero, List.set_cons_succ]
  refine wl_call hM11 (args := #[numV mN]) (v := .tuple #[numV iR, .bool true]) (fun W => run_call_fn W (enters_of Try.func49 rfl rfl) rfl (by simp [Act.eval])) (rroot_m W11) rfl fun W12 hM12 => ?_
  simp only [Act.put, List.setIfInBounds_toArray, List.set_cons_zero, List.set_cons_succ]
  refine wl_pure (v := .tuple #[numV iR, .bool true]) (fun _ => rfl) rfl ?_
  simp only [Act.put, List.setIfInBounds_toArray, List.set_cons_zero, List.set_cons_succ]
  refine wl_pure (v := numV iR) (fun _ => rfl) rfl ?_
  simp only [Act.put, List.setIfInBounds_toArray, List.set_cons_zero, List.set_cons_succ]
  refine wl_pure (v := .bool true) (fun _ => rfl) rfl ?_
  simp only [Act.put, List.setIfInBounds_toArray, List.set_cons_zero, List.set_cons_succ]
  refine wl_new hM12 (f := fun b => .pointer (some ⟨b, 0, none⟩)) (ob := .cells z4 23 (0, 0)) (fun W => run_alloc_of rfl (al_Nu W)) rfl fun b6 W13 hM13 => ?_
  simp only [Act.put, List.setIfInBounds_toArray, List.set_cons_zero, List.set_cons_succ]
  refine wl_set hM13 0 (cs := (elR iR)) rfl rfl rfl rfl rowNu rfl (one_el iR) rfl rfl fun W14 hM14 => ?_
  simp only [List.set_cons_zero, List.set_cons_succ] at hM14
  refine wl_pure (v := .bool true) (fun _ => rfl) rfl ?_
  simp only [Act.put, List.setIfInBounds_toArray, List.set_cons_zero, List.set_cons_succ]
  refine wpList_nil ?_
  (first | (refine wp_region_lit ?_) | (go_step; (first | (refine wp_region_lit ?_) | (go_step; (first | (refine wp_region_lit ?_) | (go_step; (first | (refine wp_region_lit ?_) | (go_step; (first | (refine wp_region_lit ?_) | (go_step; (first | (refine wp_region_lit ?_) | (go_step; (first | (refine wp_region_lit ?_) | (go_step; (refine wp_region_lit ?_)))))))))))))))
  refine wl_call hM14 (args := #[]) (v := pv3 ((0, 1, 1))) (fun W => run_call_fn W (enters_of Try.func17 rfl rfl) rfl (by simp [Act.eval])) (rzero_any W14) rfl fun W15 hM15 => ?_
  simp only [Act.put, List.setIfInBounds_toArray, List.set_cons_zero, List.set_cons_succ]
  refine wl_new hM15 (f := fun b => .pointer (some ⟨b, 0, none⟩)) (ob := .cells z12 41 (0, 0)) (fun W => run_alloc_of rfl (al_Rp W)) rfl fun b7 W16 hM16 => ?_
  simp only [Act.put, List.setIfInBounds_toArray, List.set_cons_zero, List.set_cons_succ]
  refine wl_set hM16 0 (cs := ((rpL 0 1 1).toArray)) rfl rfl rfl rfl rowRp rfl (one_rp _ _ _) rfl rfl fun W17 hM17 => ?_
  simp only [List.set_cons_zero, List.set_cons_succ] at hM17
  refine wpList_nil ?_
  (first | (refine wp_region_lit ?_) | (go_step; (first | (refine wp_region_lit ?_) | (go_step; (first | (refine wp_region_lit ?_) | (go_step; (first | (refine wp_region_lit ?_) | (go_step; (first | (refine wp_region_lit ?_) | (go_step; (first | (refine wp_region_lit ?_) | (go_step; (first | (refine wp_region_lit ?_) | (go_step; (refine wp_region_lit ?_)))))))))))))))
  refine wl_pure (v := .int .u8 (k : Int)) (fun _ => rfl) rfl ?_
  simp only [Act.put, List.setIfInBounds_toArray, List.set_cons_zero, List.set_cons_succ]
  refine wl_pure (v := .int .u8 0) (fun W => run_bin_of rfl rfl rfl (bin_rem8 k 0 hk4 _ _ W)) rfl ?_
  simp only [Act.put, List.setIfInBounds_toArray, List.set_cons_zero, List.set_cons_succ]
  refine wpList_nil ?_
  (first | (refine wp_region_lit ?_) | (go_step; (first | (refine wp_region_lit ?_) | (go_step; (first | (refine wp_region_lit ?_) | (go_step; (first | (refine wp_region_lit ?_) | (go_step; (first | (refine wp_region_lit ?_) | (go_step; (first | (refine wp_region_lit ?_) | (go_step; (first | (refine wp_region_lit ?_) | (go_step; (refine wp_region_lit ?_)))))))))))))))
  refine wl_pure (v := .bool false) (fun W => run_eqint_of W rfl rfl rfl rfl) rfl ?_
  simp only [Act.put, List.setIfInBounds_toArray, List.set_cons_zero, List.set_cons_succ]
  refine wl_pure (v := .bool false) (fun _ => rfl) rfl ?_
  simp only [Act.put, List.setIfInBounds_toArray, List.set_cons_zero, List.set_cons_succ]
  refine wpList_nil ?_
  (first | (refine wp_region_lit ?_) | (go_step; (first | (refine wp_region_lit ?_) | (go_step; (first | (refine wp_region_lit ?_) | (go_step; (first | (refine wp_region_lit ?_) | (go_step; (first | (refine wp_region_lit ?_) | (go_step; (first | (refine wp_region_lit ?_) | (go_step; (first | (refine wp_region_lit ?_) | (go_step; (refine wp_region_lit ?_)))))))))))))))
  refine wl_pure (v := .bool false) (fun W => run_eqint_of W rfl rfl rfl rfl) rfl ?_
  simp only [Act.put, List.setIfInBounds_toArray, List.set_cons_zero, List.set_cons_succ]
  refine wl_pure (v := .bool false) (fun _ => rfl) rfl ?_
  simp only [Act.put, List.setIfInBounds_toArray, List.set_cons_zero, List.set_cons_succ]
  refine wpList_nil ?_
  (first | (refine wp_region_lit ?_) | (go_step; (first | (refine wp_region_lit ?_) | (go_step; (first | (refine wp_region_lit ?_) | (go_step; (first | (refine wp_region_lit ?_) | (go_step; (first | (refine wp_region_lit ?_) | (go_step; (first | (refine wp_region_lit ?_) | (go_step; (first | (refine wp_region_lit ?_) | (go_step; (refine wp_region_lit ?_)))))))))))))))
  refine wl_pure (v := .bool false) (fun W => run_eqint_of W rfl rfl rfl rfl) rfl ?_
  simp only [Act.put, List.setIfInBounds_toArray, List.set_cons_zero, List.set_cons_succ]
  refine wl_pure (v := .bool false) (fun _ => rfl) rfl ?_
  simp only [Act.put, List.setIfInBounds_toArray, List.set_cons_zero, List.set_cons_succ]
  refine wpList_nil ?_
  (first | (refine wp_region_inz 11 9 rfl rfl (steady_extract rfl) (by kernel_rfl) (by decide) HMIX.out (by decide) (by kernel_rfl) (by kernel_rfl) ?_) | (go_step; (first | (refine wp_region_inz 11 9 rfl rfl (steady_extract rfl) (by kernel_rfl) (by decide) HMIX.out (by decide) (by kernel_rfl) (by kernel_rfl) ?_) | (go_step; (first | (refine wp_region_inz 11 9 rfl rfl (steady_extract rfl) (by kernel_rfl) (by decide) HMIX.out (by decide) (by kernel_rfl) (by kernel_rfl) ?_) | (go_step; (first | (refine wp_region_inz 11 9 rfl rfl (steady_extract rfl) (by kernel_rfl) (by decide) HMIX.out (by decide) (by kernel_rfl) (by kernel_rfl) ?_) | (go_step; (first | (refine wp_region_inz 11 9 rfl rfl (steady_extract rfl) (by kernel_rfl) (by decide) HMIX.out (by decide) (by kernel_rfl) (by kernel_rfl) ?_) | (go_step; (first | (refine wp_region_inz 11 9 rfl rfl (steady_extract rfl) (by kernel_rfl) (by decide) HMIX.out (by decide) (by kernel_rfl) (by kernel_rfl) ?_) | (go_step; (first | (refine wp_region_inz 11 9 rfl rfl (steady_extract rfl) (by kernel_rfl) (by decide) HMIX.out (by decide) (by kernel_rfl) (by kernel_rfl) ?_) | (go_step; (refine wp_region_inz 11 9 rfl rfl (steady_extract rfl) (by kernel_rfl) (by decide) HMIX.out (by decide) (by kernel_rfl) (by kernel_rfl) ?_)))))))))))))))
  refine inw_pure (v := .pointer (some ⟨b7, 0, none⟩)) (fun W => run_field_of rfl rfl (fa_R0 b7 W)) rfl rfl ?_; simp only [Act.put, List.setIfInBounds_toArray, List.set_cons_zero, List.set_cons_succ]
  refine inw_part hM17 0 (v := numV 0) (sub := elR 0) rfl rfl rfl rfl rfl rowNu rfl rfl ?_; simp only [Act.put, List.setIfInBounds_toArray, List.set_cons_zero, List.set_cons_succ]
  refine inw_callV (args := #[numV 0]) (v := numV 0) (fun W => run_call_fn W (enters_of Try.func8 rfl rfl) rfl (by simp [Act.eval])) (fun W _ => el'2 0 zero_below W) rfl rfl ?_; simp only [Act.put, List.setIfInBounds_toArray, List.set_cons_zero, List.set_cons_succ]
  refine inw_pure (v := .pointer (some ⟨b7, 4, none⟩)) (fun W => run_field_of rfl rfl (fa_R1 b7 W)) rfl rfl ?_; simp only [Act.put, List.setIfInBounds_toArray, List.set_cons_zero, List.set_cons_succ]
  refine inw_part hM17 0 (v := numV 1) (sub := elR 1) rfl rfl rfl rfl rfl rowNu rfl rfl ?_; simp only [Act.put, List.setIfInBounds_toArray, List.set_cons_zero, List.set_cons_succ]
  refine inw_callV (args := #[numV 1]) (v := numV 1) (fun W => run_call_fn W (enters_of Try.func8 rfl rfl) rfl (by simp [Act.eval])) (fun W _ => el'2 1 one_below W) rfl rfl ?_; simp only [Act.put, List.setIfInBounds_toArray, List.set_cons_zero, List.set_cons_succ]
  refine inw_callV (args := #[numV 0, numV 1]) (v := .tuple #[pv4 (at4 (((fz 0, fz 1) : Pt))), .int .i64 0]) (fun W => run_call_fn W (enters_of Try.func7 rfl rfl) rfl (by simp [Act.eval])) (fun W _ => make_pt ((fz 0, fz 1) : Pt) on_low0 0 1 (fzv zero_below) (fzv one_below) W) rfl rfl ?_; simp only [Act.put, List.setIfInBounds_toArray, List.set_cons_zero, List.set_cons_succ]
  refine inw_pure (v := .tuple #[pv4 (at4 (((fz 0, fz 1) : Pt))), .int .i64 0]) (fun _ => rfl) rfl rfl ?_; simp only [Act.put, List.setIfInBounds_toArray, List.set_cons_zero, List.set_cons_succ]
  refine inw_pure (v := pv4 (at4 (((fz 0, fz 1) : Pt)))) (fun _ => rfl) rfl rfl ?_; simp only [Act.put, List.setIfInBounds_toArray, List.set_cons_zero, List.set_cons_succ]
  refine inw_pure (v := .int .i64 0) (fun _ => rfl) rfl rfl ?_; simp only [Act.put, List.setIfInBounds_toArray, List.set_cons_zero, List.set_cons_succ]
  refine inw_new (.cells z16 31 (0, 0)) rfl rfl (fun A W => run_alloc_of rfl (al_Pt W)) ?_; simp only [List.nil_append, List.cons_append]
  refine inw_fin fun d os => ?_
  refine given_new (t := 10) rfl fun b8 lb8 gb8 => ?_
  refine given_nil fun hap => ?_
  simp only [Act.put, List.setIfInBounds_toArray, List.set_cons_zero, List.set_cons_succ] at hap ⊢
  have hM18 := hM17.news1 (below_regrown W17 d os) lb8 gb8 
  clear hap lb8 gb8
  generalize grow (redrawn W17 d) os = W18 at hM18 ⊢
  change wpAny _ _ _ _ 2 _ _ _
  refine any_set (n := 11) (by kernel_rfl) rfl hM18 0 (cs := ((pc4 (at4 (((fz 0, fz 1) : Pt)))))) rfl rfl rfl rfl rowPt rfl (one_p4 _) rfl rfl fun W19 hM19 => ?_
  simp only [List.set_cons_zero, List.set_cons_succ] at hM19
  refine any_pure (n := 12) (v := .int .i64 0) (by kernel_rfl) rfl (fun _ => rfl) rfl rfl ?_
  simp only [Act.put, List.setIfInBounds_toArray, List.set_cons_zero, List.set_cons_succ]
  refine wpAny_done (by kernel_rfl) ?_ _
  refine NoPanic.normal ?_
  have hMd := hM19.drew
  (first | (refine wp_region_noPanic (wp_region_held_drew HMIX.out (S := fun w1 => w1.heap[b8]? = some (.cells ((pc4 (at4 (((fz 0, fz 1) : Pt))))) 31 (0, 0)) ∧ w1.heap[b7]? = some (.cells ((rpL 0 1 1).toArray) 41 (0, 0))) (⟨hMd.get 0 rfl, hMd.get 1 rfl⟩) fun hS => ?_)) | (go_step; (first | (refine wp_region_noPanic (wp_region_held_drew HMIX.out (S := fun w1 => w1.heap[b8]? = some (.cells ((pc4 (at4 (((fz 0, fz 1) : Pt))))) 31 (0, 0)) ∧ w1.heap[b7]? = some (.cells ((rpL 0 1 1).toArray) 41 (0, 0))) (⟨hMd.get 0 rfl, hMd.get 1 rfl⟩) fun hS => ?_)) | (go_step; (first | (refine wp_region_noPanic (wp_region_held_drew HMIX.out (S := fun w1 => w1.heap[b8]? = some (.cells ((pc4 (at4 (((fz 0, fz 1) : Pt))))) 31 (0, 0)) ∧ w1.heap[b7]? = some (.cells ((rpL 0 1 1).toArray) 41 (0, 0))) (⟨hMd.get 0 rfl, hMd.get 1 rfl⟩) fun hS => ?_)) | (go_step; (first | (refine wp_region_noPanic (wp_region_held_drew HMIX.out (S := fun w1 => w1.heap[b8]? = some (.cells ((pc4 (at4 (((fz 0, fz 1) : Pt))))) 31 (0, 0)) ∧ w1.heap[b7]? = some (.cells ((rpL 0 1 1).toArray) 41 (0, 0))) (⟨hMd.get 0 rfl, hMd.get 1 rfl⟩) fun hS => ?_)) | (go_step; (first | (refine wp_region_noPanic (wp_region_held_drew HMIX.out (S := fun w1 => w1.heap[b8]? = some (.cells ((pc4 (at4 (((fz 0, fz 1) : Pt))))) 31 (0, 0)) ∧ w1.heap[b7]? = some (.cells ((rpL 0 1 1).toArray) 41 (0, 0))) (⟨hMd.get 0 rfl, hMd.get 1 rfl⟩) fun hS => ?_)) | (go_step; (first | (refine wp_region_noPanic (wp_region_held_drew HMIX.out (S := fun w1 => w1.heap[b8]? = some (.cells ((pc4 (at4 (((fz 0, fz 1) : Pt))))) 31 (0, 0)) ∧ w1.heap[b7]? = some (.cells ((rpL 0 1 1).toArray) 41 (0, 0))) (⟨hMd.get 0 rfl, hMd.get 1 rfl⟩) fun hS => ?_)) | (go_step; (first | (refine wp_region_noPanic (wp_region_held_drew HMIX.out (S := fun w1 => w1.heap[b8]? = some (.cells ((pc4 (at4 (((fz 0, fz 1) : Pt))))) 31 (0, 0)) ∧ w1.heap[b7]? = some (.cells ((rpL 0 1 1).toArray) 41 (0, 0))) (⟨hMd.get 0 rfl, hMd.get 1 rfl⟩) fun hS => ?_)) | (go_step; (refine wp_region_noPanic (wp_region_held_drew HMIX.out (S := fun w1 => w1.heap[b8]? = some (.cells ((pc4 (at4 (((fz 0, fz 1) : Pt))))) 31 (0, 0)) ∧ w1.heap[b7]? = some (.cells ((rpL 0 1 1).toArray) 41 (0, 0))) (⟨hMd.get 0 rfl, hMd.get 1 rfl⟩) fun hS => ?_))))))))))))))))
  change wpAnyH _ _ _ _ _ 4 _ _ _
  generalize W19.drew = W20 at hMd hS ⊢
  have hM20 := hMd
  clear hMd
  refine hd_row 0 52 #[true, false, false, false] (by kernel_rfl) (v := pv4 (at4 (((fz 0, fz 1) : Pt)))) (cs := ((pc4 (at4 (((fz 0, fz 1) : Pt)))))) (b := b8) rfl rfl rfl rfl (fun W hW => hW.1) rfl rowPt (by kernel_rfl) (by kernel_rfl) (by kernel_rfl) rfl hS ?_
  simp only [Act.put, List.setIfInBounds_toArray, List.set_cons_zero, List.set_cons_succ]
  refine hd_row 1 53 #[true, true, false, false] (by kernel_rfl) (v := pv3 ((0, 1, 1))) (cs := ((rpL 0 1 1).toArray)) (b := b7) rfl rfl rfl rfl (fun W hW => hW.2) rfl rowRp (by kernel_rfl) (by kernel_rfl) (by kernel_rfl) rfl hS ?_
  simp only [Act.put, List.setIfInBounds_toArray, List.set_cons_zero, List.set_cons_succ]
  refine hd_set (n := 2) #[true, true, true, false] (by kernel_rfl) (by kernel_rfl) rfl hM20 7 (cs := ((pc4 (at4 (((fz 0, fz 1) : Pt)))))) rfl rfl rfl rfl rowPt rfl (one_p4 _) rfl rfl (fun W hW => ⟨hW.get 0 rfl, hW.get 1 rfl⟩) fun W21 hM21 => ?_
  simp only [List.set_cons_zero, List.set_cons_succ] at hM21
  refine hd_set (n := 3) #[true, true, true, true] (by kernel_rfl) (by kernel_rfl) rfl hM21 6 (cs := ((rpL 0 1 1).toArray)) rfl rfl rfl rfl rowRp rfl (one_rp _ _ _) rfl rfl (fun W hW => ⟨hW.get 0 rfl, hW.get 1 rfl⟩) fun W22 hM22 => ?_
  simp only [List.set_cons_zero, List.set_cons_succ] at hM22
  refine wpAnyH_done (by kernel_rfl) ?_ _
  refine NoPanic.normal ?_
  (first | (refine bodyPost_ret (v := .tuple #[pv4 (at4 (((fz 0, fz 1) : Pt))), pv3 ((0, 1, 1))]) (results_arr2 Try.results22 rfl rfl (hM22.load 7 rfl rowPt) (hM22.load 6 rfl rowRp)) rfl ⟨?_, hM22.below⟩) | (go_step; (first | (refine bodyPost_ret (v := .tuple #[pv4 (at4 (((fz 0, fz 1) : Pt))), pv3 ((0, 1, 1))]) (results_arr2 Try.results22 rfl rfl (hM22.load 7 rfl rowPt) (hM22.load 6 rfl rowRp)) rfl ⟨?_, hM22.below⟩) | (go_step; (first | (refine bodyPost_ret (v := .tuple #[pv4 (at4 (((fz 0, fz 1) : Pt))), pv3 ((0, 1, 1))]) (results_arr2 Try.results22 rfl rfl (hM22.load 7 rfl rowPt) (hM22.load 6 rfl rowRp)) rfl ⟨?_, hM22.below⟩) | (go_step; (first | (refine bodyPost_ret (v := .tuple #[pv4 (at4 (((fz 0, fz 1) : Pt))), pv3 ((0, 1, 1))]) (results_arr2 Try.results22 rfl rfl (hM22.load 7 rfl rowPt) (hM22.load 6 rfl rowRp)) rfl ⟨?_, hM22.below⟩) | (go_step; (first | (refine bodyPost_ret (v := .tuple #[pv4 (at4 (((fz 0, fz 1) : Pt))), pv3 ((0, 1, 1))]) (results_arr2 Try.results22 rfl rfl (hM22.load 7 rfl rowPt) (hM22.load 6 rfl rowRp)) rfl ⟨?_, hM22.below⟩) | (go_step; (first | (refine bodyPost_ret (v := .tuple #[pv4 (at4 (((fz 0, fz 1) : Pt))), pv3 ((0, 1, 1))]) (results_arr2 Try.results22 rfl rfl (hM22.load 7 rfl rowPt) (hM22.load 6 rfl rowRp)) rfl ⟨?_, hM22.below⟩) | (go_step; (first | (refine bodyPost_ret (v := .tuple #[pv4 (at4 (((fz 0, fz 1) : Pt))), pv3 ((0, 1, 1))]) (results_arr2 Try.results22 rfl rfl (hM22.load 7 rfl rowPt) (hM22.load 6 rfl rowRp)) rfl ⟨?_, hM22.below⟩) | (go_step; (refine bodyPost_ret (v := .tuple #[pv4 (at4 (((fz 0, fz 1) : Pt))), pv3 ((0, 1, 1))]) (results_arr2 Try.results22 rfl rfl (hM22.load 7 rfl rowPt) (hM22.load 6 rfl rowRp)) rfl ⟨?_, hM22.below⟩)))))))))))))))
  exact rfl
set_option maxRecDepth 20000 in
set_option maxHeartbeats 8000000 in
theorem low1 (k : Nat) (hk4 : k % 4 = 1) (w : World) : Calls Try.prog 22 #[.int .u8 (k : Int)] w fun E w' => E = .returned (.tuple #[pv4 (at4 (fz 0, fz mN)), pv3 (0, mN, 1)]) ∧ Below w.heap.size w w' := by
  have HMIX := Lib.hid (show Try.prog.follows .mixedOrders = true by kernel_rfl)
  go_enter Try.func22, Try.ntmps22
  have hM0 := Mem.start w
  (first | (refine wp_region_lit ?_) | (go_step; (first | (refine wp_region_lit ?_) | (go_step; (first | (refine wp_region_lit ?_) | (go_step; (first | (refine wp_region_lit ?_) | (go_step; (first | (refine wp_region_lit ?_) | (go_step; (first | (refine wp_region_lit ?_) | (go_step; (first | (refine wp_region_lit ?_) | (go_step; (refine wp_region_lit ?_)))))))))))))))
  refine wl_new hM0 (f := fun b => .pointer (some ⟨b, 0, none⟩)) (ob := .cells z16 31 (0, 0)) (fun W => run_alloc_of rfl (al_Pt W)) rfl fun b1 W1 hM1 => ?_
  simp only [Act.put, List.setIfInBounds_toArray, List.set_cons_zero, List.set_cons_succ]
  refine wl_new hM1 (f := fun b => .pointer (some ⟨b, 0, none⟩)) (ob := .cells z12 41 (0, 0)) (fun W => run_alloc_of rfl (al_Rp W)) rfl fun b2 W2 hM2 => ?_
  simp only [Act.put, List.setIfInBounds_toArray, List.set_cons_zero, List.set_cons_succ]
  refine wpList_nil ?_
  (first | (refine wp_region_lit ?_) | (go_step; (first | (refine wp_region_lit ?_) | (go_step; (first | (refine wp_region_lit ?_) | (go_step; (first | (refine wp_region_lit ?_) | (go_step; (first | (refine wp_region_lit ?_) | (go_step; (first | (refine wp_region_lit ?_) | (go_step; (first | (refine wp_region_lit ?_) | (go_step; (refine wp_region_lit ?_)))))))))))))))
  refine wl_call hM2 (args := #[.int .u64 0]) (v := numV 0) (fun W => run_call_fn W (enters_of Try.func40 rfl rfl) rfl (by simp [Act.eval])) (rsmall' 0 (by decide) W2) rfl fun W3 hM3 => ?_
  simp only [Act.put, List.setIfInBounds_toArray, List.set_cons_zero, List.set_cons_succ]
  refine wl_call hM3 (args := #[.int .u64 1]) (v := numV 1) (fun W => run_call_fn W (enters_of Try.func40 rfl rfl) rfl (by simp [Act.eval])) (rsmall' 1 (by decide) W3) rfl fun W4 hM4 => ?_
  simp only [Act.put, List.setIfInBounds_toArray, List.set_cons_zero, List.set_cons_succ]
  refine wl_new hM4 (f := fun b => .pointer (some ⟨b, 0, none⟩)) (ob := .cells z4 23 (0, 0)) (fun W => run_alloc_of rfl (al_Nu W)) rfl fun b3 W5 hM5 => ?_
  simp only [Act.put, List.setIfInBounds_toArray, List.set_cons_zero, List.set_cons_succ]
  refine wl_new hM5 (f := fun b => .pointer (some ⟨b, 0, none⟩)) (ob := .cells z4 23 (0, 0)) (fun W => run_alloc_of rfl (al_Nu W)) rfl fun b4 W6 hM6 => ?_
  simp only [Act.put, List.setIfInBounds_toArray, List.set_cons_zero, List.set_cons_succ]
  refine wl_set hM6 1 (cs := (elR 0)) rfl rfl rfl rfl rowNu rfl (one_el 0) rfl rfl fun W7 hM7 => ?_
  simp only [List.set_cons_zero, List.set_cons_succ] at hM7
  refine wl_set hM7 0 (cs := (elR 1)) rfl rfl rfl rfl rowNu rfl (one_el 1) rfl rfl fun W8 hM8 => ?_
  simp only [List.set_cons_zero, List.set_cons_succ] at hM8
  refine wpList_nil ?_
  (first | (refine wp_region_lit ?_) | (go_step; (first | (refine wp_region_lit ?_) | (go_step; (first | (refine wp_region_lit ?_) | (go_step; (first | (refine wp_region_lit ?_) | (go_step; (first | (refine wp_region_lit ?_) | (go_step; (first | (refine wp_region_lit ?_) | (go_step; (first | (refine wp_region_lit ?_) | (go_step; (refine wp_region_lit ?_)))))))))))))))
  refine wl_row hM8 1 (v := numV 0) rfl rfl rfl rfl rowNu rfl ?_
  simp only [Act.put, List.setIfInBounds_toArray, List.set_cons_zero, List.set_cons_succ]
  refine wl_row hM8 0 (v := numV 1) rfl rfl rfl rfl rowNu rfl ?_
  simp only [Act.put, List.setIfInBounds_toArray, List.set_cons_zero, List.set_cons_succ]
  refine wl_call hM8 (args := #[numV 0, numV 1]) (v := numV mN) (fun W => run_call_fn W (enters_of Try.func38 rfl rfl) rfl (by simp [Act.eval])) (rsub01 W8) rfl fun W9 hM9 => ?_
  simp only [Act.put, List.setIfInBounds_toArray, List.set_cons_zero, List.set_cons_succ]
  refine wl_new hM9 (f := fun b => .pointer (some ⟨b, 0, none⟩)) (ob := .cells z4 23 (0, 0)) (fun W => run_alloc_of rfl (al_Nu W)) rfl fun b5 W10 hM10 => ?_
  simp only [Act.put, List.setIfInBounds_toArray, List.set_cons_zero, List.set_cons_succ]
  refine wl_set hM10 0 (cs := (elR mN)) rfl rfl rfl rfl rowNu rfl (one_el mN) rfl rfl fun W11 hM11 => ?_
  simp only [List.set_cons_zero, List.set_cons_succ] at hM11
  refine wpList_nil ?_
  (first | (refine wp_region_lit ?_) | (go_step; (first | (refine wp_region_lit ?_) | (go_step; (first | (refine wp_region_lit ?_) | (go_step; (first | (refine wp_region_lit ?_) | (go_step; (first | (refine wp_region_lit ?_) | (go_step; (first | (refine wp_region_lit ?_) | (go_step; (first | (refine wp_region_lit ?_) | (go_step; (refine wp_region_lit ?_)))))))))))))))
  refine wl_row hM11 0 (v := numV mN) rfl rfl rfl rfl rowNu rfl ?_
  simp only [Act.put, List.setIfInBounds_toArray, List.set_cons_zero, List.set_cons_succ]
  refine wl_call hM11 (args := #[numV mN]) (v := .tuple #[numV iR, .bool true]) (fun W => run_call_fn W (enters_of Try.func49 rfl rfl) rfl (by simp [Act.eval])) (rroot_m W11) rfl fun W12 hM12 => ?_
  simp only [Act.put, List.setIfInBounds_toArray, List.set_cons_zero, List.set_cons_succ]
  refine wl_pure (v := .tuple #[numV iR, .bool true]) (fun _ => rfl) rfl ?_
  simp only [Act.put, List.setIfInBounds_toArray, List.set_cons_zero, List.set_cons_succ]
  refine wl_pure (v := numV iR) (fun _ => rfl) rfl ?_
  simp only [Act.put, List.setIfInBounds_toArray, List.set_cons_zero, List.set_cons_succ]
  refine wl_pure (v := .bool true) (fun _ => rfl) rfl ?_
  simp only [Act.put, List.setIfInBounds_toArray, List.set_cons_zero, List.set_cons_succ]
  refine wl_new hM12 (f := fun b => .pointer (some ⟨b, 0, none⟩)) (ob := .cells z4 23 (0, 0)) (fun W => run_alloc_of rfl (al_Nu W)) rfl fun b6 W13 hM13 => ?_
  simp only [Act.put, List.setIfInBounds_toArray, List.set_cons_zero, List.set_cons_succ]
  refine wl_set hM13 0 (cs := (elR iR)) rfl rfl rfl rfl rowNu rfl (one_el iR) rfl rfl fun W14 hM14 => ?_
  simp only [List.set_cons_zero, List.set_cons_succ] at hM14
  refine wl_pure (v := .bool true) (fun _ => rfl) rfl ?_
  simp only [Act.put, List.setIfInBounds_toArray, List.set_cons_zero, List.set_cons_succ]
  refine wpList_nil ?_
  (first | (refine wp_region_lit ?_) | (go_step; (first | (refine wp_region_lit ?_) | (go_step; (first | (refine wp_region_lit ?_) | (go_step; (first | (refine wp_region_lit ?_) | (go_step; (first | (refine wp_region_lit ?_) | (go_step; (first | (refine wp_region_lit ?_) | (go_step; (first | (refine wp_region_lit ?_) | (go_step; (refine wp_region_lit ?_)))))))))))))))
  refine wl_call hM14 (args := #[]) (v := pv3 ((0, 1, 1))) (fun W => run_call_fn W (enters_of Try.func17 rfl rfl) rfl (by simp [Act.eval])) (rzero_any W14) rfl fun W15 hM15 => ?_
  simp only [Act.put, List.setIfInBounds_toArray, List.set_cons_zero, List.set_cons_succ]
  refine wl_new hM15 (f := fun b => .pointer (some ⟨b, 0, none⟩)) (ob := .cells z12 41 (0, 0)) (fun W => run_alloc_of rfl (al_Rp W)) rfl fun b7 W16 hM16 => ?_
  simp only [Act.put, List.setIfInBounds_toArray, List.set_cons_zero, List.set_cons_succ]
  refine wl_set hM16 0 (cs := ((rpL 0 1 1).toArray)) rfl rfl rfl rfl rowRp rfl (one_rp _ _ _) rfl rfl fun W17 hM17 => ?_
  simp only [List.set_cons_zero, List.set_cons_succ] at hM17
  refine wpList_nil ?_
  (first | (refine wp_region_lit ?_) | (go_step; (first | (refine wp_region_lit ?_) | (go_step; (first | (refine wp_region_lit ?_) | (go_step; (first | (refine wp_region_lit ?_) | (go_step; (first | (refine wp_region_lit ?_) | (go_step; (first | (refine wp_region_lit ?_) | (go_step; (first | (refine wp_region_lit ?_) | (go_step; (refine wp_region_lit ?_)))))))))))))))
  refine wl_pure (v := .int .u8 (k : Int)) (fun _ => rfl) rfl ?_
  simp only [Act.put, List.setIfInBounds_toArray, List.set_cons_zero, List.set_cons_succ]
  refine wl_pure (v := .int .u8 1) (fun W => run_bin_of rfl rfl rfl (bin_rem8 k 1 hk4 _ _ W)) rfl ?_
  simp only [Act.put, List.setIfInBounds_toArray, List.set_cons_zero, List.set_cons_succ]
  refine wpList_nil ?_
  (first | (refine wp_region_lit ?_) | (go_step; (first | (refine wp_region_lit ?_) | (go_step; (first | (refine wp_region_lit ?_) | (go_step; (first | (refine wp_region_lit ?_) | (go_step; (first | (refine wp_region_lit ?_) | (go_step; (first | (refine wp_region_lit ?_) | (go_step; (first | (refine wp_region_lit ?_) | (go_step; (refine wp_region_lit ?_)))))))))))))))
  refine wl_pure (v := .bool true) (fun W => run_eqint_of W rfl rfl rfl rfl) rfl ?_
  simp only [Act.put, List.setIfInBounds_toArray, List.set_cons_zero, List.set_cons_succ]
  refine wl_pure (v := .bool true) (fun _ => rfl) rfl ?_
  simp only [Act.put, List.setIfInBounds_toArray, List.set_cons_zero, List.set_cons_succ]
  refine wpList_nil ?_
  (first | (refine wp_region_lit ?_) | (go_step; (first | (refine wp_region_lit ?_) | (go_step; (first | (refine wp_region_lit ?_) | (go_step; (first | (refine wp_region_lit ?_) | (go_step; (first | (refine wp_region_lit ?_) | (go_step; (first | (refine wp_region_lit ?_) | (go_step; (first | (refine wp_region_lit ?_) | (go_step; (refine wp_region_lit ?_)))))))))))))))
  refine wl_row hM17 4 (v := numV 0) rfl rfl rfl rfl rowNu rfl ?_
  simp only [Act.put, List.setIfInBounds_toArray, List.set_cons_zero, List.set_cons_succ]
  refine wl_row hM17 2 (v := numV mN) rfl rfl rfl rfl rowNu rfl ?_
  simp only [Act.put, List.setIfInBounds_toArray, List.set_cons_zero, List.set_cons_succ]
  refine wl_call hM17 (args := #[numV 0, numV mN]) (v := pv3 ((0, mN, 1))) (fun W => run_call_fn W (enters_of Try.func13 rfl rfl) rfl (by simp [Act.eval])) (rmake_any 0 mN W17) rfl fun W18 hM18 => ?_
  simp only [Act.put, List.setIfInBounds_toArray, List.set_cons_zero, List.set_cons_succ]
  refine wl_set hM18 0 (cs := ((rpL 0 mN 1).toArray)) rfl rfl rfl rfl rowRp rfl (one_rp _ _ _) rfl rfl fun W19 hM19 => ?_
  simp only [List.set_cons_zero, List.set_cons_succ] at hM19
  refine wpList_nil ?_
  (first | (refine wp_region_inz 11 9 rfl rfl (steady_extract rfl) (by kernel_rfl) (by decide) HMIX.out (by decide) (by kernel_rfl) (by kernel_rfl) ?_) | (go_step; (first | (refine wp_region_inz 11 9 rfl rfl (steady_extract rfl) (by kernel_rfl) (by decide) HMIX.out (by decide) (by kernel_rfl) (by kernel_rfl) ?_) | (go_step; (first | (refine wp_region_inz 11 9 rfl rfl (steady_extract rfl) (by kernel_rfl) (by decide) HMIX.out (by decide) (by kernel_rfl) (by kernel_rfl) ?_) | (go_step; (first | (refine wp_region_inz 11 9 rfl rfl (steady_extract rfl) (by kernel_rfl) (by decide) HMIX.out (by decide) (by kernel_rfl) (by kernel_rfl) ?_) | (go_step; (first | (refine wp_region_inz 11 9 rfl rfl (steady_extract rfl) (by kernel_rfl) (by decide) HMIX.out (by decide) (by kernel_rfl) (by kernel_rfl) ?_) | (go_step; (first | (refine wp_region_inz 11 9 rfl rfl (steady_extract rfl) (by kernel_rfl) (by decide) HMIX.out (by decide) (by kernel_rfl) (by kernel_rfl) ?_) | (go_step; (first | (refine wp_region_inz 11 9 rfl rfl (steady_extract rfl) (by kernel_rfl) (by decide) HMIX.out (by decide) (by kernel_rfl) (by kernel_rfl) ?_) | (go_step; (refine wp_region_inz 11 9 rfl rfl (steady_extract rfl) (by kernel_rfl) (by decide) HMIX.out (by decide) (by kernel_rfl) (by kernel_rfl) ?_)))))))))))))))
  refine inw_pure (v := .pointer (some ⟨b7, 0, none⟩)) (fun W => run_field_of rfl rfl (fa_R0 b7 W)) rfl rfl ?_; simp only [Act.put, List.setIfInBounds_toArray, List.set_cons_zero, List.set_cons_succ]
  refine inw_part hM19 0 (v := numV 0) (sub := elR 0) rfl rfl rfl rfl rfl rowNu rfl rfl ?_; simp only [Act.put, List.setIfInBounds_toArray, List.set_cons_zero, List.set_cons_succ]
  refine inw_callV (args := #[numV 0]) (v := numV 0) (fun W => run_call_fn W (enters_of Try.func8 rfl rfl) rfl (by simp [Act.eval])) (fun W _ => el'2 0 zero_below W) rfl rfl ?_; simp only [Act.put, List.setIfInBounds_toArray, List.set_cons_zero, List.set_cons_succ]
  refine inw_pure (v := .pointer (some ⟨b7, 4, none⟩)) (fun W => run_field_of rfl rfl (fa_R1 b7 W)) rfl rfl ?_; simp only [Act.put, List.setIfInBounds_toArray, List.set_cons_zero, List.set_cons_succ]
  refine inw_part hM19 0 (v := numV mN) (sub := elR mN) rfl rfl rfl rfl rfl rowNu rfl rfl ?_; simp only [Act.put, List.setIfInBounds_toArray, List.set_cons_zero, List.set_cons_succ]
  refine inw_callV (args := #[numV mN]) (v := numV mN) (fun W => run_call_fn W (enters_of Try.func8 rfl rfl) rfl (by simp [Act.eval])) (fun W _ => el'2 mN mN_lt W) rfl rfl ?_; simp only [Act.put, List.setIfInBounds_toArray, List.set_cons_zero, List.set_cons_succ]
  refine inw_callV (args := #[numV 0, numV mN]) (v := .tuple #[pv4 (at4 (((fz 0, fz mN) : Pt))), .int .i64 0]) (fun W => run_call_fn W (enters_of Try.func7 rfl rfl) rfl (by simp [Act.eval])) (fun W _ => make_pt ((fz 0, fz mN) : Pt) on_low1 0 mN (fzv zero_below) (fzv mN_lt) W) rfl rfl ?_; simp only [Act.put, List.setIfInBounds_toArray, List.set_cons_zero, List.set_cons_succ]
  refine inw_pure (v := .tuple #[pv4 (at4 (((fz 0, fz mN) : Pt))), .int .i64 0]) (fun _ => rfl) rfl rfl ?_; simp only [Act.put, List.setIfInBounds_toArray, List.set_cons_zero, List.set_cons_succ]
  refine inw_pure (v := pv4 (at4 (((fz 0, fz mN) : Pt)))) (fun _ => rfl) rfl rfl ?_; simp only [Act.put, List.setIfInBounds_toArray, List.set_cons_zero, List.set_cons_succ]
  refine inw_pure (v := .int .i64 0) (fun _ => rfl) rfl rfl ?_; simp only [Act.put, List.setIfInBounds_toArray, List.set_cons_zero, List.set_cons_succ]
  refine inw_new (.cells z16 31 (0, 0)) rfl rfl (fun A W => run_alloc_of rfl (al_Pt W)) ?_; simp only [List.nil_append, List.cons_append]
  refine inw_fin fun d os => ?_
  refine given_new (t := 10) rfl fun b8 lb8 gb8 => ?_
  refine given_nil fun hap => ?_
  simp only [Act.put, List.setIfInBounds_toArray, List.set_cons_zero, List.set_cons_succ] at hap ⊢
  have hM20 := hM19.news1 (below_regrown W19 d os) lb8 gb8 
  clear hap lb8 gb8
  generalize grow (redrawn W19 d) os = W20 at hM20 ⊢
  change wpAny _ _ _ _ 2 _ _ _
  refine any_set (n := 11) (by kernel_rfl) rfl hM20 0 (cs := ((pc4 (at4 (((fz 0, fz mN) : Pt)))))) rfl rfl rfl rfl rowPt rfl (one_p4 _) rfl rfl fun W21 hM21 => ?_
  simp only [List.set_cons_zero, List.set_cons_succ] at hM21
  refine any_pure (n := 12) (v := .int .i64 0) (by kernel_rfl) rfl (fun _ => rfl) rfl rfl ?_
  simp only [Act.put, List.setIfInBounds_toArray, List.set_cons_zero, List.set_cons_succ]
  refine wpAny_done (by kernel_rfl) ?_ _
  refine NoPanic.normal ?_
  have hMd := hM21.drew
  (first | (refine wp_region_noPanic (wp_region_held_drew HMIX.out (S := fun w1 => w1.heap[b8]? = some (.cells ((pc4 (at4 (((fz 0, fz mN) : Pt))))) 31 (0, 0)) ∧ w1.heap[b7]? = some (.cells ((rpL 0 mN 1).toArray) 41 (0, 0))) (⟨hMd.get 0 rfl, hMd.get 1 rfl⟩) fun hS => ?_)) | (go_step; (first | (refine wp_region_noPanic (wp_region_held_drew HMIX.out (S := fun w1 => w1.heap[b8]? = some (.cells ((pc4 (at4 (((fz 0, fz mN) : Pt))))) 31 (0, 0)) ∧ w1.heap[b7]? = some (.cells ((rpL 0 mN 1).toArray) 41 (0, 0))) (⟨hMd.get 0 rfl, hMd.get 1 rfl⟩) fun hS => ?_)) | (go_step; (first | (refine wp_region_noPanic (wp_region_held_drew HMIX.out (S := fun w1 => w1.heap[b8]? = some (.cells ((pc4 (at4 (((fz 0, fz mN) : Pt))))) 31 (0, 0)) ∧ w1.heap[b7]? = some (.cells ((rpL 0 mN 1).toArray) 41 (0, 0))) (⟨hMd.get 0 rfl, hMd.get 1 rfl⟩) fun hS => ?_)) | (go_step; (first | (refine wp_region_noPanic (wp_region_held_drew HMIX.out (S := fun w1 => w1.heap[b8]? = some (.cells ((pc4 (at4 (((fz 0, fz mN) : Pt))))) 31 (0, 0)) ∧ w1.heap[b7]? = some (.cells ((rpL 0 mN 1).toArray) 41 (0, 0))) (⟨hMd.get 0 rfl, hMd.get 1 rfl⟩) fun hS => ?_)) | (go_step; (first | (refine wp_region_noPanic (wp_region_held_drew HMIX.out (S := fun w1 => w1.heap[b8]? = some (.cells ((pc4 (at4 (((fz 0, fz mN) : Pt))))) 31 (0, 0)) ∧ w1.heap[b7]? = some (.cells ((rpL 0 mN 1).toArray) 41 (0, 0))) (⟨hMd.get 0 rfl, hMd.get 1 rfl⟩) fun hS => ?_)) | (go_step; (first | (refine wp_region_noPanic (wp_region_held_drew HMIX.out (S := fun w1 => w1.heap[b8]? = some (.cells ((pc4 (at4 (((fz 0, fz mN) : Pt))))) 31 (0, 0)) ∧ w1.heap[b7]? = some (.cells ((rpL 0 mN 1).toArray) 41 (0, 0))) (⟨hMd.get 0 rfl, hMd.get 1 rfl⟩) fun hS => ?_)) | (go_step; (first | (refine wp_region_noPanic (wp_region_held_drew HMIX.out (S := fun w1 => w1.heap[b8]? = some (.cells ((pc4 (at4 (((fz 0, fz mN) : Pt))))) 31 (0, 0)) ∧ w1.heap[b7]? = some (.cells ((rpL 0 mN 1).toArray) 41 (0, 0))) (⟨hMd.get 0 rfl, hMd.get 1 rfl⟩) fun hS => ?_)) | (go_step; (refine wp_region_noPanic (wp_region_held_drew HMIX.out (S := fun w1 => w1.heap[b8]? = some (.cells ((pc4 (at4 (((fz 0, fz mN) : Pt))))) 31 (0, 0)) ∧ w1.heap[b7]? = some (.cells ((rpL 0 mN 1).toArray) 41 (0, 0))) (⟨hMd.get 0 rfl, hMd.get 1 rfl⟩) fun hS => ?_))))))))))))))))
  change wpAnyH _ _ _ _ _ 4 _ _ _
  generalize W21.drew = W22 at hMd hS ⊢
  have hM22 := hMd
  clear hMd
  refine hd_row 0 52 #[true, false, false, false] (by kernel_rfl) (v := pv4 (at4 (((fz 0, fz mN) : Pt)))) (cs := ((pc4 (at4 (((fz 0, fz mN) : Pt)))))) (b := b8) rfl rfl rfl rfl (fun W hW => hW.1) rfl rowPt (by kernel_rfl) (by kernel_rfl) (by kernel_rfl) rfl hS ?_
  simp only [Act.put, List.setIfInBounds_toArray, List.set_cons_zero, List.set_cons_succ]
  refine hd_row 1 53 #[true, true, false, false] (by kernel_rfl) (v := pv3 ((0, mN, 1))) (cs := ((rpL 0 mN 1).toArray)) (b := b7) rfl rfl rfl rfl (fun W hW => hW.2) rfl rowRp (by kernel_rfl) (by kernel_rfl) (by kernel_rfl) rfl hS ?_
  simp only [Act.put, List.setIfInBounds_toArray, List.set_cons_zero, List.set_cons_succ]
  refine hd_set (n := 2) #[true, true, true, false] (by kernel_rfl) (by kernel_rfl) rfl hM22 7 (cs := ((pc4 (at4 (((fz 0, fz mN) : Pt)))))) rfl rfl rfl rfl rowPt rfl (one_p4 _) rfl rfl (fun W hW => ⟨hW.get 0 rfl, hW.get 1 rfl⟩) fun W23 hM23 => ?_
  simp only [List.set_cons_zero, List.set_cons_succ] at hM23
  refine hd_set (n := 3) #[true, true, true, true] (by kernel_rfl) (by kernel_rfl) rfl hM23 6 (cs := ((rpL 0 mN 1).toArray)) rfl rfl rfl rfl rowRp rfl (one_rp _ _ _) rfl rfl (fun W hW => ⟨hW.get 0 rfl, hW.get 1 rfl⟩) fun W24 hM24 => ?_
  simp only [List.set_cons_zero, List.set_cons_succ] at hM24
  refine wpAnyH_done (by kernel_rfl) ?_ _
  refine NoPanic.normal ?_
  (first | (refine bodyPost_ret (v := .tuple #[pv4 (at4 (((fz 0, fz mN) : Pt))), pv3 ((0, mN, 1))]) (results_arr2 Try.results22 rfl rfl (hM24.load 7 rfl rowPt) (hM24.load 6 rfl rowRp)) rfl ⟨?_, hM24.below⟩) | (go_step; (first | (refine bodyPost_ret (v := .tuple #[pv4 (at4 (((fz 0, fz mN) : Pt))), pv3 ((0, mN, 1))]) (results_arr2 Try.results22 rfl rfl (hM24.load 7 rfl rowPt) (hM24.load 6 rfl rowRp)) rfl ⟨?_, hM24.below⟩) | (go_step; (first | (refine bodyPost_ret (v := .tuple #[pv4 (at4 (((fz 0, fz mN) : Pt))), pv3 ((0, mN, 1))]) (results_arr2 Try.results22 rfl rfl (hM24.load 7 rfl rowPt) (hM24.load 6 rfl rowRp)) rfl ⟨?_, hM24.below⟩) | (go_step; (first | (refine bodyPost_ret (v := .tuple #[pv4 (at4 (((fz 0, fz mN) : Pt))), pv3 ((0, mN, 1))]) (results_arr2 Try.results22 rfl rfl (hM24.load 7 rfl rowPt) (hM24.load 6 rfl rowRp)) rfl ⟨?_, hM24.below⟩) | (go_step; (first | (refine bodyPost_ret (v := .tuple #[pv4 (at4 (((fz 0, fz mN) : Pt))), pv3 ((0, mN, 1))]) (results_arr2 Try.results22 rfl rfl (hM24.load 7 rfl rowPt) (hM24.load 6 rfl rowRp)) rfl ⟨?_, hM24.below⟩) | (go_step; (first | (refine bodyPost_ret (v := .tuple #[pv4 (at4 (((fz 0, fz mN) : Pt))), pv3 ((0, mN, 1))]) (results_arr2 Try.results22 rfl rfl (hM24.load 7 rfl rowPt) (hM24.load 6 rfl rowRp)) rfl ⟨?_, hM24.below⟩) | (go_step; (first | (refine bodyPost_ret (v := .tuple #[pv4 (at4 (((fz 0, fz mN) : Pt))), pv3 ((0, mN, 1))]) (results_arr2 Try.results22 rfl rfl (hM24.load 7 rfl rowPt) (hM24.load 6 rfl rowRp)) rfl ⟨?_, hM24.below⟩) | (go_step; (refine bodyPost_ret (v := .tuple #[pv4 (at4 (((fz 0, fz mN) : Pt))), pv3 ((0, mN, 1))]) (results_arr2 Try.results22 rfl rfl (hM24.load 7 rfl rowPt) (hM24.load 6 rfl rowRp)) rfl ⟨?_, hM24.below⟩)))))))))))))))
  exact rfl
set_option maxRecDepth 20000 in
set_option maxHeartbeats 8000000 in
theorem low2 (k : Nat) (hk4 : k % 4 = 2) (w : World) : Calls Try.prog 22 #[.int .u8 (k : Int)] w fun E w' => E = .returned (.tuple #[pv4 (at4 (fz iR, fz 0)), pv3 (iR, 0, 1)]) ∧ Below w.heap.size w w' := by
  have HMIX := Lib.hid (show Try.prog.follows .mixedOrders = true by kernel_rfl)
  go_enter Try.func22, Try.ntmps22
  have hM0 := Mem.start w
  (first | (refine wp_region_lit ?_) | (go_step; (first | (refine wp_region_lit ?_) | (go_step; (first | (refine wp_region_lit ?_) | (go_step; (first | (refine wp_region_lit ?_) | (go_step; (first | (refine wp_region_lit ?_) | (go_step; (first | (refine wp_region_lit ?_) | (go_step; (first | (refine wp_region_lit ?_) | (go_step; (refine wp_region_lit ?_)))))))))))))))
  refine wl_new hM0 (f := fun b => .pointer (some ⟨b, 0, none⟩)) (ob := .cells z16 31 (0, 0)) (fun W => run_alloc_of rfl (al_Pt W)) rfl fun b1 W1 hM1 => ?_
  simp only [Act.put, List.setIfInBounds_toArray, List.set_cons_zero, List.set_cons_succ]
  refine wl_new hM1 (f := fun b => .pointer (some ⟨b, 0, none⟩)) (ob := .cells z12 41 (0, 0)) (fun W => run_alloc_of rfl (al_Rp W)) rfl fun b2 W2 hM2 => ?_
  simp only [Act.put, List.setIfInBounds_toArray, List.set_cons_zero, List.set_cons_succ]
  refine wpList_nil ?_
  (first | (refine wp_region_lit ?_) | (go_step; (first | (refine wp_region_lit ?_) | (go_step; (first | (refine wp_region_lit ?_) | (go_step; (first | (refine wp_region_lit ?_) | (go_step; (first | (refine wp_region_lit ?_) | (go_step; (first | (refine wp_region_lit ?_) | (go_step; (first | (refine wp_region_lit ?_) | (go_step; (refine wp_region_lit ?_)))))))))))))))
  refine wl_call hM2 (args := #[.int .u64 0]) (v := numV 0) (fun W => run_call_fn W (enters_of Try.func40 rfl rfl) rfl (by simp [Act.eval])) (rsmall' 0 (by decide) W2) rfl fun W3 hM3 => ?_
  simp only [Act.put, List.setIfInBounds_toArray, List.set_cons_zero, List.set_cons_succ]
  refine wl_call hM3 (args := #[.int .u64 1]) (v := numV 1) (fun W => run_call_fn W (enters_of Try.func40 rfl rfl) rfl (by simp [Act.eval])) (rsmall' 1 (by decide) W3) rfl fun W4 hM4 => ?_
  simp only [Act.put, List.setIfInBounds_toArray, List.set_cons_zero, List.set_cons_succ]
  refine wl_new hM4 (f := fun b => .pointer (some ⟨b, 0, none⟩)) (ob := .cells z4 23 (0, 0)) (fun W => run_alloc_of rfl (al_Nu W)) rfl fun b3 W5 hM5 => ?_
  simp only [Act.put, List.setIfInBounds_toArray, List.set_cons_zero, List.set_cons_succ]
  refine wl_new hM5 (f := fun b => .pointer (some ⟨b, 0, none⟩)) (ob := .cells z4 23 (0, 0)) (fun W => run_alloc_of rfl (al_Nu W)) rfl fun b4 W6 hM6 => ?_
  simp only [Act.put, List.setIfInBounds_toArray, List.set_cons_zero, List.set_cons_succ]
  refine wl_set hM6 1 (cs := (elR 0)) rfl rfl rfl rfl rowNu rfl (one_el 0) rfl rfl fun W7 hM7 => ?_
  simp only [List.set_cons_zero, List.set_cons_succ] at hM7
  refine wl_set hM7 0 (cs := (elR 1)) rfl rfl rfl rfl rowNu rfl (one_el 1) rfl rfl fun W8 hM8 => ?_
  simp only [List.set_cons_zero, List.set_cons_succ] at hM8
  refine wpList_nil ?_
  (first | (refine wp_region_lit ?_) | (go_step; (first | (refine wp_region_lit ?_) | (go_step; (first | (refine wp_region_lit ?_) | (go_step; (first | (refine wp_region_lit ?_) | (go_step; (first | (refine wp_region_lit ?_) | (go_step; (first | (refine wp_region_lit ?_) | (go_step; (first | (refine wp_region_lit ?_) | (go_step; (refine wp_region_lit ?_)))))))))))))))
  refine wl_row hM8 1 (v := numV 0) rfl rfl rfl rfl rowNu rfl ?_
  simp only [Act.put, List.setIfInBounds_toArray, List.set_cons_zero, List.set_cons_succ]
  refine wl_row hM8 0 (v := numV 1) rfl rfl rfl rfl rowNu rfl ?_
  simp only [Act.put, List.setIfInBounds_toArray, List.set_cons_zero, List.set_cons_succ]
  refine wl_call hM8 (args := #[numV 0, numV 1]) (v := numV mN) (fun W => run_call_fn W (enters_of Try.func38 rfl rfl) rfl (by simp [Act.eval])) (rsub01 W8) rfl fun W9 hM9 => ?_
  simp only [Act.put, List.setIfInBounds_toArray, List.set_cons_zero, List.set_cons_succ]
  refine wl_new hM9 (f := fun b => .pointer (some ⟨b, 0, none⟩)) (ob := .cells z4 23 (0, 0)) (fun W => run_alloc_of rfl (al_Nu W)) rfl fun b5 W10 hM10 => ?_
  simp only [Act.put, List.setIfInBounds_toArray, List.set_cons_zero, List.set_cons_succ]
  refine wl_set hM10 0 (cs := (elR mN)) rfl rfl rfl rfl rowNu rfl (one_el mN) rfl rfl fun W11 hM11 => ?_
  simp only [List.set_cons_zero, List.set_cons_succ] at hM11
  refine wpList_nil ?_
  (first | (refine wp_region_lit ?_) | (go_step; (first | (refine wp_region_lit ?_) | (go_step; (first | (refine wp_region_lit ?_) | (go_step; (first | (refine wp_region_lit ?_) | (go_step; (first | (refine wp_region_lit ?_) | (go_step; (first | (refine wp_region_lit ?_) | (go_step; (first | (refine wp_region_lit ?_) | (go_step; (refine wp_region_lit ?_)))))))))))))))
  refine wl_row hM11 0 (v := numV mN) rfl rfl rfl rfl rowNu rfl ?_
  simp only [Act.put, List.setIfInBounds_toArray, List.set_cons_zero, List.set_cons_succ]
  refine wl_call hM11 (args := #[numV mN]) (v := .tuple #[numV iR, .bool true]) (fun W => run_call_fn W (enters_of Try.func49 rfl rfl) rfl (by simp [Act.eval])) (rroot_m W11) rfl fun W12 hM12 => ?_
  simp only [Act.put, List.setIfInBounds_toArray, List.set_cons_zero, List.set_cons_succ]
  refine wl_pure (v := .tuple #[numV iR, .bool true]) (fun _ => rfl) rfl ?_
  simp only [Act.put, List.setIfInBounds_toArray, List.set_cons_zero, List.set_cons_succ]
  refine wl_pure (v := numV iR) (fun _ => rfl) rfl ?_
  simp only [Act.put, List.setIfInBounds_toArray, List.set_cons_zero, List.set_cons_succ]
  refine wl_pure (v := .bool true) (fun _ => rfl) rfl ?_
  simp only [Act.put, List.setIfInBounds_toArray, List.set_cons_zero, List.set_cons_succ]
  refine wl_new hM12 (f := fun b => .pointer (some ⟨b, 0, none⟩)) (ob := .cells z4 23 (0, 0)) (fun W => run_alloc_of rfl (al_Nu W)) rfl fun b6 W13 hM13 => ?_
  simp only [Act.put, List.setIfInBounds_toArray, List.set_cons_zero, List.set_cons_succ]
  refine wl_set hM13 0 (cs := (elR iR)) rfl rfl rfl rfl rowNu rfl (one_el iR) rfl rfl fun W14 hM14 => ?_
  simp only [List.set_cons_zero, List.set_cons_succ] at hM14
  refine wl_pure (v := .bool true) (fun _ => rfl) rfl ?_
  simp only [Act.put, List.setIfInBounds_toArray, List.set_cons_zero, List.set_cons_succ]
  refine wpList_nil ?_
  (first | (refine wp_region_lit ?_) | (go_step; (first | (refine wp_region_lit ?_) | (go_step; (first | (refine wp_region_lit ?_) | (go_step; (first | (refine wp_region_lit ?_) | (go_step; (first | (refine wp_region_lit ?_) | (go_step; (first | (refine wp_region_lit ?_) | (go_step; (first | (refine wp_region_lit ?_) | (go_step; (refine wp_region_lit ?_)))))))))))))))
  refine wl_call hM14 (args := #[]) (v := pv3 ((0, 1, 1))) (fun W => run_call_fn W (enters_of Try.func17 rfl rfl) rfl (by simp [Act.eval])) (rzero_any W14) rfl fun W15 hM15 => ?_
  simp only [Act.put, List.setIfInBounds_toArray, List.set_cons_zero, List.set_cons_succ]
  refine wl_new hM15 (f := fun b => .pointer (some ⟨b, 0, none⟩)) (ob := .cells z12 41 (0, 0)) (fun W => run_alloc_of rfl (al_Rp W)) rfl fun b7 W16 hM16 => ?_
  simp only [Act.put, List.setIfInBounds_toArray, List.set_cons_zero, List.set_cons_succ]
  refine wl_set hM16 0 (cs := ((rpL 0 1 1).toArray)) rfl rfl rfl rfl rowRp rfl (one_rp _ _ _) rfl rfl fun W17 hM17 => ?_
  simp only [List.set_cons_zero, List.set_cons_succ] at hM17
  refine wpList_nil ?_
  (first | (refine wp_region_lit ?_) | (go_step; (first | (refine wp_region_lit ?_) | (go_step; (first | (refine wp_region_lit ?_) | (go_step; (first | (refine wp_region_lit ?_) | (go_step; (first | (refine wp_region_lit ?_) | (go_step; (first | (refine wp_region_lit ?_) | (go_step; (first | (refine wp_region_lit ?_) | (go_step; (refine wp_region_lit ?_)))))))))))))))
  refine wl_pure (v := .int .u8 (k : Int)) (fun _ => rfl) rfl ?_
  simp only [Act.put, List.setIfInBounds_toArray, List.set_cons_zero, List.set_cons_succ]
  refine wl_pure (v := .int .u8 2) (fun W => run_bin_of rfl rfl rfl (bin_rem8 k 2 hk4 _ _ W)) rfl ?_
  simp only [Act.put, List.setIfInBounds_toArray, List.set_cons_zero, List.set_cons_succ]
  refine wpList_nil ?_
  (first | (refine wp_region_lit ?_) | (go_step; (first | (refine wp_region_lit ?_) | (go_step; (first | (refine wp_region_lit ?_) | (go_step; (first | (refine wp_region_lit ?_) | (go_step; (first | (refine wp_region_lit ?_) | (go_step; (first | (refine wp_region_lit ?_) | (go_step; (first | (refine wp_region_lit ?_) | (go_step; (refine wp_region_lit ?_)))))))))))))))
  refine wl_pure (v := .bool false) (fun W => run_eqint_of W rfl rfl rfl rfl) rfl ?_
  simp only [Act.put, List.setIfInBounds_toArray, List.set_cons_zero, List.set_cons_succ]
  refine wl_pure (v := .bool false) (fun _ => rfl) rfl ?_
  simp only [Act.put, List.setIfInBounds_toArray, List.set_cons_zero, List.set_cons_succ]
  refine wpList_nil ?_
  (first | (refine wp_region_lit ?_) | (go_step; (first | (refine wp_region_lit ?_) | (go_step; (first | (refine wp_region_lit ?_) | (go_step; (first | (refine wp_region_lit ?_) | (go_step; (first | (refine wp_region_lit ?_) | (go_step; (first | (refine wp_region_lit ?_) | (go_step; (first | (refine wp_region_lit ?_) | (go_step; (refine wp_region_lit ?_)))))))))))))))
  refine wl_pure (v := .bool true) (fun W => run_eqint_of W rfl rfl rfl rfl) rfl ?_
  simp only [Act.put, List.setIfInBounds_toArray, List.set_cons_zero, List.set_cons_succ]
  refine wl_pure (v := .bool true) (fun _ => rfl) rfl ?_
  simp only [Act.put, List.setIfInBounds_toArray, List.set_cons_zero, List.set_cons_succ]
  refine wpList_nil ?_
  (first | (refine wp_region_lit ?_) | (go_step; (first | (refine wp_region_lit ?_) | (go_step; (first | (refine wp_region_lit ?_) | (go_step; (first | (refine wp_region_lit ?_) | (go_step; (first | (refine wp_region_lit ?_) | (go_step; (first | (refine wp_region_lit ?_) | (go_step; (first | (refine wp_region_lit ?_) | (go_step; (refine wp_region_lit ?_)))))))))))))))
  refine wl_row hM17 1 (v := numV iR) rfl rfl rfl rfl rowNu rfl ?_
  simp only [Act.put, List.setIfInBounds_toArray, List.set_cons_zero, List.set_cons_succ]
  refine wl_row hM17 4 (v := numV 0) rfl rfl rfl rfl rowNu rfl ?_
  simp only [Act.put, List.setIfInBounds_toArray, List.set_cons_zero, List.set_cons_succ]
  refine wl_call hM17 (args := #[numV iR, numV 0]) (v := pv3 ((iR, 0, 1))) (fun W => run_call_fn W (enters_of Try.func13 rfl rfl) rfl (by simp [Act.eval])) (rmake_any iR 0 W17) rfl fun W18 hM18 => ?_
  simp only [Act.put, List.setIfInBounds_toArray, List.set_cons_zero, List.set_cons_succ]
  refine wl_set hM18 0 (cs := ((rpL iR 0 1).toArray)) rfl rfl rfl rfl rowRp rfl (one_rp _ _ _) rfl rfl fun W19 hM19 => ?_
  simp only [List.set_cons_zero, List.set_cons_succ] at hM19
  refine wpList_nil ?_
  (first | (refine wp_region_inz 11 9 rfl rfl (steady_extract rfl) (by kernel_rfl) (by decide) HMIX.out (by decide) (by kernel_rfl) (by kernel_rfl) ?_) | (go_step; (first | (refine wp_region_inz 11 9 rfl rfl (steady_extract rfl) (by kernel_rfl) (by decide) HMIX.out (by decide) (by kernel_rfl) (by kernel_rfl) ?_) | (go_step; (first | (refine wp_region_inz 11 9 rfl rfl (steady_extract rfl) (by kernel_rfl) (by decide) HMIX.out (by decide) (by kernel_rfl) (by kernel_rfl) ?_) | (go_step; (first | (refine wp_region_inz 11 9 rfl rfl (steady_extract rfl) (by kernel_rfl) (by decide) HMIX.out (by decide) (by kernel_rfl) (by kernel_rfl) ?_) | (go_step; (first | (refine wp_region_inz 11 9 rfl rfl (steady_extract rfl) (by kernel_rfl) (by decide) HMIX.out (by decide) (by kernel_rfl) (by kernel_rfl) ?_) | (go_step; (first | (refine wp_region_inz 11 9 rfl rfl (steady_extract rfl) (by kernel_rfl) (by decide) HMIX.out (by decide) (by kernel_rfl) (by kernel_rfl) ?_) | (go_step; (first | (refine wp_region_inz 11 9 rfl rfl (steady_extract rfl) (by kernel_rfl) (by decide) HMIX.out (by decide) (by kernel_rfl) (by kernel_rfl) ?_) | (go_step; (refine wp_region_inz 11 9 rfl rfl (steady_extract rfl) (by kernel_rfl) (by decide) HMIX.out (by decide) (by kernel_rfl) (by kernel_rfl) ?_)))))))))))))))
  refine inw_pure (v := .pointer (some ⟨b7, 0, none⟩)) (fun W => run_field_of rfl rfl (fa_R0 b7 W)) rfl rfl ?_; simp only [Act.put, List.setIfInBounds_toArray, List.set_cons_zero, List.set_cons_succ]
  refine inw_part hM19 0 (v := numV iR) (sub := elR iR) rfl rfl rfl rfl rfl rowNu rfl rfl ?_; simp only [Act.put, List.setIfInBounds_toArray, List.set_cons_zero, List.set_cons_succ]
  refine inw_callV (args := #[numV iR]) (v := numV iR) (fun W => run_call_fn W (enters_of Try.func8 rfl rfl) rfl (by simp [Act.eval])) (fun W _ => el'2 iR iR_lt W) rfl rfl ?_; simp only [Act.put, List.setIfInBounds_toArray, List.set_cons_zero, List.set_cons_succ]
  refine inw_pure (v := .pointer (some ⟨b7, 4, none⟩)) (fun W => run_field_of rfl rfl (fa_R1 b7 W)) rfl rfl ?_; simp only [Act.put, List.setIfInBounds_toArray, List.set_cons_zero, List.set_cons_succ]
  refine inw_part hM19 0 (v := numV 0) (sub := elR 0) rfl rfl rfl rfl rfl rowNu rfl rfl ?_; simp only [Act.put, List.setIfInBounds_toArray, List.set_cons_zero, List.set_cons_succ]
  refine inw_callV (args := #[numV 0]) (v := numV 0) (fun W => run_call_fn W (enters_of Try.func8 rfl rfl) rfl (by simp [Act.eval])) (fun W _ => el'2 0 zero_below W) rfl rfl ?_; simp only [Act.put, List.setIfInBounds_toArray, List.set_cons_zero, List.set_cons_succ]
  refine inw_callV (args := #[numV iR, numV 0]) (v := .tuple #[pv4 (at4 (((fz iR, fz 0) : Pt))), .int .i64 0]) (fun W => run_call_fn W (enters_of Try.func7 rfl rfl) rfl (by simp [Act.eval])) (fun W _ => make_pt ((fz iR, fz 0) : Pt) on_low2 iR 0 (fzv iR_lt) (fzv zero_below) W) rfl rfl ?_; simp only [Act.put, List.setIfInBounds_toArray, List.set_cons_zero, List.set_cons_succ]
  refine inw_pure (v := .tuple #[pv4 (at4 (((fz iR, fz 0) : Pt))), .int .i64 0]) (fun _ => rfl) rfl rfl ?_; simp only [Act.put, List.setIfInBounds_toArray, List.set_cons_zero, List.set_cons_succ]
  refine inw_pure (v := pv4 (at4 (((fz iR, fz 0) : Pt)))) (fun _ => rfl) rfl rfl ?_; simp only [Act.put, List.setIfInBounds_toArray, List.set_cons_zero, List.set_cons_succ]
  refine inw_pure (v := .int .i64 0) (fun _ => rfl) rfl rfl ?_; simp only [Act.put, List.setIfInBounds_toArray, List.set_cons_zero, List.set_cons_succ]
  refine inw_new (.cells z16 31 (0, 0)) rfl rfl (fun A W => run_alloc_of rfl (al_Pt W)) ?_; simp only [List.nil_append, List.cons_append]
  refine inw_fin fun d os => ?_
  refine given_new (t := 10) rfl fun b8 lb8 gb8 => ?_
  refine given_nil fun hap => ?_
  simp only [Act.put, List.setIfInBounds_toArray, List.set_cons_zero, List.set_cons_succ] at hap ⊢
  have hM20 := hM19.news1 (below_regrown W19 d os) lb8 gb8 
  clear hap lb8 gb8
  generalize grow (redrawn W19 d) os = W20 at hM20 ⊢
  change wpAny _ _ _ _ 2 _ _ _
  refine any_set (n := 11) (by kernel_rfl) rfl hM20 0 (cs := ((pc4 (at4 (((fz iR, fz 0) : Pt)))))) rfl rfl rfl rfl rowPt rfl (one_p4 _) rfl rfl fun W21 hM21 => ?_
  simp only [List.set_cons_zero, List.set_cons_succ] at hM21
  refine any_pure (n := 12) (v := .int .i64 0) (by kernel_rfl) rfl (fun _ => rfl) rfl rfl ?_
  simp only [Act.put, List.setIfInBounds_toArray, List.set_cons_zero, List.set_cons_succ]
  refine wpAny_done (by kernel_rfl) ?_ _
  refine NoPanic.normal ?_
  have hMd := hM21.drew
  (first | (refine wp_region_noPanic (wp_region_held_drew HMIX.out (S := fun w1 => w1.heap[b8]? = some (.cells ((pc4 (at4 (((fz iR, fz 0) : Pt))))) 31 (0, 0)) ∧ w1.heap[b7]? = some (.cells ((rpL iR 0 1).toArray) 41 (0, 0))) (⟨hMd.get 0 rfl, hMd.get 1 rfl⟩) fun hS => ?_)) | (go_step; (first | (refine wp_region_noPanic (wp_region_held_drew HMIX.out (S := fun w1 => w1.heap[b8]? = some (.cells ((pc4 (at4 (((fz iR, fz 0) : Pt))))) 31 (0, 0)) ∧ w1.heap[b7]? = some (.cells ((rpL iR 0 1).toArray) 41 (0, 0))) (⟨hMd.get 0 rfl, hMd.get 1 rfl⟩) fun hS => ?_)) | (go_step; (first | (refine wp_region_noPanic (wp_region_held_drew HMIX.out (S := fun w1 => w1.heap[b8]? = some (.cells ((pc4 (at4 (((fz iR, fz 0) : Pt))))) 31 (0, 0)) ∧ w1.heap[b7]? = some (.cells ((rpL iR 0 1).toArray) 41 (0, 0))) (⟨hMd.get 0 rfl, hMd.get 1 rfl⟩) fun hS => ?_)) | (go_step; (first | (refine wp_region_noPanic (wp_region_held_drew HMIX.out (S := fun w1 => w1.heap[b8]? = some (.cells ((pc4 (at4 (((fz iR, fz 0) : Pt))))) 31 (0, 0)) ∧ w1.heap[b7]? = some (.cells ((rpL iR 0 1).toArray) 41 (0, 0))) (⟨hMd.get 0 rfl, hMd.get 1 rfl⟩) fun hS => ?_)) | (go_step; (first | (refine wp_region_noPanic (wp_region_held_drew HMIX.out (S := fun w1 => w1.heap[b8]? = some (.cells ((pc4 (at4 (((fz iR, fz 0) : Pt))))) 31 (0, 0)) ∧ w1.heap[b7]? = some (.cells ((rpL iR 0 1).toArray) 41 (0, 0))) (⟨hMd.get 0 rfl, hMd.get 1 rfl⟩) fun hS => ?_)) | (go_step; (first | (refine wp_region_noPanic (wp_region_held_drew HMIX.out (S := fun w1 => w1.heap[b8]? = some (.cells ((pc4 (at4 (((fz iR, fz 0) : Pt))))) 31 (0, 0)) ∧ w1.heap[b7]? = some (.cells ((rpL iR 0 1).toArray) 41 (0, 0))) (⟨hMd.get 0 rfl, hMd.get 1 rfl⟩) fun hS => ?_)) | (go_step; (first | (refine wp_region_noPanic (wp_region_held_drew HMIX.out (S := fun w1 => w1.heap[b8]? = some (.cells ((pc4 (at4 (((fz iR, fz 0) : Pt))))) 31 (0, 0)) ∧ w1.heap[b7]? = some (.cells ((rpL iR 0 1).toArray) 41 (0, 0))) (⟨hMd.get 0 rfl, hMd.get 1 rfl⟩) fun hS => ?_)) | (go_step; (refine wp_region_noPanic (wp_region_held_drew HMIX.out (S := fun w1 => w1.heap[b8]? = some (.cells ((pc4 (at4 (((fz iR, fz 0) : Pt))))) 31 (0, 0)) ∧ w1.heap[b7]? = some (.cells ((rpL iR 0 1).toArray) 41 (0, 0))) (⟨hMd.get 0 rfl, hMd.get 1 rfl⟩) fun hS => ?_))))))))))))))))
  change wpAnyH _ _ _ _ _ 4 _ _ _
  generalize W21.drew = W22 at hMd hS ⊢
  have hM22 := hMd
  clear hMd
  refine hd_row 0 52 #[true, false, false, false] (by kernel_rfl) (v := pv4 (at4 (((fz iR, fz 0) : Pt)))) (cs := ((pc4 (at4 (((fz iR, fz 0) : Pt)))))) (b := b8) rfl rfl rfl rfl (fun W hW => hW.1) rfl rowPt (by kernel_rfl) (by kernel_rfl) (by kernel_rfl) rfl hS ?_
  simp only [Act.put, List.setIfInBounds_toArray, List.set_cons_zero, List.set_cons_succ]
  refine hd_row 1 53 #[true, true, false, false] (by kernel_rfl) (v := pv3 ((iR, 0, 1))) (cs := ((rpL iR 0 1).toArray)) (b := b7) rfl rfl rfl rfl (fun W hW => hW.2) rfl rowRp (by kernel_rfl) (by kernel_rfl) (by kernel_rfl) rfl hS ?_
  simp only [Act.put, List.setIfInBounds_toArray, List.set_cons_zero, List.set_cons_succ]
  refine hd_set (n := 2) #[true, true, true, false] (by kernel_rfl) (by kernel_rfl) rfl hM22 7 (cs := ((pc4 (at4 (((fz iR, fz 0) : Pt)))))) rfl rfl rfl rfl rowPt rfl (one_p4 _) rfl rfl (fun W hW => ⟨hW.get 0 rfl, hW.get 1 rfl⟩) fun W23 hM23 => ?_
  simp only [List.set_cons_zero, List.set_cons_succ] at hM23
  refine hd_set (n := 3) #[true, true, true, true] (by kernel_rfl) (by kernel_rfl) rfl hM23 6 (cs := ((rpL iR 0 1).toArray)) rfl rfl rfl rfl rowRp rfl (one_rp _ _ _) rfl rfl (fun W hW => ⟨hW.get 0 rfl, hW.get 1 rfl⟩) fun W24 hM24 => ?_
  simp only [List.set_cons_zero, List.set_cons_succ] at hM24
  refine wpAnyH_done (by kernel_rfl) ?_ _
  refine NoPanic.normal ?_
  (first | (refine bodyPost_ret (v := .tuple #[pv4 (at4 (((fz iR, fz 0) : Pt))), pv3 ((iR, 0, 1))]) (results_arr2 Try.results22 rfl rfl (hM24.load 7 rfl rowPt) (hM24.load 6 rfl rowRp)) rfl ⟨?_, hM24.below⟩) | (go_step; (first | (refine bodyPost_ret (v := .tuple #[pv4 (at4 (((fz iR, fz 0) : Pt))), pv3 ((iR, 0, 1))]) (results_arr2 Try.results22 rfl rfl (hM24.load 7 rfl rowPt) (hM24.load 6 rfl rowRp)) rfl ⟨?_, hM24.below⟩) | (go_step; (first | (refine bodyPost_ret (v := .tuple #[pv4 (at4 (((fz iR, fz 0) : Pt))), pv3 ((iR, 0, 1))]) (results_arr2 Try.results22 rfl rfl (hM24.load 7 rfl rowPt) (hM24.load 6 rfl rowRp)) rfl ⟨?_, hM24.below⟩) | (go_step; (first | (refine bodyPost_ret (v := .tuple #[pv4 (at4 (((fz iR, fz 0) : Pt))), pv3 ((iR, 0, 1))]) (results_arr2 Try.results22 rfl rfl (hM24.load 7 rfl rowPt) (hM24.load 6 rfl rowRp)) rfl ⟨?_, hM24.below⟩) | (go_step; (first | (refine bodyPost_ret (v := .tuple #[pv4 (at4 (((fz iR, fz 0) : Pt))), pv3 ((iR, 0, 1))]) (results_arr2 Try.results22 rfl rfl (hM24.load 7 rfl rowPt) (hM24.load 6 rfl rowRp)) rfl ⟨?_, hM24.below⟩) | (go_step; (first | (refine bodyPost_ret (v := .tuple #[pv4 (at4 (((fz iR, fz 0) : Pt))), pv3 ((iR, 0, 1))]) (results_arr2 Try.results22 rfl rfl (hM24.load 7 rfl rowPt) (hM24.load 6 rfl rowRp)) rfl ⟨?_, hM24.below⟩) | (go_step; (first | (refine bodyPost_ret (v := .tuple #[pv4 (at4 (((fz iR, fz 0) : Pt))), pv3 ((iR, 0, 1))]) (results_arr2 Try.results22 rfl rfl (hM24.load 7 rfl rowPt) (hM24.load 6 rfl rowRp)) rfl ⟨?_, hM24.below⟩) | (go_step; (refine bodyPost_ret (v := .tuple #[pv4 (at4 (((fz iR, fz 0) : Pt))), pv3 ((iR, 0, 1))]) (results_arr2 Try.results22 rfl rfl (hM24.load 7 rfl rowPt) (hM24.load 6 rfl rowRp)) rfl ⟨?_, hM24.below⟩)))))))))))))))
  exact rfl
set_option maxRecDepth 20000 in
set_option maxHeartbeats 8000000 in
theorem low3 (k : Nat) (hk4 : k % 4 = 3) (w : World) : Calls Try.prog 22 #[.int .u8 (k : Int)] w fun E w' => E = .returned (.tuple #[pv4 (at4 (fz jR, fz 0)), pv3 (jR, 0, 1)]) ∧ Below w.heap.size w w' := by
  have HMIX := Lib.hid (show Try.prog.follows .mixedOrders = true by kernel_rfl)
  go_enter Try.func22, Try.ntmps22
  have hM0 := Mem.start w
  (first | (refine wp_region_lit ?_) | (go_step; (first | (refine wp_region_lit ?_) | (go_step; (first | (refine wp_region_lit ?_) | (go_step; (first | (refine wp_region_lit ?_) | (go_step; (first | (refine wp_region_lit ?_) | (go_step; (first | (refine wp_region_lit ?_) | (go_step; (first | (refine wp_region_lit ?_) | (go_step; (refine wp_region_lit ?_)))))))))))))))
  refine wl_new hM0 (f := fun b => .pointer (some ⟨b, 0, none⟩)) (ob := .cells z16 31 (0, 0)) (fun W => run_alloc_of rfl (al_Pt W)) rfl fun b1 W1 hM1 => ?_
  simp only [Act.put, List.setIfInBounds_toArray, List.set_cons_zero, List.set_cons_succ]
  refine wl_new hM1 (f := fun b => .pointer (some ⟨b, 0, none⟩)) (ob := .cells z12 41 (0, 0)) (fun W => run_alloc_of rfl (al_Rp W)) rfl fun b2 W2 hM2 => ?_
  simp only [Act.put, List.setIfInBounds_toArray, List.set_cons_zero, List.set_cons_succ]
  refine wpList_nil ?_
  (first | (refine wp_region_lit ?_) | (go_step; (first | (refine wp_region_lit ?_) | (go_step; (first | (refine wp_region_lit ?_) | (go_step; (first | (refine wp_region_lit ?_) | (go_step; (first | (refine wp_region_lit ?_) | (go_step; (first | (refine wp_region_lit ?_) | (go_step; (first | (refine wp_region_lit ?_) | (go_step; (refine wp_region_lit ?_)))))))))))))))
  refine wl_call hM2 (args := #[.int .u64 0]) (v := numV 0) (fun W => run_call_fn W (enters_of Try.func40 rfl rfl) rfl (by simp [Act.eval])) (rsmall' 0 (by decide) W2) rfl fun W3 hM3 => ?_
  simp only [Act.put, List.setIfInBounds_toArray, List.set_cons_zero, List.set_cons_succ]
  refine wl_call hM3 (args := #[.int .u64 1]) (v := numV 1) (fun W => run_call_fn W (enters_of Try.func40 rfl rfl) rfl (by simp [Act.eval])) (rsmall' 1 (by decide) W3) rfl fun W4 hM4 => ?_
  simp only [Act.put, List.setIfInBounds_toArray, List.set_cons_zero, List.set_cons_succ]
  refine wl_new hM4 (f := fun b => .pointer (some ⟨b, 0, none⟩)) (ob := .cells z4 23 (0, 0)) (fun W => run_alloc_of rfl (al_Nu W)) rfl fun b3 W5 hM5 => ?_
  simp only [Act.put, List.setIfInBounds_toArray, List.set_cons_zero, List.set_cons_succ]
  refine wl_new hM5 (f := fun b => .pointer (some ⟨b, 0, none⟩)) (ob := .cells z4 23 (0, 0)) (fun W => run_alloc_of rfl (al_Nu W)) rfl fun b4 W6 hM6 => ?_
  simp only [Act.put, List.setIfInBounds_toArray, List.set_cons_zero, List.set_cons_succ]
  refine wl_set hM6 1 (cs := (elR 0)) rfl rfl rfl rfl rowNu rfl (one_el 0) rfl rfl fun W7 hM7 => ?_
  simp only [List.set_cons_zero, List.set_cons_succ] at hM7
  refine wl_set hM7 0 (cs := (elR 1)) rfl rfl rfl rfl rowNu rfl (one_el 1) rfl rfl fun W8 hM8 => ?_
  simp only [List.set_cons_zero, List.set_cons_succ] at hM8
  refine wpList_nil ?_
  (first | (refine wp_region_lit ?_) | (go_step; (first | (refine wp_region_lit ?_) | (go_step; (first | (refine wp_region_lit ?_) | (go_step; (first | (refine wp_region_lit ?_) | (go_step; (first | (refine wp_region_lit ?_) | (go_step; (first | (refine wp_region_lit ?_) | (go_step; (first | (refine wp_region_lit ?_) | (go_step; (refine wp_region_lit ?_)))))))))))))))
  refine wl_row hM8 1 (v := numV 0) rfl rfl rfl rfl rowNu rfl ?_
  simp only [Act.put, List.setIfInBounds_toArray, List.set_cons_zero, List.set_cons_succ]
  refine wl_row hM8 0 (v := numV 1) rfl rfl rfl rfl rowNu rfl ?_
  simp only [Act.put, List.setIfInBounds_toArray, List.set_cons_zero, List.set_cons_succ]
  refine wl_call hM8 (args := #[numV 0, numV 1]) (v := numV mN) (fun W => run_call_fn W (enters_of Try.func38 rfl rfl) rfl (by simp [Act.eval])) (rsub01 W8) rfl fun W9 hM9 => ?_
  simp only [Act.put, List.setIfInBounds_toArray, List.set_cons_zero, List.set_cons_succ]
  refine wl_new hM9 (f := fun b => .pointer (some ⟨b, 0, none⟩)) (ob := .cells z4 23 (0, 0)) (fun W => run_alloc_of rfl (al_Nu W)) rfl fun b5 W10 hM10 => ?_
  simp only [Act.put, List.setIfInBounds_toArray, List.set_cons_zero, List.set_cons_succ]
  refine wl_set hM10 0 (cs := (elR mN)) rfl rfl rfl rfl rowNu rfl (one_el mN) rfl rfl fun W11 hM11 => ?_
  simp only [List.set_cons_zero, List.set_cons_succ] at hM11
  refine wpList_nil ?_
  (first | (refine wp_region_lit ?_) | (go_step; (first | (refine wp_region_lit ?_) | (go_step; (first | (refine wp_region_lit ?_) | (go_step; (first | (refine wp_region_lit ?_) | (go_step; (first | (refine wp_region_lit ?_) | (go_step; (first | (refine wp_region_lit ?_) | (go_step; (first | (refine wp_region_lit ?_) | (go_step; (refine wp_region_lit ?_)))))))))))))))
  refine wl_row hM11 0 (v := numV mN) rfl rfl rfl rfl rowNu rfl ?_
  simp only [Act.put, List.setIfInBounds_toArray, List.set_cons_zero, List.set_cons_succ]
  refine wl_call hM11 (args := #[numV mN]) (v := .tuple #[numV iR, .bool true]) (fun W => run_call_fn W (enters_of Try.func49 rfl rfl) rfl (by simp [Act.eval])) (rroot_m W11) rfl fun W12 hM12 => ?_
  simp only [Act.put, List.setIfInBounds_toArray, List.set_cons_zero, List.set_cons_succ]
  refine wl_pure (v := .tuple #[numV iR, .bool true]) (fun _ => rfl) rfl ?_
  simp only [Act.put, List.setIfInBounds_toArray, List.set_cons_zero, List.set_cons_succ]
  refine wl_pure (v := numV iR) (fun _ => rfl) rfl ?_
  simp only [Act.put, List.setIfInBounds_toArray, List.set_cons_zero, List.set_cons_succ]
  refine wl_pure (v := .bool true) (fun _ => rfl) rfl ?_
  simp only [Act.put, List.setIfInBounds_toArray, List.set_cons_zero, List.set_cons_succ]
  refine wl_new hM12 (f := fun b => .pointer (some ⟨b, 0, none⟩)) (ob := .cells z4 23 (0, 0)) (fun W => run_alloc_of rfl (al_Nu W)) rfl fun b6 W13 hM13 => ?_
  simp only [Act.put, List.setIfInBounds_toArray, List.set_cons_zero, List.set_cons_succ]
  refine wl_set hM13 0 (cs := (elR iR)) rfl rfl rfl rfl rowNu rfl (one_el iR) rfl rfl fun W14 hM14 => ?_
  simp only [List.set_cons_zero, List.set_cons_succ] at hM14
  refine wl_pure (v := .bool true) (fun _ => rfl) rfl ?_
  simp only [Act.put, List.setIfInBounds_toArray, List.set_cons_zero, List.set_cons_succ]
  refine wpList_nil ?_
  (first | (refine wp_region_lit ?_) | (go_step; (first | (refine wp_region_lit ?_) | (go_step; (first | (refine wp_region_lit ?_) | (go_step; (first | (refine wp_region_lit ?_) | (go_step; (first | (refine wp_region_lit ?_) | (go_step; (first | (refine wp_region_lit ?_) | (go_step; (first | (refine wp_region_lit ?_) | (go_step; (refine wp_region_lit ?_)))))))))))))))
  refine wl_call hM14 (args := #[]) (v := pv3 ((0, 1, 1))) (fun W => run_call_fn W (enters_of Try.func17 rfl rfl) rfl (by simp [Act.eval])) (rzero_any W14) rfl fun W15 hM15 => ?_
  simp only [Act.put, List.setIfInBounds_toArray, List.set_cons_zero, List.set_cons_succ]
  refine wl_new hM15 (f := fun b => .pointer (some ⟨b, 0, none⟩)) (ob := .cells z12 41 (0, 0)) (fun W => run_alloc_of rfl (al_Rp W)) rfl fun b7 W16 hM16 => ?_
  simp only [Act.put, List.setIfInBounds_toArray, List.set_cons_zero, List.set_cons_succ]
  refine wl_set hM16 0 (cs := ((rpL 0 1 1).toArray)) rfl rfl rfl rfl rowRp rfl (one_rp _ _ _) rfl rfl fun W17 hM17 => ?_
  simp only [List.set_cons_zero, List.set_cons_succ] at hM17
  refine wpList_nil ?_
  (first | (refine wp_region_lit ?_) | (go_step; (first | (refine wp_region_lit ?_) | (go_step; (first | (refine wp_region_lit ?_) | (go_step; (first | (refine wp_region_lit ?_) | (go_step; (first | (refine wp_region_lit ?_) | (go_step; (first | (refine wp_region_lit ?_) | (go_step; (first | (refine wp_region_lit ?_) | (go_step; (refine wp_region_lit ?_)))))))))))))))
  refine wl_pure (v := .int .u8 (k : Int)) (fun _ => rfl) rfl ?_
  simp only [Act.put, List.setIfInBounds_toArray, List.set_cons_zero, List.set_cons_succ]
  refine wl_pure (v := .int .u8 3) (fun W => run_bin_of rfl rfl rfl (bin_rem8 k 3 hk4 _ _ W)) rfl ?_
  simp only [Act.put, List.setIfInBounds_toArray, List.set_cons_zero, List.set_cons_succ]
  refine wpList_nil ?_
  (first | (refine wp_region_lit ?_) | (go_step; (first | (refine wp_region_lit ?_) | (go_step; (first | (refine wp_region_lit ?_) | (go_step; (first | (refine wp_region_lit ?_) | (go_step; (first | (refine wp_region_lit ?_) | (go_step; (first | (refine wp_region_lit ?_) | (go_step; (first | (refine wp_region_lit ?_) | (go_step; (refine wp_region_lit ?_)))))))))))))))
  refine wl_pure (v := .bool false) (fun W => run_eqint_of W rfl rfl rfl rfl) rfl ?_
  simp only [Act.put, List.setIfInBounds_toArray, List.set_cons_zero, List.set_cons_succ]
  refine wl_pure (v := .bool false) (fun _ => rfl) rfl ?_
  simp only [Act.put, List.setIfInBounds_toArray, List.set_cons_zero, List.set_cons_succ]
  refine wpList_nil ?_
  (first | (refine wp_region_lit ?_) | (go_step; (first | (refine wp_region_lit ?_) | (go_step; (first | (refine wp_region_lit ?_) | (go_step; (first | (refine wp_region_lit ?_) | (go_step; (first | (refine wp_region_lit ?_) | (go_step; (first | (refine wp_region_lit ?_) | (go_step; (first | (refine wp_region_lit ?_) | (go_step; (refine wp_region_lit ?_)))))))))))))))
  refine wl_pure (v := .bool false) (fun W => run_eqint_of W rfl rfl rfl rfl) rfl ?_
  simp only [Act.put, List.setIfInBounds_toArray, List.set_cons_zero, List.set_cons_succ]
  refine wl_pure (v := .bool false) (fun _ => rfl) rfl ?_
  simp only [Act.put, List.setIfInBounds_toArray, List.set_cons_zero, List.set_cons_succ]
  refine wpList_nil ?_
  (first | (refine wp_region_lit ?_) | (go_step; (first | (refine wp_region_lit ?_) | (go_step; (first | (refine wp_region_lit ?_) | (go_step; (first | (refine wp_region_lit ?_) | (go_step; (first | (refine wp_region_lit ?_) | (go_step; (first | (refine wp_region_lit ?_) | (go_step; (first | (refine wp_region_lit ?_) | (go_step; (refine wp_region_lit ?_)))))))))))))))
  refine wl_pure (v := .bool true) (fun W => run_eqint_of W rfl rfl rfl rfl) rfl ?_
  simp only [Act.put, List.setIfInBounds_toArray, List.set_cons_zero, List.set_cons_succ]
  refine wl_pure (v := .bool true) (fun _ => rfl) rfl ?_
  simp only [Act.put, List.setIfInBounds_toArray, List.set_cons_zero, List.set_cons_succ]
  refine wpList_nil ?_
  (first | (refine wp_region_inw 5 HMIX.out (by decide) (by kernel_rfl) (by kernel_rfl) ?_) | (go_step; (first | (refine wp_region_inw 5 HMIX.out (by decide) (by kernel_rfl) (by kernel_rfl) ?_) | (go_step; (first | (refine wp_region_inw 5 HMIX.out (by decide) (by kernel_rfl) (by kernel_rfl) ?_) | (go_step; (first | (refine wp_region_inw 5 HMIX.out (by decide) (by kernel_rfl) (by kernel_rfl) ?_) | (go_step; (first | (refine wp_region_inw 5 HMIX.out (by decide) (by kernel_rfl) (by kernel_rfl) ?_) | (go_step; (first | (refine wp_region_inw 5 HMIX.out (by decide) (by kernel_rfl) (by kernel_rfl) ?_) | (go_step; (first | (refine wp_region_inw 5 HMIX.out (by decide) (by kernel_rfl) (by kernel_rfl) ?_) | (go_step; (refine wp_region_inw 5 HMIX.out (by decide) (by kernel_rfl) (by kernel_rfl) ?_)))))))))))))))
  refine inw_row hM17 4 (v := numV 0) rfl rfl rfl rfl rowNu rfl rfl ?_; simp only [Act.put, List.setIfInBounds_toArray, List.set_cons_zero, List.set_cons_succ]
  refine inw_row hM17 1 (v := numV iR) rfl rfl rfl rfl rowNu rfl rfl ?_; simp only [Act.put, List.setIfInBounds_toArray, List.set_cons_zero, List.set_cons_succ]
  refine inw_callV (args := #[numV 0, numV iR]) (v := numV jR) (fun W => run_call_fn W (enters_of Try.func38 rfl rfl) rfl (by simp [Act.eval])) (fun W _ => rsub0i W) rfl rfl ?_; simp only [Act.put, List.setIfInBounds_toArray, List.set_cons_zero, List.set_cons_succ]
  refine inw_row hM17 4 (v := numV 0) rfl rfl rfl rfl rowNu rfl rfl ?_; simp only [Act.put, List.setIfInBounds_toArray, List.set_cons_zero, List.set_cons_succ]
  refine inw_callV (args := #[numV jR, numV 0]) (v := pv3 ((jR, 0, 1))) (fun W => run_call_fn W (enters_of Try.func13 rfl rfl) rfl (by simp [Act.eval])) (fun W _ => rmake_any jR 0 W) rfl rfl ?_; simp only [Act.put, List.setIfInBounds_toArray, List.set_cons_zero, List.set_cons_succ]
  refine inw_fin fun d os => ?_
  refine given_nil fun hap => ?_
  have hM18 := hM17.calls (below_regrown W17 d os)
  clear hap 
  generalize grow (redrawn W17 d) os = W18 at hM18 ⊢
  change wpAny _ _ _ _ 1 _ _ _
  refine any_set (n := 5) (by kernel_rfl) rfl hM18 0 (cs := ((rpL jR 0 1).toArray)) rfl rfl rfl rfl rowRp rfl (one_rp _ _ _) rfl rfl fun W19 hM19 => ?_
  simp only [List.set_cons_zero, List.set_cons_succ] at hM19
  refine wpAny_done (by kernel_rfl) ?_ _
  (first | (refine wp_region_inz 11 9 rfl rfl (steady_extract rfl) (by kernel_rfl) (by decide) HMIX.out (by decide) (by kernel_rfl) (by kernel_rfl) ?_) | (go_step; (first | (refine wp_region_inz 11 9 rfl rfl (steady_extract rfl) (by kernel_rfl) (by decide) HMIX.out (by decide) (by kernel_rfl) (by kernel_rfl) ?_) | (go_step; (first | (refine wp_region_inz 11 9 rfl rfl (steady_extract rfl) (by kernel_rfl) (by decide) HMIX.out (by decide) (by kernel_rfl) (by kernel_rfl) ?_) | (go_step; (first | (refine wp_region_inz 11 9 rfl rfl (steady_extract rfl) (by kernel_rfl) (by decide) HMIX.out (by decide) (by kernel_rfl) (by kernel_rfl) ?_) | (go_step; (first | (refine wp_region_inz 11 9 rfl rfl (steady_extract rfl) (by kernel_rfl) (by decide) HMIX.out (by decide) (by kernel_rfl) (by kernel_rfl) ?_) | (go_step; (first | (refine wp_region_inz 11 9 rfl rfl (steady_extract rfl) (by kernel_rfl) (by decide) HMIX.out (by decide) (by kernel_rfl) (by kernel_rfl) ?_) | (go_step; (first | (refine wp_region_inz 11 9 rfl rfl (steady_extract rfl) (by kernel_rfl) (by decide) HMIX.out (by decide) (by kernel_rfl) (by kernel_rfl) ?_) | (go_step; (refine wp_region_inz 11 9 rfl rfl (steady_extract rfl) (by kernel_rfl) (by decide) HMIX.out (by decide) (by kernel_rfl) (by kernel_rfl) ?_)))))))))))))))
  refine inw_pure (v := .pointer (some ⟨b7, 0, none⟩)) (fun W => run_field_of rfl rfl (fa_R0 b7 W)) rfl rfl ?_; simp only [Act.put, List.setIfInBounds_toArray, List.set_cons_zero, List.set_cons_succ]
  refine inw_part hM19 0 (v := numV jR) (sub := elR jR) rfl rfl rfl rfl rfl rowNu rfl rfl ?_; simp only [Act.put, List.setIfInBounds_toArray, List.set_cons_zero, List.set_cons_succ]
  refine inw_callV (args := #[numV jR]) (v := numV jR) (fun W => run_call_fn W (enters_of Try.func8 rfl rfl) rfl (by simp [Act.eval])) (fun W _ => el'2 jR jR_lt W) rfl rfl ?_; simp only [Act.put, List.setIfInBounds_toArray, List.set_cons_zero, List.set_cons_succ]
  refine inw_pure (v := .pointer (some ⟨b7, 4, none⟩)) (fun W => run_field_of rfl rfl (fa_R1 b7 W)) rfl rfl ?_; simp only [Act.put, List.setIfInBounds_toArray, List.set_cons_zero, List.set_cons_succ]
  refine inw_part hM19 0 (v := numV 0) (sub := elR 0) rfl rfl rfl rfl rfl rowNu rfl rfl ?_; simp only [Act.put, List.setIfInBounds_toArray, List.set_cons_zero, List.set_cons_succ]
  refine inw_callV (args := #[numV 0]) (v := numV 0) (fun W => run_call_fn W (enters_of Try.func8 rfl rfl) rfl (by simp [Act.eval])) (fun W _ => el'2 0 zero_below W) rfl rfl ?_; simp only [Act.put, List.setIfInBounds_toArray, List.set_cons_zero, List.set_cons_succ]
  refine inw_callV (args := #[numV jR, numV 0]) (v := .tuple #[pv4 (at4 (((fz jR, fz 0) : Pt))), .int .i64 0]) (fun W => run_call_fn W (enters_of Try.func7 rfl rfl) rfl (by simp [Act.eval])) (fun W _ => make_pt ((fz jR, fz 0) : Pt) on_low3 jR 0 (fzv jR_lt) (fzv zero_below) W) rfl rfl ?_; simp only [Act.put, List.setIfInBounds_toArray, List.set_cons_zero, List.set_cons_succ]
  refine inw_pure (v := .tuple #[pv4 (at4 (((fz jR, fz 0) : Pt))), .int .i64 0]) (fun _ => rfl) rfl rfl ?_; simp only [Act.put, List.setIfInBounds_toArray, List.set_cons_zero, List.set_cons_succ]
  refine inw_pure (v := pv4 (at4 (((fz jR, fz 0) : Pt)))) (fun _ => rfl) rfl rfl ?_; simp only [Act.put, List.setIfInBounds_toArray, List.set_cons_zero, List.set_cons_succ]
  refine inw_pure (v := .int .i64 0) (fun _ => rfl) rfl rfl ?_; simp only [Act.put, List.setIfInBounds_toArray, List.set_cons_zero, List.set_cons_succ]
  refine inw_new (.cells z16 31 (0, 0)) rfl rfl (fun A W => run_alloc_of rfl (al_Pt W)) ?_; simp only [List.nil_append, List.cons_append]
  refine inw_fin fun d os => ?_
  refine given_new (t := 10) rfl fun b8 lb8 gb8 => ?_
  refine given_nil fun hap => ?_
  simp only [Act.put, List.setIfInBounds_toArray, List.set_cons_zero, List.set_cons_succ] at hap ⊢
  have hM20 := hM19.news1 (below_regrown W19 d os) lb8 gb8 
  clear hap lb8 gb8
  generalize grow (redrawn W19 d) os = W20 at hM20 ⊢
  change wpAny _ _ _ _ 2 _ _ _
  refine any_set (n := 11) (by kernel_rfl) rfl hM20 0 (cs := ((pc4 (at4 (((fz jR, fz 0) : Pt)))))) rfl rfl rfl rfl rowPt rfl (one_p4 _) rfl rfl fun W21 hM21 => ?_
  simp only [List.set_cons_zero, List.set_cons_succ] at hM21
  refine any_pure (n := 12) (v := .int .i64 0) (by kernel_rfl) rfl (fun _ => rfl) rfl rfl ?_
  simp only [Act.put, List.setIfInBounds_toArray, List.set_cons_zero, List.set_cons_succ]
  refine wpAny_done (by kernel_rfl) ?_ _
  refine NoPanic.normal ?_
  have hMd := hM21.drew
  (first | (refine wp_region_noPanic (wp_region_held_drew HMIX.out (S := fun w1 => w1.heap[b8]? = some (.cells ((pc4 (at4 (((fz jR, fz 0) : Pt))))) 31 (0, 0)) ∧ w1.heap[b7]? = some (.cells ((rpL jR 0 1).toArray) 41 (0, 0))) (⟨hMd.get 0 rfl, hMd.get 1 rfl⟩) fun hS => ?_)) | (go_step; (first | (refine wp_region_noPanic (wp_region_held_drew HMIX.out (S := fun w1 => w1.heap[b8]? = some (.cells ((pc4 (at4 (((fz jR, fz 0) : Pt))))) 31 (0, 0)) ∧ w1.heap[b7]? = some (.cells ((rpL jR 0 1).toArray) 41 (0, 0))) (⟨hMd.get 0 rfl, hMd.get 1 rfl⟩) fun hS => ?_)) | (go_step; (first | (refine wp_region_noPanic (wp_region_held_drew HMIX.out (S := fun w1 => w1.heap[b8]? = some (.cells ((pc4 (at4 (((fz jR, fz 0) : Pt))))) 31 (0, 0)) ∧ w1.heap[b7]? = some (.cells ((rpL jR 0 1).toArray) 41 (0, 0))) (⟨hMd.get 0 rfl, hMd.get 1 rfl⟩) fun hS => ?_)) | (go_step; (first | (refine wp_region_noPanic (wp_region_held_drew HMIX.out (S := fun w1 => w1.heap[b8]? = some (.cells ((pc4 (at4 (((fz jR, fz 0) : Pt))))) 31 (0, 0)) ∧ w1.heap[b7]? = some (.cells ((rpL jR 0 1).toArray) 41 (0, 0))) (⟨hMd.get 0 rfl, hMd.get 1 rfl⟩) fun hS => ?_)) | (go_step; (first | (refine wp_region_noPanic (wp_region_held_drew HMIX.out (S := fun w1 => w1.heap[b8]? = some (.cells ((pc4 (at4 (((fz jR, fz 0) : Pt))))) 31 (0, 0)) ∧ w1.heap[b7]? = some (.cells ((rpL jR 0 1).toArray) 41 (0, 0))) (⟨hMd.get 0 rfl, hMd.get 1 rfl⟩) fun hS => ?_)) | (go_step; (first | (refine wp_region_noPanic (wp_region_held_drew HMIX.out (S := fun w1 => w1.heap[b8]? = some (.cells ((pc4 (at4 (((fz jR, fz 0) : Pt))))) 31 (0, 0)) ∧ w1.heap[b7]? = some (.cells ((rpL jR 0 1).toArray) 41 (0, 0))) (⟨hMd.get 0 rfl, hMd.get 1 rfl⟩) fun hS => ?_)) | (go_step; (first | (refine wp_region_noPanic (wp_region_held_drew HMIX.out (S := fun w1 => w1.heap[b8]? = some (.cells ((pc4 (at4 (((fz jR, fz 0) : Pt))))) 31 (0, 0)) ∧ w1.heap[b7]? = some (.cells ((rpL jR 0 1).toArray) 41 (0, 0))) (⟨hMd.get 0 rfl, hMd.get 1 rfl⟩) fun hS => ?_)) | (go_step; (refine wp_region_noPanic (wp_region_held_drew HMIX.out (S := fun w1 => w1.heap[b8]? = some (.cells ((pc4 (at4 (((fz jR, fz 0) : Pt))))) 31 (0, 0)) ∧ w1.heap[b7]? = some (.cells ((rpL jR 0 1).toArray) 41 (0, 0))) (⟨hMd.get 0 rfl, hMd.get 1 rfl⟩) fun hS => ?_))))))))))))))))
  change wpAnyH _ _ _ _ _ 4 _ _ _
  generalize W21.drew = W22 at hMd hS ⊢
  have hM22 := hMd
  clear hMd
  refine hd_row 0 52 #[true, false, false, false] (by kernel_rfl) (v := pv4 (at4 (((fz jR, fz 0) : Pt)))) (cs := ((pc4 (at4 (((fz jR, fz 0) : Pt)))))) (b := b8) rfl rfl rfl rfl (fun W hW => hW.1) rfl rowPt (by kernel_rfl) (by kernel_rfl) (by kernel_rfl) rfl hS ?_
  simp only [Act.put, List.setIfInBounds_toArray, List.set_cons_zero, List.set_cons_succ]
  refine hd_row 1 53 #[true, true, false, false] (by kernel_rfl) (v := pv3 ((jR, 0, 1))) (cs := ((rpL jR 0 1).toArray)) (b := b7) rfl rfl rfl rfl (fun W hW => hW.2) rfl rowRp (by kernel_rfl) (by kernel_rfl) (by kernel_rfl) rfl hS ?_
  simp only [Act.put, List.setIfInBounds_toArray, List.set_cons_zero, List.set_cons_succ]
  refine hd_set (n := 2) #[true, true, true, false] (by kernel_rfl) (by kernel_rfl) rfl hM22 7 (cs := ((pc4 (at4 (((fz jR, fz 0) : Pt)))))) rfl rfl rfl rfl rowPt rfl (one_p4 _) rfl rfl (fun W hW => ⟨hW.get 0 rfl, hW.get 1 rfl⟩) fun W23 hM23 => ?_
  simp only [List.set_cons_zero, List.set_cons_succ] at hM23
  refine hd_set (n := 3) #[true, true, true, true] (by kernel_rfl) (by kernel_rfl) rfl hM23 6 (cs := ((rpL jR 0 1).toArray)) rfl rfl rfl rfl rowRp rfl (one_rp _ _ _) rfl rfl (fun W hW => ⟨hW.get 0 rfl, hW.get 1 rfl⟩) fun W24 hM24 => ?_
  simp only [List.set_cons_zero, List.set_cons_succ] at hM24
  refine wpAnyH_done (by kernel_rfl) ?_ _
  refine NoPanic.normal ?_
  (first | (refine bodyPost_ret (v := .tuple #[pv4 (at4 (((fz jR, fz 0) : Pt))), pv3 ((jR, 0, 1))]) (results_arr2 Try.results22 rfl rfl (hM24.load 7 rfl rowPt) (hM24.load 6 rfl rowRp)) rfl ⟨?_, hM24.below⟩) | (go_step; (first | (refine bodyPost_ret (v := .tuple #[pv4 (at4 (((fz jR, fz 0) : Pt))), pv3 ((jR, 0, 1))]) (results_arr2 Try.results22 rfl rfl (hM24.load 7 rfl rowPt) (hM24.load 6 rfl rowRp)) rfl ⟨?_, hM24.below⟩) | (go_step; (first | (refine bodyPost_ret (v := .tuple #[pv4 (at4 (((fz jR, fz 0) : Pt))), pv3 ((jR, 0, 1))]) (results_arr2 Try.results22 rfl rfl (hM24.load 7 rfl rowPt) (hM24.load 6 rfl rowRp)) rfl ⟨?_, hM24.below⟩) | (go_step; (first | (refine bodyPost_ret (v := .tuple #[pv4 (at4 (((fz jR, fz 0) : Pt))), pv3 ((jR, 0, 1))]) (results_arr2 Try.results22 rfl rfl (hM24.load 7 rfl rowPt) (hM24.load 6 rfl rowRp)) rfl ⟨?_, hM24.below⟩) | (go_step; (first | (refine bodyPost_ret (v := .tuple #[pv4 (at4 (((fz jR, fz 0) : Pt))), pv3 ((jR, 0, 1))]) (results_arr2 Try.results22 rfl rfl (hM24.load 7 rfl rowPt) (hM24.load 6 rfl rowRp)) rfl ⟨?_, hM24.below⟩) | (go_step; (first | (refine bodyPost_ret (v := .tuple #[pv4 (at4 (((fz jR, fz 0) : Pt))), pv3 ((jR, 0, 1))]) (results_arr2 Try.results22 rfl rfl (hM24.load 7 rfl rowPt) (hM24.load 6 rfl rowRp)) rfl ⟨?_, hM24.below⟩) | (go_step; (first | (refine bodyPost_ret (v := .tuple #[pv4 (at4 (((fz jR, fz 0) : Pt))), pv3 ((jR, 0, 1))]) (results_arr2 Try.results22 rfl rfl (hM24.load 7 rfl rowPt) (hM24.load 6 rfl rowRp)) rfl ⟨?_, hM24.below⟩) | (go_step; (refine bodyPost_ret (v := .tuple #[pv4 (at4 (((fz jR, fz 0) : Pt))), pv3 ((jR, 0, 1))]) (results_arr2 Try.results22 rfl rfl (hM24.load 7 rfl rowPt) (hM24.load 6 rfl rowRp)) rfl ⟨?_, hM24.below⟩)))))))))))))))
  exact rfl
theorem low_any (k : Nat) : ∃ (a : N4) (b : N3) (p : Pt), Ok4 a p ∧ Ok3 b p ∧ ∀ w, Calls Try.prog 22 #[.int .u8 (k : Int)] w fun E w' => E = .returned (.tuple #[pv4 a, pv3 b]) ∧ Below w.heap.size w w' := by
  have h4 : k % 4 = 0 ∨ k % 4 = 1 ∨ k % 4 = 2 ∨ k % 4 = 3 := by omega
  rcases h4 with h | h | h | h
  · exact ⟨_, _, _, ok4_p _ on_low0, ok3_at 0 1 zero_below one_below on_low0, low0 k h⟩
  · exact ⟨_, _, _, ok4_p _ on_low1, ok3_at 0 mN zero_below mN_lt on_low1, low1 k h⟩
  · exact ⟨_, _, _, ok4_p _ on_low2, ok3_at iR 0 iR_lt zero_below on_low2, low2 k h⟩
  · exact ⟨_, _, _, ok4_p _ on_low3, ok3_at jR 0 jR_lt zero_below on_low3, low3 k h⟩
theorem not11 : ¬ On (fz 1, fz 1) := fun h => absurd ((makeB_on 1 1).2 h) (by decide +kernel)
theorem zeroAdd (p : Pt) (hp : On p) : addE zeroE p = p := by rw [add_comm']; exact add_zero' p hp
theorem same_yes {a b : N4} {p q : Pt} (ha : Ok4 a p) (hb : Ok4 b q) (h : p = q) (w : World) : Calls Try.prog 10 #[pv4 a, pv4 b] w fun E w' => E = .returned (.bool true) ∧ Below w.heap.size w w' := by
  have hc := samep4 ha hb w
  rw [decide_eq_true h] at hc
  exact hc
theorem same_no {a b : N4} {p q : Pt} (ha : Ok4 a p) (hb : Ok4 b q) (h : p ≠ q) (w : World) : Calls Try.prog 10 #[pv4 a, pv4 b] w fun E w' => E = .returned (.bool false) ∧ Below w.heap.size w w' := by
  have hc := samep4 ha hb w
  rw [decide_eq_false h] at hc
  exact hc
theorem back_zero (p : Pt) (hp : On p) : addE (addE zeroE p) (negE p) = zeroE := by rw [zeroAdd p hp, add_neg' p hp]
set_option maxRecDepth 20000 in
set_option maxHeartbeats 8000000 in
theorem lives_any (w : World) : Calls Try.prog 21 #[] w fun E w' => E = .returned (.bool true) ∧ Below w.heap.size w w' := by
  have HMIX := Lib.hid (show Try.prog.follows .mixedOrders = true by kernel_rfl)
  go_enter Try.func21, Try.ntmps21
  have hM0 := Mem.start w
  (first | (refine wp_region_lit ?_) | (go_step; (first | (refine wp_region_lit ?_) | (go_step; (first | (refine wp_region_lit ?_) | (go_step; (first | (refine wp_region_lit ?_) | (go_step; (first | (refine wp_region_lit ?_) | (go_step; (first | (refine wp_region_lit ?_) | (go_step; (first | (refine wp_region_lit ?_) | (go_step; (refine wp_region_lit ?_)))))))))))))))
  refine wl_pure (v := .bool false) (fun _ => rfl) rfl ?_
  simp only [Act.put, List.setIfInBounds_toArray, List.set_cons_zero, List.set_cons_succ]
  refine wpList_nil ?_
  (first | (refine wp_region_lit ?_) | (go_step; (first | (refine wp_region_lit ?_) | (go_step; (first | (refine wp_region_lit ?_) | (go_step; (first | (refine wp_region_lit ?_) | (go_step; (first | (refine wp_region_lit ?_) | (go_step; (first | (refine wp_region_lit ?_) | (go_step; (first | (refine wp_region_lit ?_) | (go_step; (refine wp_region_lit ?_)))))))))))))))
  refine wl_call hM0 (args := #[.int .u64 0]) (v := numV 0) (fun W => run_call_fn W (enters_of Try.func33 rfl rfl) rfl (by simp [Act.eval])) (psmall_any_ 0 (by decide) w) rfl fun W1 hM1 => ?_
  simp only [Act.put, List.setIfInBounds_toArray, List.set_cons_zero, List.set_cons_succ]
  refine wl_call hM1 (args := #[.int .u64 1]) (v := numV 1) (fun W => run_call_fn W (enters_of Try.func33 rfl rfl) rfl (by simp [Act.eval])) (psmall_any_ 1 (by decide) W1) rfl fun W2 hM2 => ?_
  simp only [Act.put, List.setIfInBounds_toArray, List.set_cons_zero, List.set_cons_succ]
  refine wl_new hM2 (f := fun b => .pointer (some ⟨b, 0, none⟩)) (ob := .cells z4 28 (0, 0)) (fun W => run_alloc_of rfl (al_El W)) rfl fun b1 W3 hM3 => ?_
  simp only [Act.put, List.setIfInBounds_toArray, List.set_cons_zero, List.set_cons_succ]
  refine wl_new hM3 (f := fun b => .pointer (some ⟨b, 0, none⟩)) (ob := .cells z4 28 (0, 0)) (fun W => run_alloc_of rfl (al_El W)) rfl fun b2 W4 hM4 => ?_
  simp only [Act.put, List.setIfInBounds_toArray, List.set_cons_zero, List.set_cons_succ]
  refine wl_set hM4 1 (cs := (elR 0)) rfl rfl rfl rfl rowEl rfl (one_el 0) rfl rfl fun W5 hM5 => ?_
  simp only [List.set_cons_zero, List.set_cons_succ] at hM5
  refine wl_set hM5 0 (cs := (elR 1)) rfl rfl rfl rfl rowEl rfl (one_el 1) rfl rfl fun W6 hM6 => ?_
  simp only [List.set_cons_zero, List.set_cons_succ] at hM6
  refine wpList_nil ?_
  (first | (refine wp_region_lit ?_) | (go_step; (first | (refine wp_region_lit ?_) | (go_step; (first | (refine wp_region_lit ?_) | (go_step; (first | (refine wp_region_lit ?_) | (go_step; (first | (refine wp_region_lit ?_) | (go_step; (first | (refine wp_region_lit ?_) | (go_step; (first | (refine wp_region_lit ?_) | (go_step; (refine wp_region_lit ?_)))))))))))))))
  refine wl_row hM6 1 (v := numV 0) rfl rfl rfl rfl rowEl rfl ?_
  simp only [Act.put, List.setIfInBounds_toArray, List.set_cons_zero, List.set_cons_succ]
  refine wl_row hM6 0 (v := numV 1) rfl rfl rfl rfl rowEl rfl ?_
  simp only [Act.put, List.setIfInBounds_toArray, List.set_cons_zero, List.set_cons_succ]
  refine wl_call hM6 (args := #[numV 0, numV 1]) (v := .tuple #[pv4 (at4 zeroE), .int .i64 0]) (fun W => run_call_fn W (enters_of Try.func7 rfl rfl) rfl (by simp [Act.eval])) (make_pt zeroE on_zero 0 1 rfl rfl W6) rfl fun W7 hM7 => ?_
  simp only [Act.put, List.setIfInBounds_toArray, List.set_cons_zero, List.set_cons_succ]
  refine wl_pure (v := .tuple #[pv4 (at4 zeroE), .int .i64 0]) (fun _ => rfl) rfl ?_
  simp only [Act.put, List.setIfInBounds_toArray, List.set_cons_zero, List.set_cons_succ]
  refine wl_pure (v := pv4 (at4 zeroE)) (fun _ => rfl) rfl ?_
  simp only [Act.put, List.setIfInBounds_toArray, List.set_cons_zero, List.set_cons_succ]
  refine wl_pure (v := .int .i64 0) (fun _ => rfl) rfl ?_
  simp only [Act.put, List.setIfInBounds_toArray, List.set_cons_zero, List.set_cons_succ]
  refine wl_new hM7 (f := fun b => .pointer (some ⟨b, 0, none⟩)) (ob := .cells z16 31 (0, 0)) (fun W => run_alloc_of rfl (al_Pt W)) rfl fun b3 W8 hM8 => ?_
  simp only [Act.put, List.setIfInBounds_toArray, List.set_cons_zero, List.set_cons_succ]
  refine wl_set hM8 0 (cs := ((pc4 (at4 zeroE)))) rfl rfl rfl rfl rowPt rfl (one_p4 _) rfl rfl fun W9 hM9 => ?_
  simp only [List.set_cons_zero, List.set_cons_succ] at hM9
  refine wl_pure (v := .int .i64 0) (fun _ => rfl) rfl ?_
  simp only [Act.put, List.setIfInBounds_toArray, List.set_cons_zero, List.set_cons_succ]
  refine wpList_nil ?_
  (first | (refine wp_region_lit ?_) | (go_step; (first | (refine wp_region_lit ?_) | (go_step; (first | (refine wp_region_lit ?_) | (go_step; (first | (refine wp_region_lit ?_) | (go_step; (first | (refine wp_region_lit ?_) | (go_step; (first | (refine wp_region_lit ?_) | (go_step; (first | (refine wp_region_lit ?_) | (go_step; (refine wp_region_lit ?_)))))))))))))))
  refine wl_row hM9 1 (v := numV 1) rfl rfl rfl rfl rowEl rfl ?_
  simp only [Act.put, List.setIfInBounds_toArray, List.set_cons_zero, List.set_cons_succ]
  refine wl_row hM9 1 (v := numV 1) rfl rfl rfl rfl rowEl rfl ?_
  simp only [Act.put, List.setIfInBounds_toArray, List.set_cons_zero, List.set_cons_succ]
  refine wl_call hM9 (args := #[numV 1, numV 1]) (v := .tuple #[pv4 zero4, .int .i64 22]) (fun W => run_call_fn W (enters_of Try.func7 rfl rfl) rfl (by simp [Act.eval])) (make_no 1 1 one_below one_below not11 W9) rfl fun W10 hM10 => ?_
  simp only [Act.put, List.setIfInBounds_toArray, List.set_cons_zero, List.set_cons_succ]
  refine wl_pure (v := .tuple #[pv4 zero4, .int .i64 22]) (fun _ => rfl) rfl ?_
  simp only [Act.put, List.setIfInBounds_toArray, List.set_cons_zero, List.set_cons_succ]
  refine wl_pure (v := pv4 zero4) (fun _ => rfl) rfl ?_
  simp only [Act.put, List.setIfInBounds_toArray, List.set_cons_zero, List.set_cons_succ]
  refine wl_pure (v := .int .i64 22) (fun _ => rfl) rfl ?_
  simp only [Act.put, List.setIfInBounds_toArray, List.set_cons_zero, List.set_cons_succ]
  refine wl_new hM10 (f := fun b => .pointer (some ⟨b, 0, none⟩)) (ob := .cells z16 31 (0, 0)) (fun W => run_alloc_of rfl (al_Pt W)) rfl fun b4 W11 hM11 => ?_
  simp only [Act.put, List.setIfInBounds_toArray, List.set_cons_zero, List.set_cons_succ]
  refine wl_set hM11 0 (cs := ((pc4 zero4))) rfl rfl rfl rfl rowPt rfl (one_p4 _) rfl rfl fun W12 hM12 => ?_
  simp only [List.set_cons_zero, List.set_cons_succ] at hM12
  refine wl_pure (v := .int .i64 22) (fun _ => rfl) rfl ?_
  simp only [Act.put, List.setIfInBounds_toArray, List.set_cons_zero, List.set_cons_succ]
  refine wpList_nil ?_
  (first | (refine wp_region_lit ?_) | (go_step; (first | (refine wp_region_lit ?_) | (go_step; (first | (refine wp_region_lit ?_) | (go_step; (first | (refine wp_region_lit ?_) | (go_step; (first | (refine wp_region_lit ?_) | (go_step; (first | (refine wp_region_lit ?_) | (go_step; (first | (refine wp_region_lit ?_) | (go_step; (refine wp_region_lit ?_)))))))))))))))
  refine wl_call hM12 (args := #[]) (v := pv4 base4) (fun W => run_call_fn W (enters_of Try.func15 rfl rfl) rfl (by simp [Act.eval])) (base4_any W12) rfl fun W13 hM13 => ?_
  simp only [Act.put, List.setIfInBounds_toArray, List.set_cons_zero, List.set_cons_succ]
  refine wl_new hM13 (f := fun b => .pointer (some ⟨b, 0, none⟩)) (ob := .cells z16 31 (0, 0)) (fun W => run_alloc_of rfl (al_Pt W)) rfl fun b5 W14 hM14 => ?_
  simp only [Act.put, List.setIfInBounds_toArray, List.set_cons_zero, List.set_cons_succ]
  refine wl_set hM14 0 (cs := ((pc4 base4))) rfl rfl rfl rfl rowPt rfl (one_p4 _) rfl rfl fun W15 hM15 => ?_
  simp only [List.set_cons_zero, List.set_cons_succ] at hM15
  refine wpList_nil ?_
  (first | (refine wp_region_inw 27 HMIX.out (by decide) (by kernel_rfl) (by kernel_rfl) ?_) | (go_step; (first | (refine wp_region_inw 27 HMIX.out (by decide) (by kernel_rfl) (by kernel_rfl) ?_) | (go_step; (first | (refine wp_region_inw 27 HMIX.out (by decide) (by kernel_rfl) (by kernel_rfl) ?_) | (go_step; (first | (refine wp_region_inw 27 HMIX.out (by decide) (by kernel_rfl) (by kernel_rfl) ?_) | (go_step; (first | (refine wp_region_inw 27 HMIX.out (by decide) (by kernel_rfl) (by kernel_rfl) ?_) | (go_step; (first | (refine wp_region_inw 27 HMIX.out (by decide) (by kernel_rfl) (by kernel_rfl) ?_) | (go_step; (first | (refine wp_region_inw 27 HMIX.out (by decide) (by kernel_rfl) (by kernel_rfl) ?_) | (go_step; (refine wp_region_inw 27 HMIX.out (by decide) (by kernel_rfl) (by kernel_rfl) ?_)))))))))))))))
  refine inw_row hM15 2 (v := pv4 (at4 zeroE)) rfl rfl rfl rfl rowPt rfl rfl ?_; simp only [Act.put, List.setIfInBounds_toArray, List.set_cons_zero, List.set_cons_succ]
  refine inw_callV (args := #[]) (v := pv4 zero4) (fun W => run_call_fn W (enters_of Try.func11 rfl rfl) rfl (by simp [Act.eval])) (fun W _ => zero4_any W) rfl rfl ?_; simp only [Act.put, List.setIfInBounds_toArray, List.set_cons_zero, List.set_cons_succ]
  refine inw_callV (args := #[pv4 (at4 zeroE), pv4 zero4]) (v := .bool true) (fun W => run_call_fn W (enters_of Try.func10 rfl rfl) rfl (by simp [Act.eval])) (fun W _ => same_yes (ok4_p _ on_zero) ok4_zero rfl W) rfl rfl ?_; simp only [Act.put, List.setIfInBounds_toArray, List.set_cons_zero, List.set_cons_succ]
  refine inw_pure (v := .bool true) (fun _ => rfl) rfl rfl ?_; simp only [Act.put, List.setIfInBounds_toArray, List.set_cons_zero, List.set_cons_succ]
  refine inw_pure (v := .int .i64 0) (fun _ => rfl) rfl rfl ?_; simp only [Act.put, List.setIfInBounds_toArray, List.set_cons_zero, List.set_cons_succ]
  refine inw_pure (v := .bool true) (fun W => run_eqint_of W rfl rfl rfl rfl) rfl rfl ?_; simp only [Act.put, List.setIfInBounds_toArray, List.set_cons_zero, List.set_cons_succ]
  refine inw_pure (v := .bool true) (fun _ => rfl) rfl rfl ?_; simp only [Act.put, List.setIfInBounds_toArray, List.set_cons_zero, List.set_cons_succ]
  refine inw_pure (v := .bool true) (fun _ => rfl) rfl rfl ?_; simp only [Act.put, List.setIfInBounds_toArray, List.set_cons_zero, List.set_cons_succ]
  refine inw_pure (v := .int .i64 22) (fun _ => rfl) rfl rfl ?_; simp only [Act.put, List.setIfInBounds_toArray, List.set_cons_zero, List.set_cons_succ]
  refine inw_pure (v := .bool true) (fun W => run_eqint_of W rfl rfl rfl rfl) rfl rfl ?_; simp only [Act.put, List.setIfInBounds_toArray, List.set_cons_zero, List.set_cons_succ]
  refine inw_pure (v := .bool true) (fun _ => rfl) rfl rfl ?_; simp only [Act.put, List.setIfInBounds_toArray, List.set_cons_zero, List.set_cons_succ]
  refine inw_pure (v := .bool true) (fun _ => rfl) rfl rfl ?_; simp only [Act.put, List.setIfInBounds_toArray, List.set_cons_zero, List.set_cons_succ]
  refine inw_row hM15 0 (v := pv4 base4) rfl rfl rfl rfl rowPt rfl rfl ?_; simp only [Act.put, List.setIfInBounds_toArray, List.set_cons_zero, List.set_cons_succ]
  refine inw_row hM15 0 (v := pv4 base4) rfl rfl rfl rfl rowPt rfl rfl ?_; simp only [Act.put, List.setIfInBounds_toArray, List.set_cons_zero, List.set_cons_succ]
  refine inw_callV (args := #[pv4 base4]) (v := pv4 (neg4 base4)) (fun W => run_call_fn W (enters_of Try.func26 rfl rfl) rfl (by simp [Act.eval])) (fun W _ => negp4 ok4_base W) rfl rfl ?_; simp only [Act.put, List.setIfInBounds_toArray, List.set_cons_zero, List.set_cons_succ]
  refine inw_slice (n := 2) (L := (pl4 base4 ++ pl4 (neg4 base4)).toArray) (T := 31) (fun W => run_slice_of rfl (by simp [Act.eval]) (bsP2 base4 (neg4 base4) W)) rfl rfl ?_; simp only [List.nil_append, List.cons_append]
  obtain ⟨r1, er1⟩ : ∃ x, x = (add4 (add4 zero4 base4) (neg4 base4)) := ⟨_, rfl⟩
  have or1 := (ok4_add (ok4_add ok4_zero ok4_base) (ok4_neg ok4_base))
  rw [← er1] at or1
  have Kr1 := Lib.hid (addl2 ok4_base (ok4_neg ok4_base))
  simp only [← er1] at Kr1
  refine inw_callS 15 38 (v := pv4 r1) rfl rfl (fun _ => rfl) (fun b W => run_call_fn W (enters_of Try.func23 rfl rfl) rfl (by simp [Act.eval, Act.put])) (fun b W h => Kr1.out b W h) ?_; simp only [Act.put, List.setIfInBounds_toArray, List.set_cons_zero, List.set_cons_succ]
  refine inw_callV (args := #[]) (v := pv4 zero4) (fun W => run_call_fn W (enters_of Try.func11 rfl rfl) rfl (by simp [Act.eval])) (fun W _ => zero4_any W) rfl rfl ?_; simp only [Act.put, List.setIfInBounds_toArray, List.set_cons_zero, List.set_cons_succ]
  refine inw_callV (args := #[pv4 r1, pv4 zero4]) (v := .bool true) (fun W => run_call_fn W (enters_of Try.func10 rfl rfl) rfl (by simp [Act.eval])) (fun W _ => same_yes or1 ok4_zero (back_zero baseE on_base) W) rfl rfl ?_; simp only [Act.put, List.setIfInBounds_toArray, List.set_cons_zero, List.set_cons_succ]
  refine inw_pure (v := .bool true) (fun _ => rfl) rfl rfl ?_; simp only [Act.put, List.setIfInBounds_toArray, List.set_cons_zero, List.set_cons_succ]
  refine inw_pure (v := .bool true) (fun _ => rfl) rfl rfl ?_; simp only [Act.put, List.setIfInBounds_toArray, List.set_cons_zero, List.set_cons_succ]
  refine inw_row hM15 0 (v := pv4 base4) rfl rfl rfl rfl rowPt rfl rfl ?_; simp only [Act.put, List.setIfInBounds_toArray, List.set_cons_zero, List.set_cons_succ]
  refine inw_row hM15 2 (v := pv4 (at4 zeroE)) rfl rfl rfl rfl rowPt rfl rfl ?_; simp only [Act.put, List.setIfInBounds_toArray, List.set_cons_zero, List.set_cons_succ]
  refine inw_callV (args := #[pv4 base4, pv4 (at4 zeroE)]) (v := .bool false) (fun W => run_call_fn W (enters_of Try.func10 rfl rfl) rfl (by simp [Act.eval])) (fun W _ => same_no ok4_base (ok4_p _ on_zero) base_not W) rfl rfl ?_; simp only [Act.put, List.setIfInBounds_toArray, List.set_cons_zero, List.set_cons_succ]
  refine inw_pure (v := .bool true) (fun W => run_not_of W rfl rfl rfl) rfl rfl ?_; simp only [Act.put, List.setIfInBounds_toArray, List.set_cons_zero, List.set_cons_succ]
  refine inw_pure (v := .bool true) (fun _ => rfl) rfl rfl ?_; simp only [Act.put, List.setIfInBounds_toArray, List.set_cons_zero, List.set_cons_succ]
  refine inw_pure (v := .bool true) (fun _ => rfl) rfl rfl ?_; simp only [Act.put, List.setIfInBounds_toArray, List.set_cons_zero, List.set_cons_succ]
  refine inw_fin fun d os => ?_
  refine given_mk (t := 38) rfl fun s15 => ?_
  refine given_nil fun hap => ?_
  simp only [Act.put, List.setIfInBounds_toArray, List.set_cons_zero, List.set_cons_succ] at hap ⊢
  have hM16 := hM15.calls (below_regrown W15 d os)
  clear hap 
  generalize grow (redrawn W15 d) os = W16 at hM16 ⊢
  refine wpAny_done (by kernel_rfl) ?_ _
  (first | (refine bodyPost_ret (v := .bool true) (results_slot Try.results21 rfl) rfl ⟨?_, hM16.below⟩) | (go_step; (first | (refine bodyPost_ret (v := .bool true) (results_slot Try.results21 rfl) rfl ⟨?_, hM16.below⟩) | (go_step; (first | (refine bodyPost_ret (v := .bool true) (results_slot Try.results21 rfl) rfl ⟨?_, hM16.below⟩) | (go_step; (first | (refine bodyPost_ret (v := .bool true) (results_slot Try.results21 rfl) rfl ⟨?_, hM16.below⟩) | (go_step; (first | (refine bodyPost_ret (v := .bool true) (results_slot Try.results21 rfl) rfl ⟨?_, hM16.below⟩) | (go_step; (first | (refine bodyPost_ret (v := .bool true) (results_slot Try.results21 rfl) rfl ⟨?_, hM16.below⟩) | (go_step; (first | (refine bodyPost_ret (v := .bool true) (results_slot Try.results21 rfl) rfl ⟨?_, hM16.below⟩) | (go_step; (refine bodyPost_ret (v := .bool true) (results_slot Try.results21 rfl) rfl ⟨?_, hM16.below⟩)))))))))))))))
  exact rfl
open Go.RowKit Go.Sort
theorem u32_nat (a : Int) (h : (Lit.int .u32 a).wf = true) : ∃ k : Nat, a = (k : Int) ∧ k < 4294967296 := by
  have ha : 0 ≤ a ∧ a ≤ 4294967295 := by simpa [Lit.wf, IntKind.min, IntKind.max, IntKind.signed, IntKind.bits] using h
  exact ⟨a.toNat, by omega, by omega⟩
theorem u8_nat (a : Int) (h : (Lit.int .u8 a).wf = true) : ∃ k : Nat, a = (k : Int) ∧ k < 256 := by
  have ha : 0 ≤ a ∧ a ≤ 255 := by simpa [Lit.wf, IntKind.min, IntKind.max, IntKind.signed, IntKind.bits] using h
  exact ⟨a.toNat, by omega, by omega⟩
/-- A multiple of the base, both ways. -/
theorem both_ex (k : Nat) (hk : k < 4294967296) : ∃ (a : N4) (b : N3), Ok4 a (timesE k baseE) ∧ Ok3 b (timesE k baseE) ∧ ∀ w, Calls Try.prog 14 #[.int .u32 (k : Int)] w fun E w' => E = .returned (.tuple #[pv4 a, pv3 b]) ∧ Below w.heap.size w w' :=
  ⟨_, _, ok4_p _ (on_times baseE on_base k), ok3_times ok3_base k (Nat.lt_of_lt_of_le hk (by decide +kernel)), both_any k hk⟩
theorem rptadd3 {a b : N3} {p q : Pt} (ha : Ok3 a p) (hb : Ok3 b q) (w : World) : Calls Try.prog 24 #[pv3 a, pv3 b, numV dN] w fun E w' => E = .returned (pv3 (add3 a b)) ∧ Below w.heap.size w w' := add3_any a b w ha.is hb.is
theorem rneg3 {a : N3} {p : Pt} (ha : Ok3 a p) (w : World) : Calls Try.prog 27 #[pv3 a] w fun E w' => E = .returned (pv3 (neg3 a)) ∧ Below w.heap.size w w' := rneg_any _ _ _ ha.is.1 ha.is.2.1 ha.is.2.2 w
theorem is_eq {a : N4} {b : N3} {p q : Pt} (ha : Ok4 a p) (hb : Ok3 b q) (h : p = q) (w : World) : Calls Try.prog 12 #[pv4 a, pv3 b] w fun E w' => E = .returned (.bool true) ∧ Below w.heap.size w w' := by
  subst h
  exact is_yes ha hb w
theorem zz2 (p q : Pt) (hp : On p) (hq : On q) : addE (addE zeroE p) q = addE p q := by rw [zeroAdd p hp]
theorem zz3 (p q r : Pt) (hp : On p) (hq : On q) (hr : On r) : addE (addE zeroE (addE (addE zeroE p) q)) r = addE (addE p q) r := by rw [zz2 p q hp hq, zeroAdd _ (on_add p q hp hq)]
theorem zz4 (p q : Pt) (hp : On p) (hq : On q) : addE (addE (addE zeroE p) q) (addE (addE zeroE p) q) = addE (addE p q) (addE p q) := by rw [zz2 p q hp hq]
theorem zz5 (p q : Pt) (hp : On p) (hq : On q) : negE (addE (addE zeroE p) q) = negE (addE p q) := by rw [zz2 p q hp hq]
theorem zz6 (p q r : Pt) (hp : On p) (hq : On q) (hr : On r) : addE (addE (addE zeroE (addE (addE zeroE p) q)) r) (addE (addE zeroE p) q) = addE (addE (addE p q) r) (addE p q) := by rw [zz3 p q r hp hq hr, zz2 p q hp hq]
set_option maxRecDepth 20000 in
set_option maxHeartbeats 8000000 in
theorem curveAdds_walk (k0 l0 m0 : Int) (w : World) (wk : (Lit.int .u32 k0).wf = true) (wl : (Lit.int .u32 l0).wf = true) (wm : (Lit.int .u8 m0).wf = true) : Calls Try.prog 4 #[.int .u32 k0, .int .u32 l0, .int .u8 m0] w fun e w' => e = .returned (.bool true) ∧ Below w.heap.size w w' := by
  obtain ⟨k, rfl, hk⟩ := u32_nat k0 wk
  obtain ⟨l, rfl, hl⟩ := u32_nat l0 wl
  obtain ⟨m, rfl, hm⟩ := u8_nat m0 wm
  clear wk wl wm
  obtain ⟨ak, bk, hak, hbk, Kbk⟩ := both_ex k hk
  have Kbk := Lib.hid Kbk
  obtain ⟨al, bl, hal, hbl, Kbl⟩ := both_ex l hl
  have Kbl := Lib.hid Kbl
  obtain ⟨am, bm, pm, ham, hbm, Kbm⟩ := low_any m
  have Kbm := Lib.hid Kbm
  obtain ⟨pk, epk⟩ : ∃ p, p = timesE k baseE := ⟨_, rfl⟩
  obtain ⟨pl, epl⟩ : ∃ p, p = timesE l baseE := ⟨_, rfl⟩
  rw [← epk] at hak hbk
  rw [← epl] at hal hbl
  have HMIX := Lib.hid (show Try.prog.follows .mixedOrders = true by kernel_rfl)
  go_enter Try.func4, Try.ntmps4
  have hM0 := Mem.start w
  (first | (refine wp_region_lit ?_) | (go_step; (first | (refine wp_region_lit ?_) | (go_step; (first | (refine wp_region_lit ?_) | (go_step; (first | (refine wp_region_lit ?_) | (go_step; (first | (refine wp_region_lit ?_) | (go_step; (first | (refine wp_region_lit ?_) | (go_step; (first | (refine wp_region_lit ?_) | (go_step; (refine wp_region_lit ?_)))))))))))))))
  refine wl_pure (v := .bool false) (fun _ => rfl) rfl ?_
  simp only [Act.put, List.setIfInBounds_toArray, List.set_cons_zero, List.set_cons_succ]
  refine wpList_nil ?_
  (first | (refine wp_region_lit ?_) | (go_step; (first | (refine wp_region_lit ?_) | (go_step; (first | (refine wp_region_lit ?_) | (go_step; (first | (refine wp_region_lit ?_) | (go_step; (first | (refine wp_region_lit ?_) | (go_step; (first | (refine wp_region_lit ?_) | (go_step; (first | (refine wp_region_lit ?_) | (go_step; (refine wp_region_lit ?_)))))))))))))))
  refine wl_pure (v := .int .u32 (k : Int)) (fun _ => rfl) rfl ?_
  simp only [Act.put, List.setIfInBounds_toArray, List.set_cons_zero, List.set_cons_succ]
  refine wl_call hM0 (args := #[.int .u32 (k : Int)]) (v := .tuple #[pv4 ak, pv3 bk]) (fun W => run_call_fn W (enters_of Try.func14 rfl rfl) rfl (by simp [Act.eval])) (Kbk.out w) rfl fun W1 hM1 => ?_
  simp only [Act.put, List.setIfInBounds_toArray, List.set_cons_zero, List.set_cons_succ]
  refine wl_pure (v := .tuple #[pv4 ak, pv3 bk]) (fun _ => rfl) rfl ?_
  simp only [Act.put, List.setIfInBounds_toArray, List.set_cons_zero, List.set_cons_succ]
  refine wl_pure (v := pv4 ak) (fun _ => rfl) rfl ?_
  simp only [Act.put, List.setIfInBounds_toArray, List.set_cons_zero, List.set_cons_succ]
  refine wl_pure (v := pv3 bk) (fun _ => rfl) rfl ?_
  simp only [Act.put, List.setIfInBounds_toArray, List.set_cons_zero, List.set_cons_succ]
  refine wl_new hM1 (f := fun b => .pointer (some ⟨b, 0, none⟩)) (ob := .cells z16 31 (0, 0)) (fun W => run_alloc_of rfl (al_Pt W)) rfl fun b1 W2 hM2 => ?_
  simp only [Act.put, List.setIfInBounds_toArray, List.set_cons_zero, List.set_cons_succ]
  refine wl_new hM2 (f := fun b => .pointer (some ⟨b, 0, none⟩)) (ob := .cells z12 41 (0, 0)) (fun W => run_alloc_of rfl (al_Rp W)) rfl fun b2 W3 hM3 => ?_
  simp only [Act.put, List.setIfInBounds_toArray, List.set_cons_zero, List.set_cons_succ]
  refine wl_set hM3 1 (cs := ((pc4 ak))) rfl rfl rfl rfl rowPt rfl (one_p4 _) rfl rfl fun W4 hM4 => ?_
  simp only [List.set_cons_zero, List.set_cons_succ] at hM4
  refine wl_set hM4 0 (cs := ((rpL bk.1 bk.2.1 bk.2.2).toArray)) rfl rfl rfl rfl rowRp rfl (one_rp _ _ _) rfl rfl fun W5 hM5 => ?_
  simp only [List.set_cons_zero, List.set_cons_succ] at hM5
  refine wpList_nil ?_
  (first | (refine wp_region_lit ?_) | (go_step; (first | (refine wp_region_lit ?_) | (go_step; (first | (refine wp_region_lit ?_) | (go_step; (first | (refine wp_region_lit ?_) | (go_step; (first | (refine wp_region_lit ?_) | (go_step; (first | (refine wp_region_lit ?_) | (go_step; (first | (refine wp_region_lit ?_) | (go_step; (refine wp_region_lit ?_)))))))))))))))
  refine wl_pure (v := .int .u32 (l : Int)) (fun _ => rfl) rfl ?_
  simp only [Act.put, List.setIfInBounds_toArray, List.set_cons_zero, List.set_cons_succ]
  refine wl_call hM5 (args := #[.int .u32 (l : Int)]) (v := .tuple #[pv4 al, pv3 bl]) (fun W => run_call_fn W (enters_of Try.func14 rfl rfl) rfl (by simp [Act.eval])) (Kbl.out W5) rfl fun W6 hM6 => ?_
  simp only [Act.put, List.setIfInBounds_toArray, List.set_cons_zero, List.set_cons_succ]
  refine wl_pure (v := .tuple #[pv4 al, pv3 bl]) (fun _ => rfl) rfl ?_
  simp only [Act.put, List.setIfInBounds_toArray, List.set_cons_zero, List.set_cons_succ]
  refine wl_pure (v := pv4 al) (fun _ => rfl) rfl ?_
  simp only [Act.put, List.setIfInBounds_toArray, List.set_cons_zero, List.set_cons_succ]
  refine wl_pure (v := pv3 bl) (fun _ => rfl) rfl ?_
  simp only [Act.put, List.setIfInBounds_toArray, List.set_cons_zero, List.set_cons_succ]
  refine wl_new hM6 (f := fun b => .pointer (some ⟨b, 0, none⟩)) (ob := .cells z16 31 (0, 0)) (fun W => run_alloc_of rfl (al_Pt W)) rfl fun b3 W7 hM7 => ?_
  simp only [Act.put, List.setIfInBounds_toArray, List.set_cons_zero, List.set_cons_succ]
  refine wl_new hM7 (f := fun b => .pointer (some ⟨b, 0, none⟩)) (ob := .cells z12 41 (0, 0)) (fun W => run_alloc_of rfl (al_Rp W)) rfl fun b4 W8 hM8 => ?_
  simp only [Act.put, List.setIfInBounds_toArray, List.set_cons_zero, List.set_cons_succ]
  refine wl_set hM8 1 (cs := ((pc4 al))) rfl rfl rfl rfl rowPt rfl (one_p4 _) rfl rfl fun W9 hM9 => ?_
  simp only [List.set_cons_zero, List.set_cons_succ] at hM9
  refine wl_set hM9 0 (cs := ((rpL bl.1 bl.2.1 bl.2.2).toArray)) rfl rfl rfl rfl rowRp rfl (one_rp _ _ _) rfl rfl fun W10 hM10 => ?_
  simp only [List.set_cons_zero, List.set_cons_succ] at hM10
  refine wpList_nil ?_
  (first | (refine wp_region_lit ?_) | (go_step; (first | (refine wp_region_lit ?_) | (go_step; (first | (refine wp_region_lit ?_) | (go_step; (first | (refine wp_region_lit ?_) | (go_step; (first | (refine wp_region_lit ?_) | (go_step; (first | (refine wp_region_lit ?_) | (go_step; (first | (refine wp_region_lit ?_) | (go_step; (refine wp_region_lit ?_)))))))))))))))
  refine wl_pure (v := .int .u8 (m : Int)) (fun _ => rfl) rfl ?_
  simp only [Act.put, List.setIfInBounds_toArray, List.set_cons_zero, List.set_cons_succ]
  refine wl_call hM10 (args := #[.int .u8 (m : Int)]) (v := .tuple #[pv4 am, pv3 bm]) (fun W => run_call_fn W (enters_of Try.func22 rfl rfl) rfl (by simp [Act.eval])) (Kbm.out W10) rfl fun W11 hM11 => ?_
  simp only [Act.put, List.setIfInBounds_toArray, List.set_cons_zero, List.set_cons_succ]
  refine wl_pure (v := .tuple #[pv4 am, pv3 bm]) (fun _ => rfl) rfl ?_
  simp only [Act.put, List.setIfInBounds_toArray, List.set_cons_zero, List.set_cons_succ]
  refine wl_pure (v := pv4 am) (fun _ => rfl) rfl ?_
  simp only [Act.put, List.setIfInBounds_toArray, List.set_cons_zero, List.set_cons_succ]
  refine wl_pure (v := pv3 bm) (fun _ => rfl) rfl ?_
  simp only [Act.put, List.setIfInBounds_toArray, List.set_cons_zero, List.set_cons_succ]
  refine wl_new hM11 (f := fun b => .pointer (some ⟨b, 0, none⟩)) (ob := .cells z16 31 (0, 0)) (fun W => run_alloc_of rfl (al_Pt W)) rfl fun b5 W12 hM12 => ?_
  simp only [Act.put, List.setIfInBounds_toArray, List.set_cons_zero, List.set_cons_succ]
  refine wl_new hM12 (f := fun b => .pointer (some ⟨b, 0, none⟩)) (ob := .cells z12 41 (0, 0)) (fun W => run_alloc_of rfl (al_Rp W)) rfl fun b6 W13 hM13 => ?_
  simp only [Act.put, List.setIfInBounds_toArray, List.set_cons_zero, List.set_cons_succ]
  refine wl_set hM13 1 (cs := ((pc4 am))) rfl rfl rfl rfl rowPt rfl (one_p4 _) rfl rfl fun W14 hM14 => ?_
  simp only [List.set_cons_zero, List.set_cons_succ] at hM14
  refine wl_set hM14 0 (cs := ((rpL bm.1 bm.2.1 bm.2.2).toArray)) rfl rfl rfl rfl rowRp rfl (one_rp _ _ _) rfl rfl fun W15 hM15 => ?_
  simp only [List.set_cons_zero, List.set_cons_succ] at hM15
  refine wpList_nil ?_
  (first | (refine wp_region_inw 8 HMIX.out (by decide) (by kernel_rfl) (by kernel_rfl) ?_) | (go_step; (first | (refine wp_region_inw 8 HMIX.out (by decide) (by kernel_rfl) (by kernel_rfl) ?_) | (go_step; (first | (refine wp_region_inw 8 HMIX.out (by decide) (by kernel_rfl) (by kernel_rfl) ?_) | (go_step; (first | (refine wp_region_inw 8 HMIX.out (by decide) (by kernel_rfl) (by kernel_rfl) ?_) | (go_step; (first | (refine wp_region_inw 8 HMIX.out (by decide) (by kernel_rfl) (by kernel_rfl) ?_) | (go_step; (first | (refine wp_region_inw 8 HMIX.out (by decide) (by kernel_rfl) (by kernel_rfl) ?_) | (go_step; (first | (refine wp_region_inw 8 HMIX.out (by decide) (by kernel_rfl) (by kernel_rfl) ?_) | (go_step; (refine wp_region_inw 8 HMIX.out (by decide) (by kernel_rfl) (by kernel_rfl) ?_)))))))))))))))
  refine inw_row hM15 5 (v := pv4 ak) rfl rfl rfl rfl rowPt rfl rfl ?_; simp only [Act.put, List.setIfInBounds_toArray, List.set_cons_zero, List.set_cons_succ]
  refine inw_row hM15 1 (v := pv4 am) rfl rfl rfl rfl rowPt rfl rfl ?_; simp only [Act.put, List.setIfInBounds_toArray, List.set_cons_zero, List.set_cons_succ]
  refine inw_slice (n := 2) (L := (pl4 ak ++ pl4 am).toArray) (T := 31) (fun W => run_slice_of rfl (by simp [Act.eval]) (bsP2 ak am W)) rfl rfl ?_; simp only [List.nil_append, List.cons_append]
  obtain ⟨r1, er1⟩ : ∃ x, x = (add4 (add4 zero4 ak) am) := ⟨_, rfl⟩
  have or1 := (ok4_add (ok4_add ok4_zero hak) ham)
  rw [← er1] at or1
  have Kr1 := Lib.hid (addl2 hak ham)
  simp only [← er1] at Kr1
  refine inw_callS 2 30 (v := pv4 r1) rfl rfl (fun _ => rfl) (fun b W => run_call_fn W (enters_of Try.func23 rfl rfl) rfl (by simp [Act.eval, Act.put])) (fun b W h => Kr1.out b W h) ?_; simp only [Act.put, List.setIfInBounds_toArray, List.set_cons_zero, List.set_cons_succ]
  refine inw_row hM15 4 (v := pv3 bk) rfl rfl rfl rfl rowRp rfl rfl ?_; simp only [Act.put, List.setIfInBounds_toArray, List.set_cons_zero, List.set_cons_succ]
  refine inw_row hM15 0 (v := pv3 bm) rfl rfl rfl rfl rowRp rfl rfl ?_; simp only [Act.put, List.setIfInBounds_toArray, List.set_cons_zero, List.set_cons_succ]
  refine inw_callV (args := #[]) (v := numV dN) (fun W => run_call_fn W (enters_of Try.func20 rfl rfl) rfl (by simp [Act.eval])) (fun W _ => rD_any W) rfl rfl ?_; simp only [Act.put, List.setIfInBounds_toArray, List.set_cons_zero, List.set_cons_succ]
  obtain ⟨q2, eq2⟩ : ∃ x, x = add3 bk bm := ⟨_, rfl⟩
  have oq2 := ok3_add hbk hbm
  rw [← eq2] at oq2
  have Kq2 := Lib.hid (fun W => rptadd3 hbk hbm W)
  simp only [← eq2] at Kq2
  refine inw_callV (args := #[pv3 bk, pv3 bm, numV dN]) (v := pv3 q2) (fun W => run_call_fn W (enters_of Try.func24 rfl rfl) rfl (by simp [Act.eval])) (fun W _ => Kq2.out W) rfl rfl ?_; simp only [Act.put, List.setIfInBounds_toArray, List.set_cons_zero, List.set_cons_succ]
  refine inw_fin fun d os => ?_
  refine given_mk (t := 30) rfl fun s2 => ?_
  refine given_nil fun hap => ?_
  simp only [Act.put, List.setIfInBounds_toArray, List.set_cons_zero, List.set_cons_succ] at hap ⊢
  have hM16 := hM15.calls (below_regrown W15 d os)
  clear hap 
  generalize grow (redrawn W15 d) os = W16 at hM16 ⊢
  change wpAny _ _ _ _ 2 _ _ _
  refine any_set (n := 8) (by kernel_rfl) rfl hM16 5 (cs := ((pc4 r1))) rfl rfl rfl rfl rowPt rfl (one_p4 _) rfl rfl fun W17 hM17 => ?_
  simp only [List.set_cons_zero, List.set_cons_succ] at hM17
  refine any_set (n := 9) (by kernel_rfl) rfl hM17 4 (cs := ((rpL q2.1 q2.2.1 q2.2.2).toArray)) rfl rfl rfl rfl rowRp rfl (one_rp _ _ _) rfl rfl fun W18 hM18 => ?_
  simp only [List.set_cons_zero, List.set_cons_succ] at hM18
  refine wpAny_done (by kernel_rfl) ?_ _
  (first | (refine wp_region_inw 54 HMIX.out (by decide) (by kernel_rfl) (by kernel_rfl) ?_) | (go_step; (first | (refine wp_region_inw 54 HMIX.out (by decide) (by kernel_rfl) (by kernel_rfl) ?_) | (go_step; (first | (refine wp_region_inw 54 HMIX.out (by decide) (by kernel_rfl) (by kernel_rfl) ?_) | (go_step; (first | (refine wp_region_inw 54 HMIX.out (by decide) (by kernel_rfl) (by kernel_rfl) ?_) | (go_step; (first | (refine wp_region_inw 54 HMIX.out (by decide) (by kernel_rfl) (by kernel_rfl) ?_) | (go_step; (first | (refine wp_region_inw 54 HMIX.out (by decide) (by kernel_rfl) (by kernel_rfl) ?_) | (go_step; (first | (refine wp_region_inw 54 HMIX.out (by decide) (by kernel_rfl) (by kernel_rfl) ?_) | (go_step; (refine wp_region_inw 54 HMIX.out (by decide) (by kernel_rfl) (by kernel_rfl) ?_)))))))))))))))
  refine inw_row hM18 5 (v := pv4 r1) rfl rfl rfl rfl rowPt rfl rfl ?_; simp only [Act.put, List.setIfInBounds_toArray, List.set_cons_zero, List.set_cons_succ]
  refine inw_row hM18 4 (v := pv3 q2) rfl rfl rfl rfl rowRp rfl rfl ?_; simp only [Act.put, List.setIfInBounds_toArray, List.set_cons_zero, List.set_cons_succ]
  refine inw_callV (args := #[pv4 r1, pv3 q2]) (v := .bool true) (fun W => run_call_fn W (enters_of Try.func12 rfl rfl) rfl (by simp [Act.eval])) (fun W _ => is_eq or1 oq2 (zz2 _ _ hak.on ham.on) W) rfl rfl ?_; simp only [Act.put, List.setIfInBounds_toArray, List.set_cons_zero, List.set_cons_succ]
  refine inw_pure (v := .bool true) (fun _ => rfl) rfl rfl ?_; simp only [Act.put, List.setIfInBounds_toArray, List.set_cons_zero, List.set_cons_succ]
  refine inw_row hM18 5 (v := pv4 r1) rfl rfl rfl rfl rowPt rfl rfl ?_; simp only [Act.put, List.setIfInBounds_toArray, List.set_cons_zero, List.set_cons_succ]
  refine inw_row hM18 3 (v := pv4 al) rfl rfl rfl rfl rowPt rfl rfl ?_; simp only [Act.put, List.setIfInBounds_toArray, List.set_cons_zero, List.set_cons_succ]
  refine inw_slice (n := 2) (L := (pl4 r1 ++ pl4 al).toArray) (T := 31) (fun W => run_slice_of rfl (by simp [Act.eval]) (bsP2 r1 al W)) rfl rfl ?_; simp only [List.nil_append, List.cons_append]
  obtain ⟨r3, er3⟩ : ∃ x, x = (add4 (add4 zero4 r1) al) := ⟨_, rfl⟩
  have or3 := (ok4_add (ok4_add ok4_zero or1) hal)
  rw [← er3] at or3
  have Kr3 := Lib.hid (addl2 or1 hal)
  simp only [← er3] at Kr3
  refine inw_callS 6 42 (v := pv4 r3) rfl rfl (fun _ => rfl) (fun b W => run_call_fn W (enters_of Try.func23 rfl rfl) rfl (by simp [Act.eval, Act.put])) (fun b W h => Kr3.out b W h) ?_; simp only [Act.put, List.setIfInBounds_toArray, List.set_cons_zero, List.set_cons_succ]
  refine inw_row hM18 4 (v := pv3 q2) rfl rfl rfl rfl rowRp rfl rfl ?_; simp only [Act.put, List.setIfInBounds_toArray, List.set_cons_zero, List.set_cons_succ]
  refine inw_row hM18 2 (v := pv3 bl) rfl rfl rfl rfl rowRp rfl rfl ?_; simp only [Act.put, List.setIfInBounds_toArray, List.set_cons_zero, List.set_cons_succ]
  refine inw_callV (args := #[]) (v := numV dN) (fun W => run_call_fn W (enters_of Try.func20 rfl rfl) rfl (by simp [Act.eval])) (fun W _ => rD_any W) rfl rfl ?_; simp only [Act.put, List.setIfInBounds_toArray, List.set_cons_zero, List.set_cons_succ]
  obtain ⟨q4, eq4⟩ : ∃ x, x = add3 q2 bl := ⟨_, rfl⟩
  have oq4 := ok3_add oq2 hbl
  rw [← eq4] at oq4
  have Kq4 := Lib.hid (fun W => rptadd3 oq2 hbl W)
  simp only [← eq4] at Kq4
  refine inw_callV (args := #[pv3 q2, pv3 bl, numV dN]) (v := pv3 q4) (fun W => run_call_fn W (enters_of Try.func24 rfl rfl) rfl (by simp [Act.eval])) (fun W _ => Kq4.out W) rfl rfl ?_; simp only [Act.put, List.setIfInBounds_toArray, List.set_cons_zero, List.set_cons_succ]
  refine inw_callV (args := #[pv4 r3, pv3 q4]) (v := .bool true) (fun W => run_call_fn W (enters_of Try.func12 rfl rfl) rfl (by simp [Act.eval])) (fun W _ => is_eq or3 oq4 (zz3 _ _ _ hak.on ham.on hal.on) W) rfl rfl ?_; simp only [Act.put, List.setIfInBounds_toArray, List.set_cons_zero, List.set_cons_succ]
  refine inw_pure (v := .bool true) (fun _ => rfl) rfl rfl ?_; simp only [Act.put, List.setIfInBounds_toArray, List.set_cons_zero, List.set_cons_succ]
  refine inw_pure (v := .bool true) (fun _ => rfl) rfl rfl ?_; simp only [Act.put, List.setIfInBounds_toArray, List.set_cons_zero, List.set_cons_succ]
  refine inw_row hM18 5 (v := pv4 r1) rfl rfl rfl rfl rowPt rfl rfl ?_; simp only [Act.put, List.setIfInBounds_toArray, List.set_cons_zero, List.set_cons_succ]
  refine inw_callV (args := #[pv4 r1]) (v := pv4 (dbl4 r1)) (fun W => run_call_fn W (enters_of Try.func25 rfl rfl) rfl (by simp [Act.eval])) (fun W _ => double4 or1 W) rfl rfl ?_; simp only [Act.put, List.setIfInBounds_toArray, List.set_cons_zero, List.set_cons_succ]
  refine inw_row hM18 4 (v := pv3 q2) rfl rfl rfl rfl rowRp rfl rfl ?_; simp only [Act.put, List.setIfInBounds_toArray, List.set_cons_zero, List.set_cons_succ]
  refine inw_row hM18 4 (v := pv3 q2) rfl rfl rfl rfl rowRp rfl rfl ?_; simp only [Act.put, List.setIfInBounds_toArray, List.set_cons_zero, List.set_cons_succ]
  refine inw_callV (args := #[]) (v := numV dN) (fun W => run_call_fn W (enters_of Try.func20 rfl rfl) rfl (by simp [Act.eval])) (fun W _ => rD_any W) rfl rfl ?_; simp only [Act.put, List.setIfInBounds_toArray, List.set_cons_zero, List.set_cons_succ]
  obtain ⟨q5, eq5⟩ : ∃ x, x = add3 q2 q2 := ⟨_, rfl⟩
  have oq5 := ok3_add oq2 oq2
  rw [← eq5] at oq5
  have Kq5 := Lib.hid (fun W => rptadd3 oq2 oq2 W)
  simp only [← eq5] at Kq5
  refine inw_callV (args := #[pv3 q2, pv3 q2, numV dN]) (v := pv3 q5) (fun W => run_call_fn W (enters_of Try.func24 rfl rfl) rfl (by simp [Act.eval])) (fun W _ => Kq5.out W) rfl rfl ?_; simp only [Act.put, List.setIfInBounds_toArray, List.set_cons_zero, List.set_cons_succ]
  refine inw_callV (args := #[pv4 (dbl4 r1), pv3 q5]) (v := .bool true) (fun W => run_call_fn W (enters_of Try.func12 rfl rfl) rfl (by simp [Act.eval])) (fun W _ => is_eq (ok4_dbl or1) oq5 (zz4 _ _ hak.on ham.on) W) rfl rfl ?_; simp only [Act.put, List.setIfInBounds_toArray, List.set_cons_zero, List.set_cons_succ]
  refine inw_pure (v := .bool true) (fun _ => rfl) rfl rfl ?_; simp only [Act.put, List.setIfInBounds_toArray, List.set_cons_zero, List.set_cons_succ]
  refine inw_pure (v := .bool true) (fun _ => rfl) rfl rfl ?_; simp only [Act.put, List.setIfInBounds_toArray, List.set_cons_zero, List.set_cons_succ]
  refine inw_row hM18 5 (v := pv4 r1) rfl rfl rfl rfl rowPt rfl rfl ?_; simp only [Act.put, List.setIfInBounds_toArray, List.set_cons_zero, List.set_cons_succ]
  refine inw_callV (args := #[pv4 r1]) (v := pv4 (neg4 r1)) (fun W => run_call_fn W (enters_of Try.func26 rfl rfl) rfl (by simp [Act.eval])) (fun W _ => negp4 or1 W) rfl rfl ?_; simp only [Act.put, List.setIfInBounds_toArray, List.set_cons_zero, List.set_cons_succ]
  refine inw_row hM18 4 (v := pv3 q2) rfl rfl rfl rfl rowRp rfl rfl ?_; simp only [Act.put, List.setIfInBounds_toArray, List.set_cons_zero, List.set_cons_succ]
  refine inw_callV (args := #[pv3 q2]) (v := pv3 (neg3 q2)) (fun W => run_call_fn W (enters_of Try.func27 rfl rfl) rfl (by simp [Act.eval])) (fun W _ => rneg3 oq2 W) rfl rfl ?_; simp only [Act.put, List.setIfInBounds_toArray, List.set_cons_zero, List.set_cons_succ]
  refine inw_callV (args := #[pv4 (neg4 r1), pv3 (neg3 q2)]) (v := .bool true) (fun W => run_call_fn W (enters_of Try.func12 rfl rfl) rfl (by simp [Act.eval])) (fun W _ => is_eq (ok4_neg or1) (ok3_neg oq2) (zz5 _ _ hak.on ham.on) W) rfl rfl ?_; simp only [Act.put, List.setIfInBounds_toArray, List.set_cons_zero, List.set_cons_succ]
  refine inw_pure (v := .bool true) (fun _ => rfl) rfl rfl ?_; simp only [Act.put, List.setIfInBounds_toArray, List.set_cons_zero, List.set_cons_succ]
  refine inw_pure (v := .bool true) (fun _ => rfl) rfl rfl ?_; simp only [Act.put, List.setIfInBounds_toArray, List.set_cons_zero, List.set_cons_succ]
  refine inw_row hM18 5 (v := pv4 r1) rfl rfl rfl rfl rowPt rfl rfl ?_; simp only [Act.put, List.setIfInBounds_toArray, List.set_cons_zero, List.set_cons_succ]
  refine inw_row hM18 3 (v := pv4 al) rfl rfl rfl rfl rowPt rfl rfl ?_; simp only [Act.put, List.setIfInBounds_toArray, List.set_cons_zero, List.set_cons_succ]
  refine inw_row hM18 5 (v := pv4 r1) rfl rfl rfl rfl rowPt rfl rfl ?_; simp only [Act.put, List.setIfInBounds_toArray, List.set_cons_zero, List.set_cons_succ]
  refine inw_slice (n := 3) (L := (pl4 r1 ++ pl4 al ++ pl4 r1).toArray) (T := 31) (fun W => run_slice_of rfl (by simp [Act.eval]) (bsP3 r1 al r1 W)) rfl rfl ?_; simp only [List.nil_append, List.cons_append]
  obtain ⟨r6, er6⟩ : ∃ x, x = (add4 (add4 (add4 zero4 r1) al) r1) := ⟨_, rfl⟩
  have or6 := (ok4_add (ok4_add (ok4_add ok4_zero or1) hal) or1)
  rw [← er6] at or6
  have Kr6 := Lib.hid (addl3 or1 hal or1)
  simp only [← er6] at Kr6
  refine inw_callS 34 70 (v := pv4 r6) rfl rfl (fun _ => rfl) (fun b W => run_call_fn W (enters_of Try.func23 rfl rfl) rfl (by simp [Act.eval, Act.put])) (fun b W h => Kr6.out b W h) ?_; simp only [Act.put, List.setIfInBounds_toArray, List.set_cons_zero, List.set_cons_succ]
  refine inw_row hM18 4 (v := pv3 q2) rfl rfl rfl rfl rowRp rfl rfl ?_; simp only [Act.put, List.setIfInBounds_toArray, List.set_cons_zero, List.set_cons_succ]
  refine inw_row hM18 2 (v := pv3 bl) rfl rfl rfl rfl rowRp rfl rfl ?_; simp only [Act.put, List.setIfInBounds_toArray, List.set_cons_zero, List.set_cons_succ]
  refine inw_callV (args := #[]) (v := numV dN) (fun W => run_call_fn W (enters_of Try.func20 rfl rfl) rfl (by simp [Act.eval])) (fun W _ => rD_any W) rfl rfl ?_; simp only [Act.put, List.setIfInBounds_toArray, List.set_cons_zero, List.set_cons_succ]
  obtain ⟨q7, eq7⟩ : ∃ x, x = add3 q2 bl := ⟨_, rfl⟩
  have oq7 := ok3_add oq2 hbl
  rw [← eq7] at oq7
  have Kq7 := Lib.hid (fun W => rptadd3 oq2 hbl W)
  simp only [← eq7] at Kq7
  refine inw_callV (args := #[pv3 q2, pv3 bl, numV dN]) (v := pv3 q7) (fun W => run_call_fn W (enters_of Try.func24 rfl rfl) rfl (by simp [Act.eval])) (fun W _ => Kq7.out W) rfl rfl ?_; simp only [Act.put, List.setIfInBounds_toArray, List.set_cons_zero, List.set_cons_succ]
  refine inw_row hM18 4 (v := pv3 q2) rfl rfl rfl rfl rowRp rfl rfl ?_; simp only [Act.put, List.setIfInBounds_toArray, List.set_cons_zero, List.set_cons_succ]
  refine inw_callV (args := #[]) (v := numV dN) (fun W => run_call_fn W (enters_of Try.func20 rfl rfl) rfl (by simp [Act.eval])) (fun W _ => rD_any W) rfl rfl ?_; simp only [Act.put, List.setIfInBounds_toArray, List.set_cons_zero, List.set_cons_succ]
  obtain ⟨q8, eq8⟩ : ∃ x, x = add3 q7 q2 := ⟨_, rfl⟩
  have oq8 := ok3_add oq7 oq2
  rw [← eq8] at oq8
  have Kq8 := Lib.hid (fun W => rptadd3 oq7 oq2 W)
  simp only [← eq8] at Kq8
  refine inw_callV (args := #[pv3 q7, pv3 q2, numV dN]) (v := pv3 q8) (fun W => run_call_fn W (enters_of Try.func24 rfl rfl) rfl (by simp [Act.eval])) (fun W _ => Kq8.out W) rfl rfl ?_; simp only [Act.put, List.setIfInBounds_toArray, List.set_cons_zero, List.set_cons_succ]
  refine inw_callV (args := #[pv4 r6, pv3 q8]) (v := .bool true) (fun W => run_call_fn W (enters_of Try.func12 rfl rfl) rfl (by simp [Act.eval])) (fun W _ => is_eq or6 oq8 (zz6 _ _ _ hak.on ham.on hal.on) W) rfl rfl ?_; simp only [Act.put, List.setIfInBounds_toArray, List.set_cons_zero, List.set_cons_succ]
  refine inw_pure (v := .bool true) (fun _ => rfl) rfl rfl ?_; simp only [Act.put, List.setIfInBounds_toArray, List.set_cons_zero, List.set_cons_succ]
  refine inw_pure (v := .bool true) (fun _ => rfl) rfl rfl ?_; simp only [Act.put, List.setIfInBounds_toArray, List.set_cons_zero, List.set_cons_succ]
  refine inw_callV (args := #[.slice none 0 0]) (v := pv4 zero4) (fun W => run_call_fn W (enters_of Try.func23 rfl rfl) rfl (by simp [Act.eval])) (fun W _ => addl0 W) rfl rfl ?_; simp only [Act.put, List.setIfInBounds_toArray, List.set_cons_zero, List.set_cons_succ]
  refine inw_callV (args := #[]) (v := pv3 ((0, 1, 1))) (fun W => run_call_fn W (enters_of Try.func17 rfl rfl) rfl (by simp [Act.eval])) (fun W _ => rzero_any W) rfl rfl ?_; simp only [Act.put, List.setIfInBounds_toArray, List.set_cons_zero, List.set_cons_succ]
  refine inw_callV (args := #[pv4 zero4, pv3 ((0, 1, 1))]) (v := .bool true) (fun W => run_call_fn W (enters_of Try.func12 rfl rfl) rfl (by simp [Act.eval])) (fun W _ => is_eq ok4_zero ok3_zero rfl W) rfl rfl ?_; simp only [Act.put, List.setIfInBounds_toArray, List.set_cons_zero, List.set_cons_succ]
  refine inw_pure (v := .bool true) (fun _ => rfl) rfl rfl ?_; simp only [Act.put, List.setIfInBounds_toArray, List.set_cons_zero, List.set_cons_succ]
  refine inw_pure (v := .bool true) (fun _ => rfl) rfl rfl ?_; simp only [Act.put, List.setIfInBounds_toArray, List.set_cons_zero, List.set_cons_succ]
  refine inw_callV (args := #[]) (v := .bool true) (fun W => run_call_fn W (enters_of Try.func21 rfl rfl) rfl (by simp [Act.eval])) (fun W _ => lives_any W) rfl rfl ?_; simp only [Act.put, List.setIfInBounds_toArray, List.set_cons_zero, List.set_cons_succ]
  refine inw_pure (v := .bool true) (fun _ => rfl) rfl rfl ?_; simp only [Act.put, List.setIfInBounds_toArray, List.set_cons_zero, List.set_cons_succ]
  refine inw_pure (v := .bool true) (fun _ => rfl) rfl rfl ?_; simp only [Act.put, List.setIfInBounds_toArray, List.set_cons_zero, List.set_cons_succ]
  refine inw_fin fun d os => ?_
  refine given_mk (t := 42) rfl fun s6 => ?_
  refine given_mk (t := 70) rfl fun s34 => ?_
  refine given_nil fun hap => ?_
  simp only [Act.put, List.setIfInBounds_toArray, List.set_cons_zero, List.set_cons_succ] at hap ⊢
  have hM19 := hM18.calls (below_regrown W18 d os)
  clear hap 
  generalize grow (redrawn W18 d) os = W19 at hM19 ⊢
  refine wpAny_done (by kernel_rfl) ?_ _
  (first | (refine bodyPost_ret (v := .bool true) (results_slot Try.results4 rfl) rfl ⟨?_, hM19.below⟩) | (go_step; (first | (refine bodyPost_ret (v := .bool true) (results_slot Try.results4 rfl) rfl ⟨?_, hM19.below⟩) | (go_step; (first | (refine bodyPost_ret (v := .bool true) (results_slot Try.results4 rfl) rfl ⟨?_, hM19.below⟩) | (go_step; (first | (refine bodyPost_ret (v := .bool true) (results_slot Try.results4 rfl) rfl ⟨?_, hM19.below⟩) | (go_step; (first | (refine bodyPost_ret (v := .bool true) (results_slot Try.results4 rfl) rfl ⟨?_, hM19.below⟩) | (go_step; (first | (refine bodyPost_ret (v := .bool true) (results_slot Try.results4 rfl) rfl ⟨?_, hM19.below⟩) | (go_step; (first | (refine bodyPost_ret (v := .bool true) (results_slot Try.results4 rfl) rfl ⟨?_, hM19.below⟩) | (go_step; (refine bodyPost_ret (v := .bool true) (results_slot Try.results4 rfl) rfl ⟨?_, hM19.below⟩)))))))))))))))
  exact rfl
theorem cv8 (m m8 : Nat) (h : m % 256 = m8) (W : World) : (convert 24 5 (.int .u32 (m : Int))).run Try.prog W = .ok (.int .u8 (m8 : Int)) W := by
  have e : IntKind.u8.wrap (m : Int) = (m8 : Int) := by rw [IntKind.wrap_u8]; omega
  go_simp
theorem bin_eql_u32 (k l : Nat) (x y : Operand) (W : World) : (do eqGuard .eql 24 x y (.int .u32 (k : Int)) (.int .u32 (l : Int)); binOp .eql 24 (.int .u32 (k : Int)) (.int .u32 (l : Int)) : Sem Value).run Try.prog W = .ok (.bool (decide (k = l))) W := by
  have e : ((k : Int) == (l : Int)) = decide (k = l) := by
    by_cases h : k = l
    · subst h; simp
    · rw [decide_eq_false h]
      exact beq_eq_false_iff_ne.2 (by omega)
  go_simp
theorem bin_eql_bb (c : Prop) [Decidable c] (x y : Operand) (W : World) : (do eqGuard .eql 4 x y (.bool (decide c)) (.bool (decide c)); binOp .eql 4 (.bool (decide c)) (.bool (decide c)) : Sem Value).run Try.prog W = .ok (.bool true) W := by
  have h := bin_eql_b (decide c) (decide c) x y W
  rw [beq_self_eq_true] at h
  exact h
theorem same_kl {a b : N4} {p q : Pt} {k l : Nat} (ha : Ok4 a p) (hb : Ok4 b q) (h : p = q ↔ k = l) (w : World) : Calls Try.prog 10 #[pv4 a, pv4 b] w fun E w' => E = .returned (.bool (decide (k = l))) ∧ Below w.heap.size w w' := by
  have hc := samep4 ha hb w
  rw [show decide (p = q) = decide (k = l) from decide_eq_decide.2 h] at hc
  exact hc
theorem y1 (p q r : Pt) (hp : On p) (hq : On q) (hr : On r) : addE (addE zeroE (addE (addE zeroE p) q)) r = addE (addE zeroE p) (addE (addE zeroE q) r) := by
  rw [zz3 p q r hp hq hr, zeroAdd p hp, zeroAdd q hq, add_assoc' p q r hp hq hr]
theorem y2 (p q r : Pt) (hp : On p) (hq : On q) (hr : On r) : addE (addE zeroE (addE (addE zeroE p) q)) r = addE (addE (addE zeroE r) q) p := by
  rw [zz3 p q r hp hq hr, zeroAdd r hr, add_assoc' p q r hp hq hr, add_comm' p, add_comm' q r]
theorem y3 (p : Pt) (hp : On p) : addE (addE zeroE p) zeroE = p := by rw [zeroAdd p hp, add_zero' p hp]
theorem y4 (p q : Pt) (hp : On p) (hq : On q) : addE p q = addE (addE zeroE p) q := by rw [zeroAdd p hp]
theorem y5 (p : Pt) (hp : On p) : addE p p = addE (addE zeroE p) p := by rw [zeroAdd p hp]
set_option maxRecDepth 20000 in
set_option maxHeartbeats 8000000 in
theorem curveRules_walk (k0 l0 m0 : Int) (w : World) (wk : (Lit.int .u32 k0).wf = true) (wl : (Lit.int .u32 l0).wf = true) (wm : (Lit.int .u32 m0).wf = true) : Calls Try.prog 5 #[.int .u32 k0, .int .u32 l0, .int .u32 m0] w fun e w' => e = .returned (.bool true) ∧ Below w.heap.size w w' := by
  obtain ⟨k, rfl, hk⟩ := u32_nat k0 wk
  obtain ⟨l, rfl, hl⟩ := u32_nat l0 wl
  obtain ⟨m, rfl, hm⟩ := u32_nat m0 wm
  clear wk wl wm
  obtain ⟨m8, hm8⟩ : ∃ x, m % 256 = x := ⟨_, rfl⟩
  have hkl := base_inj k l hk hl
  obtain ⟨ak, bk, hak, hbk, Kbk⟩ := both_ex k hk
  have Kbk := Lib.hid Kbk
  obtain ⟨al, bl, hal, hbl, Kbl⟩ := both_ex l hl
  have Kbl := Lib.hid Kbl
  obtain ⟨am8, bm8, pm8, ham8, hbm8, Kbm8⟩ := low_any m8
  have Kbm8 := Lib.hid Kbm8
  obtain ⟨pk, epk⟩ : ∃ p, p = timesE k baseE := ⟨_, rfl⟩
  obtain ⟨pl, epl⟩ : ∃ p, p = timesE l baseE := ⟨_, rfl⟩
  rw [← epk] at hak hbk
  rw [← epl] at hal hbl
  rw [← epk, ← epl] at hkl
  have HMIX := Lib.hid (show Try.prog.follows .mixedOrders = true by kernel_rfl)
  go_enter Try.func5, Try.ntmps5
  have hM0 := Mem.start w
  (first | (refine wp_region_lit ?_) | (go_step; (first | (refine wp_region_lit ?_) | (go_step; (first | (refine wp_region_lit ?_) | (go_step; (first | (refine wp_region_lit ?_) | (go_step; (first | (refine wp_region_lit ?_) | (go_step; (first | (refine wp_region_lit ?_) | (go_step; (first | (refine wp_region_lit ?_) | (go_step; (refine wp_region_lit ?_)))))))))))))))
  refine wl_pure (v := .bool false) (fun _ => rfl) rfl ?_
  simp only [Act.put, List.setIfInBounds_toArray, List.set_cons_zero, List.set_cons_succ]
  refine wpList_nil ?_
  (first | (refine wp_region_lit ?_) | (go_step; (first | (refine wp_region_lit ?_) | (go_step; (first | (refine wp_region_lit ?_) | (go_step; (first | (refine wp_region_lit ?_) | (go_step; (first | (refine wp_region_lit ?_) | (go_step; (first | (refine wp_region_lit ?_) | (go_step; (first | (refine wp_region_lit ?_) | (go_step; (refine wp_region_lit ?_)))))))))))))))
  refine wl_pure (v := .int .u32 (k : Int)) (fun _ => rfl) rfl ?_
  simp only [Act.put, List.setIfInBounds_toArray, List.set_cons_zero, List.set_cons_succ]
  refine wl_call hM0 (args := #[.int .u32 (k : Int)]) (v := .tuple #[pv4 ak, pv3 bk]) (fun W => run_call_fn W (enters_of Try.func14 rfl rfl) rfl (by simp [Act.eval])) (Kbk.out w) rfl fun W1 hM1 => ?_
  simp only [Act.put, List.setIfInBounds_toArray, List.set_cons_zero, List.set_cons_succ]
  refine wl_pure (v := .tuple #[pv4 ak, pv3 bk]) (fun _ => rfl) rfl ?_
  simp only [Act.put, List.setIfInBounds_toArray, List.set_cons_zero, List.set_cons_succ]
  refine wl_pure (v := pv4 ak) (fun _ => rfl) rfl ?_
  simp only [Act.put, List.setIfInBounds_toArray, List.set_cons_zero, List.set_cons_succ]
  refine wl_pure (v := pv3 bk) (fun _ => rfl) rfl ?_
  simp only [Act.put, List.setIfInBounds_toArray, List.set_cons_zero, List.set_cons_succ]
  refine wl_new hM1 (f := fun b => .pointer (some ⟨b, 0, none⟩)) (ob := .cells z16 31 (0, 0)) (fun W => run_alloc_of rfl (al_Pt W)) rfl fun b1 W2 hM2 => ?_
  simp only [Act.put, List.setIfInBounds_toArray, List.set_cons_zero, List.set_cons_succ]
  refine wl_new hM2 (f := fun b => .pointer (some ⟨b, 0, none⟩)) (ob := .cells z12 41 (0, 0)) (fun W => run_alloc_of rfl (al_Rp W)) rfl fun b2 W3 hM3 => ?_
  simp only [Act.put, List.setIfInBounds_toArray, List.set_cons_zero, List.set_cons_succ]
  refine wl_set hM3 1 (cs := ((pc4 ak))) rfl rfl rfl rfl rowPt rfl (one_p4 _) rfl rfl fun W4 hM4 => ?_
  simp only [List.set_cons_zero, List.set_cons_succ] at hM4
  refine wl_set hM4 0 (cs := ((rpL bk.1 bk.2.1 bk.2.2).toArray)) rfl rfl rfl rfl rowRp rfl (one_rp _ _ _) rfl rfl fun W5 hM5 => ?_
  simp only [List.set_cons_zero, List.set_cons_succ] at hM5
  refine wpList_nil ?_
  (first | (refine wp_region_lit ?_) | (go_step; (first | (refine wp_region_lit ?_) | (go_step; (first | (refine wp_region_lit ?_) | (go_step; (first | (refine wp_region_lit ?_) | (go_step; (first | (refine wp_region_lit ?_) | (go_step; (first | (refine wp_region_lit ?_) | (go_step; (first | (refine wp_region_lit ?_) | (go_step; (refine wp_region_lit ?_)))))))))))))))
  refine wl_pure (v := .int .u32 (l : Int)) (fun _ => rfl) rfl ?_
  simp only [Act.put, List.setIfInBounds_toArray, List.set_cons_zero, List.set_cons_succ]
  refine wl_call hM5 (args := #[.int .u32 (l : Int)]) (v := .tuple #[pv4 al, pv3 bl]) (fun W => run_call_fn W (enters_of Try.func14 rfl rfl) rfl (by simp [Act.eval])) (Kbl.out W5) rfl fun W6 hM6 => ?_
  simp only [Act.put, List.setIfInBounds_toArray, List.set_cons_zero, List.set_cons_succ]
  refine wl_pure (v := .tuple #[pv4 al, pv3 bl]) (fun _ => rfl) rfl ?_
  simp only [Act.put, List.setIfInBounds_toArray, List.set_cons_zero, List.set_cons_succ]
  refine wl_pure (v := pv4 al) (fun _ => rfl) rfl ?_
  simp only [Act.put, List.setIfInBounds_toArray, List.set_cons_zero, List.set_cons_succ]
  refine wl_pure (v := pv3 bl) (fun _ => rfl) rfl ?_
  simp only [Act.put, List.setIfInBounds_toArray, List.set_cons_zero, List.set_cons_succ]
  refine wl_new hM6 (f := fun b => .pointer (some ⟨b, 0, none⟩)) (ob := .cells z16 31 (0, 0)) (fun W => run_alloc_of rfl (al_Pt W)) rfl fun b3 W7 hM7 => ?_
  simp only [Act.put, List.setIfInBounds_toArray, List.set_cons_zero, List.set_cons_succ]
  refine wl_new hM7 (f := fun b => .pointer (some ⟨b, 0, none⟩)) (ob := .cells z12 41 (0, 0)) (fun W => run_alloc_of rfl (al_Rp W)) rfl fun b4 W8 hM8 => ?_
  simp only [Act.put, List.setIfInBounds_toArray, List.set_cons_zero, List.set_cons_succ]
  refine wl_set hM8 1 (cs := ((pc4 al))) rfl rfl rfl rfl rowPt rfl (one_p4 _) rfl rfl fun W9 hM9 => ?_
  simp only [List.set_cons_zero, List.set_cons_succ] at hM9
  refine wl_set hM9 0 (cs := ((rpL bl.1 bl.2.1 bl.2.2).toArray)) rfl rfl rfl rfl rowRp rfl (one_rp _ _ _) rfl rfl fun W10 hM10 => ?_
  simp only [List.set_cons_zero, List.set_cons_succ] at hM10
  refine wpList_nil ?_
  (first | (refine wp_region_lit ?_) | (go_step; (first | (refine wp_region_lit ?_) | (go_step; (first | (refine wp_region_lit ?_) | (go_step; (first | (refine wp_region_lit ?_) | (go_step; (first | (refine wp_region_lit ?_) | (go_step; (first | (refine wp_region_lit ?_) | (go_step; (first | (refine wp_region_lit ?_) | (go_step; (refine wp_region_lit ?_)))))))))))))))
  refine wl_pure (v := .int .u32 (m : Int)) (fun _ => rfl) rfl ?_
  simp only [Act.put, List.setIfInBounds_toArray, List.set_cons_zero, List.set_cons_succ]
  refine wl_pure (v := .int .u8 (m8 : Int)) (fun W => run_cv_of rfl rfl (cv8 m m8 hm8 W)) rfl ?_
  simp only [Act.put, List.setIfInBounds_toArray, List.set_cons_zero, List.set_cons_succ]
  refine wl_call hM10 (args := #[.int .u8 (m8 : Int)]) (v := .tuple #[pv4 am8, pv3 bm8]) (fun W => run_call_fn W (enters_of Try.func22 rfl rfl) rfl (by simp [Act.eval])) (Kbm8.out W10) rfl fun W11 hM11 => ?_
  simp only [Act.put, List.setIfInBounds_toArray, List.set_cons_zero, List.set_cons_succ]
  refine wl_pure (v := .tuple #[pv4 am8, pv3 bm8]) (fun _ => rfl) rfl ?_
  simp only [Act.put, List.setIfInBounds_toArray, List.set_cons_zero, List.set_cons_succ]
  refine wl_pure (v := pv4 am8) (fun _ => rfl) rfl ?_
  simp only [Act.put, List.setIfInBounds_toArray, List.set_cons_zero, List.set_cons_succ]
  refine wl_pure (v := pv3 bm8) (fun _ => rfl) rfl ?_
  simp only [Act.put, List.setIfInBounds_toArray, List.set_cons_zero, List.set_cons_succ]
  refine wl_new hM11 (f := fun b => .pointer (some ⟨b, 0, none⟩)) (ob := .cells z16 31 (0, 0)) (fun W => run_alloc_of rfl (al_Pt W)) rfl fun b5 W12 hM12 => ?_
  simp only [Act.put, List.setIfInBounds_toArray, List.set_cons_zero, List.set_cons_succ]
  refine wl_new hM12 (f := fun b => .pointer (some ⟨b, 0, none⟩)) (ob := .cells z12 41 (0, 0)) (fun W => run_alloc_of rfl (al_Rp W)) rfl fun b6 W13 hM13 => ?_
  simp only [Act.put, List.setIfInBounds_toArray, List.set_cons_zero, List.set_cons_succ]
  refine wl_set hM13 1 (cs := ((pc4 am8))) rfl rfl rfl rfl rowPt rfl (one_p4 _) rfl rfl fun W14 hM14 => ?_
  simp only [List.set_cons_zero, List.set_cons_succ] at hM14
  refine wl_set hM14 0 (cs := ((rpL bm8.1 bm8.2.1 bm8.2.2).toArray)) rfl rfl rfl rfl rowRp rfl (one_rp _ _ _) rfl rfl fun W15 hM15 => ?_
  simp only [List.set_cons_zero, List.set_cons_succ] at hM15
  refine wpList_nil ?_
  (first | (refine wp_region_inw 8 HMIX.out (by decide) (by kernel_rfl) (by kernel_rfl) ?_) | (go_step; (first | (refine wp_region_inw 8 HMIX.out (by decide) (by kernel_rfl) (by kernel_rfl) ?_) | (go_step; (first | (refine wp_region_inw 8 HMIX.out (by decide) (by kernel_rfl) (by kernel_rfl) ?_) | (go_step; (first | (refine wp_region_inw 8 HMIX.out (by decide) (by kernel_rfl) (by kernel_rfl) ?_) | (go_step; (first | (refine wp_region_inw 8 HMIX.out (by decide) (by kernel_rfl) (by kernel_rfl) ?_) | (go_step; (first | (refine wp_region_inw 8 HMIX.out (by decide) (by kernel_rfl) (by kernel_rfl) ?_) | (go_step; (first | (refine wp_region_inw 8 HMIX.out (by decide) (by kernel_rfl) (by kernel_rfl) ?_) | (go_step; (refine wp_region_inw 8 HMIX.out (by decide) (by kernel_rfl) (by kernel_rfl) ?_)))))))))))))))
  refine inw_row hM15 5 (v := pv4 ak) rfl rfl rfl rfl rowPt rfl rfl ?_; simp only [Act.put, List.setIfInBounds_toArray, List.set_cons_zero, List.set_cons_succ]
  refine inw_row hM15 3 (v := pv4 al) rfl rfl rfl rfl rowPt rfl rfl ?_; simp only [Act.put, List.setIfInBounds_toArray, List.set_cons_zero, List.set_cons_succ]
  refine inw_slice (n := 2) (L := (pl4 ak ++ pl4 al).toArray) (T := 31) (fun W => run_slice_of rfl (by simp [Act.eval]) (bsP2 ak al W)) rfl rfl ?_; simp only [List.nil_append, List.cons_append]
  obtain ⟨r1, er1⟩ : ∃ x, x = (add4 (add4 zero4 ak) al) := ⟨_, rfl⟩
  have or1 := (ok4_add (ok4_add ok4_zero hak) hal)
  rw [← er1] at or1
  have Kr1 := Lib.hid (addl2 hak hal)
  simp only [← er1] at Kr1
  refine inw_callS 2 32 (v := pv4 r1) rfl rfl (fun _ => rfl) (fun b W => run_call_fn W (enters_of Try.func23 rfl rfl) rfl (by simp [Act.eval, Act.put])) (fun b W h => Kr1.out b W h) ?_; simp only [Act.put, List.setIfInBounds_toArray, List.set_cons_zero, List.set_cons_succ]
  refine inw_row hM15 1 (v := pv4 am8) rfl rfl rfl rfl rowPt rfl rfl ?_; simp only [Act.put, List.setIfInBounds_toArray, List.set_cons_zero, List.set_cons_succ]
  refine inw_slice (n := 2) (L := (pl4 r1 ++ pl4 am8).toArray) (T := 31) (fun W => run_slice_of rfl (by simp [Act.eval]) (bsP2 r1 am8 W)) rfl rfl ?_; simp only [List.nil_append, List.cons_append]
  obtain ⟨r2, er2⟩ : ∃ x, x = (add4 (add4 zero4 r1) am8) := ⟨_, rfl⟩
  have or2 := (ok4_add (ok4_add ok4_zero or1) ham8)
  rw [← er2] at or2
  have Kr2 := Lib.hid (addl2 or1 ham8)
  simp only [← er2] at Kr2
  refine inw_callS 5 35 (v := pv4 r2) rfl rfl (fun _ => rfl) (fun b W => run_call_fn W (enters_of Try.func23 rfl rfl) rfl (by simp [Act.eval, Act.put])) (fun b W h => Kr2.out b W h) ?_; simp only [Act.put, List.setIfInBounds_toArray, List.set_cons_zero, List.set_cons_succ]
  refine inw_new (.cells z16 31 (0, 0)) rfl rfl (fun A W => run_alloc_of rfl (al_Pt W)) ?_; simp only [List.nil_append, List.cons_append]
  refine inw_fin fun d os => ?_
  refine given_mk (t := 32) rfl fun s2 => ?_
  refine given_mk (t := 35) rfl fun s5 => ?_
  refine given_new (t := 13) rfl fun b7 lb7 gb7 => ?_
  refine given_nil fun hap => ?_
  simp only [Act.put, List.setIfInBounds_toArray, List.set_cons_zero, List.set_cons_succ] at hap ⊢
  have hM16 := hM15.news1 (below_regrown W15 d os) lb7 gb7 
  clear hap lb7 gb7
  generalize grow (redrawn W15 d) os = W16 at hM16 ⊢
  change wpAny _ _ _ _ 1 _ _ _
  refine any_set (n := 8) (by kernel_rfl) rfl hM16 0 (cs := ((pc4 r2))) rfl rfl rfl rfl rowPt rfl (one_p4 _) rfl rfl fun W17 hM17 => ?_
  simp only [List.set_cons_zero, List.set_cons_succ] at hM17
  refine wpAny_done (by kernel_rfl) ?_ _
  (first | (refine wp_region_inw 68 HMIX.out (by decide) (by kernel_rfl) (by kernel_rfl) ?_) | (go_step; (first | (refine wp_region_inw 68 HMIX.out (by decide) (by kernel_rfl) (by kernel_rfl) ?_) | (go_step; (first | (refine wp_region_inw 68 HMIX.out (by decide) (by kernel_rfl) (by kernel_rfl) ?_) | (go_step; (first | (refine wp_region_inw 68 HMIX.out (by decide) (by kernel_rfl) (by kernel_rfl) ?_) | (go_step; (first | (refine wp_region_inw 68 HMIX.out (by decide) (by kernel_rfl) (by kernel_rfl) ?_) | (go_step; (first | (refine wp_region_inw 68 HMIX.out (by decide) (by kernel_rfl) (by kernel_rfl) ?_) | (go_step; (first | (refine wp_region_inw 68 HMIX.out (by decide) (by kernel_rfl) (by kernel_rfl) ?_) | (go_step; (refine wp_region_inw 68 HMIX.out (by decide) (by kernel_rfl) (by kernel_rfl) ?_)))))))))))))))
  refine inw_row hM17 0 (v := pv4 r2) rfl rfl rfl rfl rowPt rfl rfl ?_; simp only [Act.put, List.setIfInBounds_toArray, List.set_cons_zero, List.set_cons_succ]
  refine inw_row hM17 6 (v := pv4 ak) rfl rfl rfl rfl rowPt rfl rfl ?_; simp only [Act.put, List.setIfInBounds_toArray, List.set_cons_zero, List.set_cons_succ]
  refine inw_row hM17 4 (v := pv4 al) rfl rfl rfl rfl rowPt rfl rfl ?_; simp only [Act.put, List.setIfInBounds_toArray, List.set_cons_zero, List.set_cons_succ]
  refine inw_row hM17 2 (v := pv4 am8) rfl rfl rfl rfl rowPt rfl rfl ?_; simp only [Act.put, List.setIfInBounds_toArray, List.set_cons_zero, List.set_cons_succ]
  refine inw_slice (n := 2) (L := (pl4 al ++ pl4 am8).toArray) (T := 31) (fun W => run_slice_of rfl (by simp [Act.eval]) (bsP2 al am8 W)) rfl rfl ?_; simp only [List.nil_append, List.cons_append]
  obtain ⟨r3, er3⟩ : ∃ x, x = (add4 (add4 zero4 al) am8) := ⟨_, rfl⟩
  have or3 := (ok4_add (ok4_add ok4_zero hal) ham8)
  rw [← er3] at or3
  have Kr3 := Lib.hid (addl2 hal ham8)
  simp only [← er3] at Kr3
  refine inw_callS 4 41 (v := pv4 r3) rfl rfl (fun _ => rfl) (fun b W => run_call_fn W (enters_of Try.func23 rfl rfl) rfl (by simp [Act.eval, Act.put])) (fun b W h => Kr3.out b W h) ?_; simp only [Act.put, List.setIfInBounds_toArray, List.set_cons_zero, List.set_cons_succ]
  refine inw_slice (n := 2) (L := (pl4 ak ++ pl4 r3).toArray) (T := 31) (fun W => run_slice_of rfl (by simp [Act.eval]) (bsP2 ak r3 W)) rfl rfl ?_; simp only [List.nil_append, List.cons_append]
  obtain ⟨r4, er4⟩ : ∃ x, x = (add4 (add4 zero4 ak) r3) := ⟨_, rfl⟩
  have or4 := (ok4_add (ok4_add ok4_zero hak) or3)
  rw [← er4] at or4
  have Kr4 := Lib.hid (addl2 hak or3)
  simp only [← er4] at Kr4
  refine inw_callS 6 43 (v := pv4 r4) rfl rfl (fun _ => rfl) (fun b W => run_call_fn W (enters_of Try.func23 rfl rfl) rfl (by simp [Act.eval, Act.put])) (fun b W h => Kr4.out b W h) ?_; simp only [Act.put, List.setIfInBounds_toArray, List.set_cons_zero, List.set_cons_succ]
  refine inw_callV (args := #[pv4 r2, pv4 r4]) (v := .bool true) (fun W => run_call_fn W (enters_of Try.func10 rfl rfl) rfl (by simp [Act.eval])) (fun W _ => same_yes or2 or4 (y1 _ _ _ hak.on hal.on ham8.on) W) rfl rfl ?_; simp only [Act.put, List.setIfInBounds_toArray, List.set_cons_zero, List.set_cons_succ]
  refine inw_pure (v := .bool true) (fun _ => rfl) rfl rfl ?_; simp only [Act.put, List.setIfInBounds_toArray, List.set_cons_zero, List.set_cons_succ]
  refine inw_row hM17 0 (v := pv4 r2) rfl rfl rfl rfl rowPt rfl rfl ?_; simp only [Act.put, List.setIfInBounds_toArray, List.set_cons_zero, List.set_cons_succ]
  refine inw_row hM17 2 (v := pv4 am8) rfl rfl rfl rfl rowPt rfl rfl ?_; simp only [Act.put, List.setIfInBounds_toArray, List.set_cons_zero, List.set_cons_succ]
  refine inw_row hM17 4 (v := pv4 al) rfl rfl rfl rfl rowPt rfl rfl ?_; simp only [Act.put, List.setIfInBounds_toArray, List.set_cons_zero, List.set_cons_succ]
  refine inw_row hM17 6 (v := pv4 ak) rfl rfl rfl rfl rowPt rfl rfl ?_; simp only [Act.put, List.setIfInBounds_toArray, List.set_cons_zero, List.set_cons_succ]
  refine inw_slice (n := 3) (L := (pl4 am8 ++ pl4 al ++ pl4 ak).toArray) (T := 31) (fun W => run_slice_of rfl (by simp [Act.eval]) (bsP3 am8 al ak W)) rfl rfl ?_; simp only [List.nil_append, List.cons_append]
  obtain ⟨r5, er5⟩ : ∃ x, x = (add4 (add4 (add4 zero4 am8) al) ak) := ⟨_, rfl⟩
  have or5 := (ok4_add (ok4_add (ok4_add ok4_zero ham8) hal) hak)
  rw [← er5] at or5
  have Kr5 := Lib.hid (addl3 ham8 hal hak)
  simp only [← er5] at Kr5
  refine inw_callS 14 51 (v := pv4 r5) rfl rfl (fun _ => rfl) (fun b W => run_call_fn W (enters_of Try.func23 rfl rfl) rfl (by simp [Act.eval, Act.put])) (fun b W h => Kr5.out b W h) ?_; simp only [Act.put, List.setIfInBounds_toArray, List.set_cons_zero, List.set_cons_succ]
  refine inw_callV (args := #[pv4 r2, pv4 r5]) (v := .bool true) (fun W => run_call_fn W (enters_of Try.func10 rfl rfl) rfl (by simp [Act.eval])) (fun W _ => same_yes or2 or5 (y2 _ _ _ hak.on hal.on ham8.on) W) rfl rfl ?_; simp only [Act.put, List.setIfInBounds_toArray, List.set_cons_zero, List.set_cons_succ]
  refine inw_pure (v := .bool true) (fun _ => rfl) rfl rfl ?_; simp only [Act.put, List.setIfInBounds_toArray, List.set_cons_zero, List.set_cons_succ]
  refine inw_pure (v := .bool true) (fun _ => rfl) rfl rfl ?_; simp only [Act.put, List.setIfInBounds_toArray, List.set_cons_zero, List.set_cons_succ]
  refine inw_row hM17 6 (v := pv4 ak) rfl rfl rfl rfl rowPt rfl rfl ?_; simp only [Act.put, List.setIfInBounds_toArray, List.set_cons_zero, List.set_cons_succ]
  refine inw_row hM17 6 (v := pv4 ak) rfl rfl rfl rfl rowPt rfl rfl ?_; simp only [Act.put, List.setIfInBounds_toArray, List.set_cons_zero, List.set_cons_succ]
  refine inw_callV (args := #[pv4 ak]) (v := pv4 (neg4 ak)) (fun W => run_call_fn W (enters_of Try.func26 rfl rfl) rfl (by simp [Act.eval])) (fun W _ => negp4 hak W) rfl rfl ?_; simp only [Act.put, List.setIfInBounds_toArray, List.set_cons_zero, List.set_cons_succ]
  refine inw_slice (n := 2) (L := (pl4 ak ++ pl4 (neg4 ak)).toArray) (T := 31) (fun W => run_slice_of rfl (by simp [Act.eval]) (bsP2 ak (neg4 ak) W)) rfl rfl ?_; simp only [List.nil_append, List.cons_append]
  obtain ⟨r6, er6⟩ : ∃ x, x = (add4 (add4 zero4 ak) (neg4 ak)) := ⟨_, rfl⟩
  have or6 := (ok4_add (ok4_add ok4_zero hak) (ok4_neg hak))
  rw [← er6] at or6
  have Kr6 := Lib.hid (addl2 hak (ok4_neg hak))
  simp only [← er6] at Kr6
  refine inw_callS 22 59 (v := pv4 r6) rfl rfl (fun _ => rfl) (fun b W => run_call_fn W (enters_of Try.func23 rfl rfl) rfl (by simp [Act.eval, Act.put])) (fun b W h => Kr6.out b W h) ?_; simp only [Act.put, List.setIfInBounds_toArray, List.set_cons_zero, List.set_cons_succ]
  refine inw_callV (args := #[]) (v := pv4 zero4) (fun W => run_call_fn W (enters_of Try.func11 rfl rfl) rfl (by simp [Act.eval])) (fun W _ => zero4_any W) rfl rfl ?_; simp only [Act.put, List.setIfInBounds_toArray, List.set_cons_zero, List.set_cons_succ]
  refine inw_callV (args := #[pv4 r6, pv4 zero4]) (v := .bool true) (fun W => run_call_fn W (enters_of Try.func10 rfl rfl) rfl (by simp [Act.eval])) (fun W _ => same_yes or6 ok4_zero (back_zero _ hak.on) W) rfl rfl ?_; simp only [Act.put, List.setIfInBounds_toArray, List.set_cons_zero, List.set_cons_succ]
  refine inw_pure (v := .bool true) (fun _ => rfl) rfl rfl ?_; simp only [Act.put, List.setIfInBounds_toArray, List.set_cons_zero, List.set_cons_succ]
  refine inw_pure (v := .bool true) (fun _ => rfl) rfl rfl ?_; simp only [Act.put, List.setIfInBounds_toArray, List.set_cons_zero, List.set_cons_succ]
  refine inw_row hM17 6 (v := pv4 ak) rfl rfl rfl rfl rowPt rfl rfl ?_; simp only [Act.put, List.setIfInBounds_toArray, List.set_cons_zero, List.set_cons_succ]
  refine inw_callV (args := #[]) (v := pv4 zero4) (fun W => run_call_fn W (enters_of Try.func11 rfl rfl) rfl (by simp [Act.eval])) (fun W _ => zero4_any W) rfl rfl ?_; simp only [Act.put, List.setIfInBounds_toArray, List.set_cons_zero, List.set_cons_succ]
  refine inw_slice (n := 2) (L := (pl4 ak ++ pl4 zero4).toArray) (T := 31) (fun W => run_slice_of rfl (by simp [Act.eval]) (bsP2 ak zero4 W)) rfl rfl ?_; simp only [List.nil_append, List.cons_append]
  obtain ⟨r7, er7⟩ : ∃ x, x = (add4 (add4 zero4 ak) zero4) := ⟨_, rfl⟩
  have or7 := (ok4_add (ok4_add ok4_zero hak) ok4_zero)
  rw [← er7] at or7
  have Kr7 := Lib.hid (addl2 hak ok4_zero)
  simp only [← er7] at Kr7
  refine inw_callS 30 67 (v := pv4 r7) rfl rfl (fun _ => rfl) (fun b W => run_call_fn W (enters_of Try.func23 rfl rfl) rfl (by simp [Act.eval, Act.put])) (fun b W h => Kr7.out b W h) ?_; simp only [Act.put, List.setIfInBounds_toArray, List.set_cons_zero, List.set_cons_succ]
  refine inw_row hM17 6 (v := pv4 ak) rfl rfl rfl rfl rowPt rfl rfl ?_; simp only [Act.put, List.setIfInBounds_toArray, List.set_cons_zero, List.set_cons_succ]
  refine inw_callV (args := #[pv4 r7, pv4 ak]) (v := .bool true) (fun W => run_call_fn W (enters_of Try.func10 rfl rfl) rfl (by simp [Act.eval])) (fun W _ => same_yes or7 hak (y3 _ hak.on) W) rfl rfl ?_; simp only [Act.put, List.setIfInBounds_toArray, List.set_cons_zero, List.set_cons_succ]
  refine inw_pure (v := .bool true) (fun _ => rfl) rfl rfl ?_; simp only [Act.put, List.setIfInBounds_toArray, List.set_cons_zero, List.set_cons_succ]
  refine inw_pure (v := .bool true) (fun _ => rfl) rfl rfl ?_; simp only [Act.put, List.setIfInBounds_toArray, List.set_cons_zero, List.set_cons_succ]
  refine inw_callV (args := #[]) (v := numV dN) (fun W => run_call_fn W (enters_of Try.func28 rfl rfl) rfl (by simp [Act.eval])) (fun W _ => newadder_any W) rfl rfl ?_; simp only [Act.put, List.setIfInBounds_toArray, List.set_cons_zero, List.set_cons_succ]
  refine inw_row hM17 6 (v := pv4 ak) rfl rfl rfl rfl rowPt rfl rfl ?_; simp only [Act.put, List.setIfInBounds_toArray, List.set_cons_zero, List.set_cons_succ]
  refine inw_row hM17 4 (v := pv4 al) rfl rfl rfl rfl rowPt rfl rfl ?_; simp only [Act.put, List.setIfInBounds_toArray, List.set_cons_zero, List.set_cons_succ]
  obtain ⟨r8, er8⟩ : ∃ x, x = add4 ak al := ⟨_, rfl⟩
  have or8 := ok4_add hak hal
  rw [← er8] at or8
  have Kr8 := Lib.hid (fun W => adderadd4 hak hal W)
  simp only [← er8] at Kr8
  refine inw_callV (args := #[numV dN, pv4 ak, pv4 al]) (v := pv4 r8) (fun W => run_call_fn W (enters_of Try.func29 rfl rfl) rfl (by simp [Act.eval])) (fun W _ => Kr8.out W) rfl rfl ?_; simp only [Act.put, List.setIfInBounds_toArray, List.set_cons_zero, List.set_cons_succ]
  refine inw_row hM17 6 (v := pv4 ak) rfl rfl rfl rfl rowPt rfl rfl ?_; simp only [Act.put, List.setIfInBounds_toArray, List.set_cons_zero, List.set_cons_succ]
  refine inw_row hM17 4 (v := pv4 al) rfl rfl rfl rfl rowPt rfl rfl ?_; simp only [Act.put, List.setIfInBounds_toArray, List.set_cons_zero, List.set_cons_succ]
  refine inw_slice (n := 2) (L := (pl4 ak ++ pl4 al).toArray) (T := 31) (fun W => run_slice_of rfl (by simp [Act.eval]) (bsP2 ak al W)) rfl rfl ?_; simp only [List.nil_append, List.cons_append]
  obtain ⟨r9, er9⟩ : ∃ x, x = (add4 (add4 zero4 ak) al) := ⟨_, rfl⟩
  have or9 := (ok4_add (ok4_add ok4_zero hak) hal)
  rw [← er9] at or9
  have Kr9 := Lib.hid (addl2 hak hal)
  simp only [← er9] at Kr9
  refine inw_callS 42 79 (v := pv4 r9) rfl rfl (fun _ => rfl) (fun b W => run_call_fn W (enters_of Try.func23 rfl rfl) rfl (by simp [Act.eval, Act.put])) (fun b W h => Kr9.out b W h) ?_; simp only [Act.put, List.setIfInBounds_toArray, List.set_cons_zero, List.set_cons_succ]
  refine inw_callV (args := #[pv4 r8, pv4 r9]) (v := .bool true) (fun W => run_call_fn W (enters_of Try.func10 rfl rfl) rfl (by simp [Act.eval])) (fun W _ => same_yes or8 or9 (y4 _ _ hak.on hal.on) W) rfl rfl ?_; simp only [Act.put, List.setIfInBounds_toArray, List.set_cons_zero, List.set_cons_succ]
  refine inw_pure (v := .bool true) (fun _ => rfl) rfl rfl ?_; simp only [Act.put, List.setIfInBounds_toArray, List.set_cons_zero, List.set_cons_succ]
  refine inw_pure (v := .bool true) (fun _ => rfl) rfl rfl ?_; simp only [Act.put, List.setIfInBounds_toArray, List.set_cons_zero, List.set_cons_succ]
  refine inw_row hM17 6 (v := pv4 ak) rfl rfl rfl rfl rowPt rfl rfl ?_; simp only [Act.put, List.setIfInBounds_toArray, List.set_cons_zero, List.set_cons_succ]
  refine inw_callV (args := #[pv4 ak]) (v := pv4 (dbl4 ak)) (fun W => run_call_fn W (enters_of Try.func25 rfl rfl) rfl (by simp [Act.eval])) (fun W _ => double4 hak W) rfl rfl ?_; simp only [Act.put, List.setIfInBounds_toArray, List.set_cons_zero, List.set_cons_succ]
  refine inw_row hM17 6 (v := pv4 ak) rfl rfl rfl rfl rowPt rfl rfl ?_; simp only [Act.put, List.setIfInBounds_toArray, List.set_cons_zero, List.set_cons_succ]
  refine inw_row hM17 6 (v := pv4 ak) rfl rfl rfl rfl rowPt rfl rfl ?_; simp only [Act.put, List.setIfInBounds_toArray, List.set_cons_zero, List.set_cons_succ]
  refine inw_slice (n := 2) (L := (pl4 ak ++ pl4 ak).toArray) (T := 31) (fun W => run_slice_of rfl (by simp [Act.eval]) (bsP2 ak ak W)) rfl rfl ?_; simp only [List.nil_append, List.cons_append]
  obtain ⟨r10, er10⟩ : ∃ x, x = (add4 (add4 zero4 ak) ak) := ⟨_, rfl⟩
  have or10 := (ok4_add (ok4_add ok4_zero hak) hak)
  rw [← er10] at or10
  have Kr10 := Lib.hid (addl2 hak hak)
  simp only [← er10] at Kr10
  refine inw_callS 51 88 (v := pv4 r10) rfl rfl (fun _ => rfl) (fun b W => run_call_fn W (enters_of Try.func23 rfl rfl) rfl (by simp [Act.eval, Act.put])) (fun b W h => Kr10.out b W h) ?_; simp only [Act.put, List.setIfInBounds_toArray, List.set_cons_zero, List.set_cons_succ]
  refine inw_callV (args := #[pv4 (dbl4 ak), pv4 r10]) (v := .bool true) (fun W => run_call_fn W (enters_of Try.func10 rfl rfl) rfl (by simp [Act.eval])) (fun W _ => same_yes (ok4_dbl hak) or10 (y5 _ hak.on) W) rfl rfl ?_; simp only [Act.put, List.setIfInBounds_toArray, List.set_cons_zero, List.set_cons_succ]
  refine inw_pure (v := .bool true) (fun _ => rfl) rfl rfl ?_; simp only [Act.put, List.setIfInBounds_toArray, List.set_cons_zero, List.set_cons_succ]
  refine inw_pure (v := .bool true) (fun _ => rfl) rfl rfl ?_; simp only [Act.put, List.setIfInBounds_toArray, List.set_cons_zero, List.set_cons_succ]
  refine inw_row hM17 6 (v := pv4 ak) rfl rfl rfl rfl rowPt rfl rfl ?_; simp only [Act.put, List.setIfInBounds_toArray, List.set_cons_zero, List.set_cons_succ]
  refine inw_row hM17 4 (v := pv4 al) rfl rfl rfl rfl rowPt rfl rfl ?_; simp only [Act.put, List.setIfInBounds_toArray, List.set_cons_zero, List.set_cons_succ]
  refine inw_callV (args := #[pv4 ak, pv4 al]) (v := .bool (decide (k = l))) (fun W => run_call_fn W (enters_of Try.func10 rfl rfl) rfl (by simp [Act.eval])) (fun W _ => same_kl hak hal hkl W) rfl rfl ?_; simp only [Act.put, List.setIfInBounds_toArray, List.set_cons_zero, List.set_cons_succ]
  refine inw_pure (v := .int .u32 (k : Int)) (fun _ => rfl) rfl rfl ?_; simp only [Act.put, List.setIfInBounds_toArray, List.set_cons_zero, List.set_cons_succ]
  refine inw_pure (v := .int .u32 (l : Int)) (fun _ => rfl) rfl rfl ?_; simp only [Act.put, List.setIfInBounds_toArray, List.set_cons_zero, List.set_cons_succ]
  refine inw_pure (v := .bool (decide (k = l))) (fun W => run_bin_of rfl rfl rfl (bin_eql_u32 k l _ _ W)) rfl rfl ?_; simp only [Act.put, List.setIfInBounds_toArray, List.set_cons_zero, List.set_cons_succ]
  refine inw_pure (v := .bool true) (fun W => run_bin_of rfl rfl rfl (bin_eql_bb (k = l) _ _ W)) rfl rfl ?_; simp only [Act.put, List.setIfInBounds_toArray, List.set_cons_zero, List.set_cons_succ]
  refine inw_pure (v := .bool true) (fun _ => rfl) rfl rfl ?_; simp only [Act.put, List.setIfInBounds_toArray, List.set_cons_zero, List.set_cons_succ]
  refine inw_pure (v := .bool true) (fun _ => rfl) rfl rfl ?_; simp only [Act.put, List.setIfInBounds_toArray, List.set_cons_zero, List.set_cons_succ]
  refine inw_callV (args := #[]) (v := .bool true) (fun W => run_call_fn W (enters_of Try.func21 rfl rfl) rfl (by simp [Act.eval])) (fun W _ => lives_any W) rfl rfl ?_; simp only [Act.put, List.setIfInBounds_toArray, List.set_cons_zero, List.set_cons_succ]
  refine inw_pure (v := .bool true) (fun _ => rfl) rfl rfl ?_; simp only [Act.put, List.setIfInBounds_toArray, List.set_cons_zero, List.set_cons_succ]
  refine inw_pure (v := .bool true) (fun _ => rfl) rfl rfl ?_; simp only [Act.put, List.setIfInBounds_toArray, List.set_cons_zero, List.set_cons_succ]
  refine inw_fin fun d os => ?_
  refine given_mk (t := 41) rfl fun s4 => ?_
  refine given_mk (t := 43) rfl fun s6 => ?_
  refine given_mk (t := 51) rfl fun s14 => ?_
  refine given_mk (t := 59) rfl fun s22 => ?_
  refine given_mk (t := 67) rfl fun s30 => ?_
  refine given_mk (t := 79) rfl fun s42 => ?_
  refine given_mk (t := 88) rfl fun s51 => ?_
  refine given_nil fun hap => ?_
  simp only [Act.put, List.setIfInBounds_toArray, List.set_cons_zero, List.set_cons_succ] at hap ⊢
  have hM18 := hM17.calls (below_regrown W17 d os)
  clear hap 
  generalize grow (redrawn W17 d) os = W18 at hM18 ⊢
  refine wpAny_done (by kernel_rfl) ?_ _
  (first | (refine bodyPost_ret (v := .bool true) (results_slot Try.results5 rfl) rfl ⟨?_, hM18.below⟩) | (go_step; (first | (refine bodyPost_ret (v := .bool true) (results_slot Try.results5 rfl) rfl ⟨?_, hM18.below⟩) | (go_step; (first | (refine bodyPost_ret (v := .bool true) (results_slot Try.results5 rfl) rfl ⟨?_, hM18.below⟩) | (go_step; (first | (refine bodyPost_ret (v := .bool true) (results_slot Try.results5 rfl) rfl ⟨?_, hM18.below⟩) | (go_step; (first | (refine bodyPost_ret (v := .bool true) (results_slot Try.results5 rfl) rfl ⟨?_, hM18.below⟩) | (go_step; (first | (refine bodyPost_ret (v := .bool true) (results_slot Try.results5 rfl) rfl ⟨?_, hM18.below⟩) | (go_step; (first | (refine bodyPost_ret (v := .bool true) (results_slot Try.results5 rfl) rfl ⟨?_, hM18.below⟩) | (go_step; (refine bodyPost_ret (v := .bool true) (results_slot Try.results5 rfl) rfl ⟨?_, hM18.below⟩)))))))))))))))
  exact rfl
end Go.Proofs.Ythdbadomppohbaa
