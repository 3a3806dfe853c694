/- The laws' Low and lives (layer 20): their contracts. mult: four bits at a time (layer 23): numbers and points alone. -/
import Derived.Test.YtigfoophimjgdaaM19
namespace Go.Proofs.Ytigfoophimjgdaa
set_option maxRecDepth 20000
set_option linter.unusedSimpArgs false
set_option linter.unusedVariables false
open Go.RowKit Go.Sort
def mN : Nat := 57896044618658097711785492504343953926634992332820282019728792003956564819948
def iR : Nat := 19681161376707505956807079304988542015446066515923890162744021073123829784752
def jR : Nat := 38214883241950591754978413199355411911188925816896391856984770930832735035197
theorem mN_lt : mN < PN := by decide +kernel
theorem iR_lt : iR < PN := by decide +kernel
theorem jR_lt : jR < PN := by decide +kernel
theorem rsub01 (w : World) : Calls Try.prog 36 #[numV 0, numV 1] w fun e w' => e = .returned (numV mN) ∧ Below w.heap.size w w' := by
  have h := rsub' 0 1 w (by decide +kernel) one_below
  rw [show (0 + PN - 1) % PN = mN by decide +kernel] at h
  exact h
theorem rsub0i (w : World) : Calls Try.prog 36 #[numV 0, numV iR] w fun e w' => e = .returned (numV jR) ∧ Below w.heap.size w w' := by
  have h := rsub' 0 iR w (by decide +kernel) iR_lt
  rw [show (0 + PN - iR) % PN = jR by decide +kernel] at h
  exact h
theorem rroot_m (w : World) : Calls Try.prog 37 #[numV mN] w fun e w' => e = .returned (.tuple #[numV iR, .bool true]) ∧ Below w.heap.size w w' := by
  have h := rroot' mN w mN_lt
  obtain ⟨e1, e2⟩ := rootC_is iV mN 1 (r0N_pm mN _ (by decide +kernel))
  rw [e1, e2, show rootC iV mN 1 = (iR, true) by decide +kernel] at h
  exact h
def lowX (j : Nat) : Nat := if j = 2 then iR else if j = 3 then jR else 0
def lowY (j : Nat) : Nat := if j = 1 then mN else if j = 2 then 0 else if j = 3 then 0 else 1
def lowE (j : Nat) : Pt := (fz (lowX j), fz (lowY j))
theorem on_of (x y : Nat) (h : isB x y = true) : On (fz x, fz y) := (isB_on x y).1 h
theorem fzv {x : Nat} (h : x < PN) : x = (fz x).val := (Nat.mod_eq_of_lt h).symm
theorem ok3_at (x y : Nat) (hx : x < PN) (hy : y < PN) (h : On (fz x, fz y)) : Ok3 (x, y, 1) (fz x, fz y) :=
  ⟨⟨hx, hy, one_below⟩, h, base_rep.1, by show fz x * fz 1 = fz x; rw [fz_one, Lean.Grind.Semiring.mul_one], by show fz y * fz 1 = fz y; rw [fz_one, Lean.Grind.Semiring.mul_one]⟩
theorem on_low0 : On (fz 0, fz 1) := on_of _ _ (by decide +kernel)
theorem on_low1 : On (fz 0, fz mN) := on_of _ _ (by decide +kernel)
theorem on_low2 : On (fz iR, fz 0) := on_of _ _ (by decide +kernel)
theorem on_low3 : On (fz jR, fz 0) := on_of _ _ (by decide +kernel)
theorem zero_below : 0 < PN := PN_pos
theorem bin_rem8 (k j : Nat) (h : k % 4 = j) (x y : Operand) (W : World) : (do eqGuard .rem 5 x y (.int .u8 (k : Int)) (.int .u8 4); binOp .rem 5 (.int .u8 (k : Int)) (.int .u8 4) : Sem Value).run Try.prog W = .ok (.int .u8 (j : Int)) W := by
  have e : ((k : Int).tmod 4) = (j : Int) := by rw [Int.tmod_eq_emod_of_nonneg (by omega)]; omega
  have e2 : IntKind.u8.wrap (j : Int) = (j : Int) := IntWalk.u8_in _ (by omega)
  have e3 : (k : Int) % 4 = (j : Int) := by omega
  go_simp
set_option maxRecDepth 20000 in
set_option maxHeartbeats 8000000 in
theorem low0 (k : Nat) (hk4 : k % 4 = 0) (w : World) : Calls Try.prog 8 #[.int .u8 (k : Int)] w fun E w' => E = .returned (.tuple #[pv4 (at4 (fz 0, fz 1)), pv3 (0, 1, 1)]) ∧ Below w.heap.size w w' := by
  have HMIX := Lib.hid (show Try.prog.follows .mixedOrders = true by kernel_rfl)
  go_enter Try.func8, Try.ntmps8
  have hM0 := Mem.start w
  (go_step; go_step; refine wp_region_lit ?_)
  refine wl_new hM0 (f := fun b => .pointer (some ⟨b, 0, none⟩)) (ob := .cells z16 30 (0, 0)) (fun W => run_alloc_of rfl (al_Pt W)) rfl fun b1 W1 hM1 => ?_
  simp only [Act.put, List.setIfInBounds_toArray, List.set_cons_zero, List.set_cons_succ]
  refine wl_new hM1 (f := fun b => .pointer (some ⟨b, 0, none⟩)) (ob := .cells z12 32 (0, 0)) (fun W => run_alloc_of rfl (al_Rp W)) rfl fun b2 W2 hM2 => ?_
  simp only [Act.put, List.setIfInBounds_toArray, List.set_cons_zero, List.set_cons_succ]
  refine wpList_nil ?_
  (go_step; go_step; go_step; refine wp_region_lit ?_)
  refine wl_call hM2 (args := #[.int .u64 0]) (v := numV 0) (fun W => run_call_fn W (enters_of Try.func35 rfl rfl) rfl (by simp [Act.eval])) (rsmall' 0 (by decide) W2) rfl fun W3 hM3 => ?_
  simp only [Act.put, List.setIfInBounds_toArray, List.set_cons_zero, List.set_cons_succ]
  refine wl_call hM3 (args := #[.int .u64 1]) (v := numV 1) (fun W => run_call_fn W (enters_of Try.func35 rfl rfl) rfl (by simp [Act.eval])) (rsmall' 1 (by decide) W3) rfl fun W4 hM4 => ?_
  simp only [Act.put, List.setIfInBounds_toArray, List.set_cons_zero, List.set_cons_succ]
  refine wl_new hM4 (f := fun b => .pointer (some ⟨b, 0, none⟩)) (ob := .cells z4 24 (0, 0)) (fun W => run_alloc_of rfl (al_Nu W)) rfl fun b3 W5 hM5 => ?_
  simp only [Act.put, List.setIfInBounds_toArray, List.set_cons_zero, List.set_cons_succ]
  refine wl_new hM5 (f := fun b => .pointer (some ⟨b, 0, none⟩)) (ob := .cells z4 24 (0, 0)) (fun W => run_alloc_of rfl (al_Nu W)) rfl fun b4 W6 hM6 => ?_
  simp only [Act.put, List.setIfInBounds_toArray, List.set_cons_zero, List.set_cons_succ]
  refine wl_set hM6 1 (cs := (elR 0)) rfl rfl rfl rfl rowNu rfl (one_el 0) rfl rfl fun W7 hM7 => ?_
  simp only [List.set_cons_zero, List.set_cons_succ] at hM7
  refine wl_set hM7 0 (cs := (elR 1)) rfl rfl rfl rfl rowNu rfl (one_el 1) rfl rfl fun W8 hM8 => ?_
  simp only [List.set_cons_zero, List.set_cons_succ] at hM8
  refine wpList_nil ?_
  (go_step; go_step; go_step; refine wp_region_lit ?_)
  refine wl_row hM8 1 (v := numV 0) rfl rfl rfl rfl rowNu rfl ?_
  simp only [Act.put, List.setIfInBounds_toArray, List.set_cons_zero, List.set_cons_succ]
  refine wl_row hM8 0 (v := numV 1) rfl rfl rfl rfl rowNu rfl ?_
  simp only [Act.put, List.setIfInBounds_toArray, List.set_cons_zero, List.set_cons_succ]
  refine wl_call hM8 (args := #[numV 0, numV 1]) (v := numV mN) (fun W => run_call_fn W (enters_of Try.func36 rfl rfl) rfl (by simp [Act.eval])) (rsub01 W8) rfl fun W9 hM9 => ?_
  simp only [Act.put, List.setIfInBounds_toArray, List.set_cons_zero, List.set_cons_succ]
  refine wl_new hM9 (f := fun b => .pointer (some ⟨b, 0, none⟩)) (ob := .cells z4 24 (0, 0)) (fun W => run_alloc_of rfl (al_Nu W)) rfl fun b5 W10 hM10 => ?_
  simp only [Act.put, List.setIfInBounds_toArray, List.set_cons_zero, List.set_cons_succ]
  refine wl_set hM10 0 (cs := (elR mN)) rfl rfl rfl rfl rowNu rfl (one_el mN) rfl rfl fun W11 hM11 => ?_
  simp only [List.set_cons_zero, List.set_cons_succ] at hM11
  refine wpList_nil ?_
  (go_step; go_step; go_step; refine wp_region_lit ?_)
  refine wl_row hM11 0 (v := numV mN) rfl rfl rfl rfl rowNu rfl ?_
  simp only [Act.put, List.setIfInBounds_toArray, List.set_cons_zero, List.set_cons_succ]
  refine wl_call hM11 (args := #[numV mN]) (v := .tuple #[numV iR, .bool true]) (fun W => run_call_fn W (enters_of Try.func37 rfl rfl) rfl (by simp [Act.eval])) (rroot_m W11) rfl fun W12 hM12 => ?_
  simp only [Act.put, List.setIfInBounds_toArray, List.set_cons_zero, List.set_cons_succ]
  refine wl_pure (v := .tuple #[numV iR, .bool true]) (fun _ => rfl) rfl ?_
  simp only [Act.put, List.setIfInBounds_toArray, List.set_cons_zero, List.set_cons_succ]
  refine wl_pure (v := numV iR) (fun _ => rfl) rfl ?_
  simp only [Act.put, List.setIfInBounds_toArray, List.set_cons_zero, List.set_cons_succ]
  refine wl_pure (v := .bool true) (fun _ => rfl) rfl ?_
  simp only [Act.put, List.setIfInBounds_toArray, List.set_cons_zero, List.set_cons_succ]
  refine wl_new hM12 (f := fun b => .pointer (some ⟨b, 0, none⟩)) (ob := .cells z4 24 (0, 0)) (fun W => run_alloc_of rfl (al_Nu W)) rfl fun b6 W13 hM13 => ?_
  simp only [Act.put, List.setIfInBounds_toArray, List.set_cons_zero, List.set_cons_succ]
  refine wl_set hM13 0 (cs := (elR iR)) rfl rfl rfl rfl rowNu rfl (one_el iR) rfl rfl fun W14 hM14 => ?_
  simp only [List.set_cons_zero, List.set_cons_succ] at hM14
  refine wl_pure (v := .bool true) (fun _ => rfl) rfl ?_
  simp only [Act.put, List.setIfInBounds_toArray, List.set_cons_zero, List.set_cons_succ]
  refine wpList_nil ?_
  (go_step; go_step; go_step; refine wp_region_lit ?_)
  refine wl_call hM14 (args := #[]) (v := pv3 ((0, 1, 1))) (fun W => run_call_fn W (enters_of Try.func38 rfl rfl) rfl (by simp [Act.eval])) (rzero_any W14) rfl fun W15 hM15 => ?_
  simp only [Act.put, List.setIfInBounds_toArray, List.set_cons_zero, List.set_cons_succ]
  refine wl_new hM15 (f := fun b => .pointer (some ⟨b, 0, none⟩)) (ob := .cells z12 32 (0, 0)) (fun W => run_alloc_of rfl (al_Rp W)) rfl fun b7 W16 hM16 => ?_
  simp only [Act.put, List.setIfInBounds_toArray, List.set_cons_zero, List.set_cons_succ]
  refine wl_set hM16 0 (cs := ((rpL 0 1 1).toArray)) rfl rfl rfl rfl rowRp rfl (one_rp _ _ _) rfl rfl fun W17 hM17 => ?_
  simp only [List.set_cons_zero, List.set_cons_succ] at hM17
  refine wpList_nil ?_
  (go_step; go_step; go_step; go_step; refine wp_region_lit ?_)
  refine wl_pure (v := .int .u8 (k : Int)) (fun _ => rfl) rfl ?_
  simp only [Act.put, List.setIfInBounds_toArray, List.set_cons_zero, List.set_cons_succ]
  refine wl_pure (v := .int .u8 0) (fun W => run_bin_of rfl rfl rfl (bin_rem8 k 0 hk4 _ _ W)) rfl ?_
  simp only [Act.put, List.setIfInBounds_toArray, List.set_cons_zero, List.set_cons_succ]
  refine wpList_nil ?_
  (go_step; go_step; go_step; go_step; refine wp_region_lit ?_)
  refine wl_pure (v := .bool false) (fun W => run_eqint_of W rfl rfl rfl rfl) rfl ?_
  simp only [Act.put, List.setIfInBounds_toArray, List.set_cons_zero, List.set_cons_succ]
  refine wl_pure (v := .bool false) (fun _ => rfl) rfl ?_
  simp only [Act.put, List.setIfInBounds_toArray, List.set_cons_zero, List.set_cons_succ]
  refine wpList_nil ?_
  (go_step; go_step; go_step; go_step; refine wp_region_lit ?_)
  refine wl_pure (v := .bool false) (fun W => run_eqint_of W rfl rfl rfl rfl) rfl ?_
  simp only [Act.put, List.setIfInBounds_toArray, List.set_cons_zero, List.set_cons_succ]
  refine wl_pure (v := .bool false) (fun _ => rfl) rfl ?_
  simp only [Act.put, List.setIfInBounds_toArray, List.set_cons_zero, List.set_cons_succ]
  refine wpList_nil ?_
  (go_step; go_step; go_step; go_step; refine wp_region_lit ?_)
  refine wl_pure (v := .bool false) (fun W => run_eqint_of W rfl rfl rfl rfl) rfl ?_
  simp only [Act.put, List.setIfInBounds_toArray, List.set_cons_zero, List.set_cons_succ]
  refine wl_pure (v := .bool false) (fun _ => rfl) rfl ?_
  simp only [Act.put, List.setIfInBounds_toArray, List.set_cons_zero, List.set_cons_succ]
  refine wpList_nil ?_
  (go_step; go_step; go_step; go_step; go_step; go_step; go_step; refine wp_region_inz 11 9 rfl rfl (steady_extract rfl) (by kernel_rfl) (by decide) HMIX.out (by decide) (by kernel_rfl) (by kernel_rfl) ?_)
  refine inw_pure (v := .pointer (some ⟨b7, 0, none⟩)) (fun W => run_field_of rfl rfl (fa_R0 b7 W)) rfl rfl ?_; simp only [Act.put, List.setIfInBounds_toArray, List.set_cons_zero, List.set_cons_succ]
  refine inw_part hM17 0 (v := numV 0) (sub := elR 0) rfl rfl rfl rfl rfl rowNu rfl rfl ?_; simp only [Act.put, List.setIfInBounds_toArray, List.set_cons_zero, List.set_cons_succ]
  refine inw_callV (args := #[numV 0]) (v := numV 0) (fun W => run_call_fn W (enters_of Try.func34 rfl rfl) rfl (by simp [Act.eval])) (fun W _ => el'2 0 zero_below W) rfl rfl ?_; simp only [Act.put, List.setIfInBounds_toArray, List.set_cons_zero, List.set_cons_succ]
  refine inw_pure (v := .pointer (some ⟨b7, 4, none⟩)) (fun W => run_field_of rfl rfl (fa_R1 b7 W)) rfl rfl ?_; simp only [Act.put, List.setIfInBounds_toArray, List.set_cons_zero, List.set_cons_succ]
  refine inw_part hM17 0 (v := numV 1) (sub := elR 1) rfl rfl rfl rfl rfl rowNu rfl rfl ?_; simp only [Act.put, List.setIfInBounds_toArray, List.set_cons_zero, List.set_cons_succ]
  refine inw_callV (args := #[numV 1]) (v := numV 1) (fun W => run_call_fn W (enters_of Try.func34 rfl rfl) rfl (by simp [Act.eval])) (fun W _ => el'2 1 one_below W) rfl rfl ?_; simp only [Act.put, List.setIfInBounds_toArray, List.set_cons_zero, List.set_cons_succ]
  refine inw_callV (args := #[numV 0, numV 1]) (v := .tuple #[pv4 (at4 (((fz 0, fz 1) : Pt))), .int .i64 0]) (fun W => run_call_fn W (enters_of Try.func33 rfl rfl) rfl (by simp [Act.eval])) (fun W _ => make_pt ((fz 0, fz 1) : Pt) on_low0 0 1 (fzv zero_below) (fzv one_below) W) rfl rfl ?_; simp only [Act.put, List.setIfInBounds_toArray, List.set_cons_zero, List.set_cons_succ]
  refine inw_pure (v := .tuple #[pv4 (at4 (((fz 0, fz 1) : Pt))), .int .i64 0]) (fun _ => rfl) rfl rfl ?_; simp only [Act.put, List.setIfInBounds_toArray, List.set_cons_zero, List.set_cons_succ]
  refine inw_pure (v := pv4 (at4 (((fz 0, fz 1) : Pt)))) (fun _ => rfl) rfl rfl ?_; simp only [Act.put, List.setIfInBounds_toArray, List.set_cons_zero, List.set_cons_succ]
  refine inw_pure (v := .int .i64 0) (fun _ => rfl) rfl rfl ?_; simp only [Act.put, List.setIfInBounds_toArray, List.set_cons_zero, List.set_cons_succ]
  refine inw_new (.cells z16 30 (0, 0)) rfl rfl (fun A W => run_alloc_of rfl (al_Pt W)) ?_; simp only [List.nil_append, List.cons_append]
  refine inw_fin fun d os => ?_
  refine given_new (t := 10) rfl fun b8 lb8 gb8 => ?_
  refine given_nil fun hap => ?_
  simp only [Act.put, List.setIfInBounds_toArray, List.set_cons_zero, List.set_cons_succ] at hap ⊢
  have hM18 := hM17.news1 (below_regrown W17 d os) lb8 gb8 
  clear hap lb8 gb8
  generalize grow (redrawn W17 d) os = W18 at hM18 ⊢
  change wpAny _ _ _ _ 2 _ _ _
  refine any_set (n := 11) (by kernel_rfl) rfl hM18 0 (cs := ((pc4 (at4 (((fz 0, fz 1) : Pt)))))) rfl rfl rfl rfl rowPt rfl (one_p4 _) rfl rfl fun W19 hM19 => ?_
  simp only [List.set_cons_zero, List.set_cons_succ] at hM19
  refine any_pure (n := 12) (v := .int .i64 0) (by kernel_rfl) rfl (fun _ => rfl) rfl rfl ?_
  simp only [Act.put, List.setIfInBounds_toArray, List.set_cons_zero, List.set_cons_succ]
  refine wpAny_done (by kernel_rfl) ?_ _
  refine NoPanic.normal ?_
  have hMd := hM19.drew
  (go_step; go_step; go_step; refine wp_region_noPanic (wp_region_held_drew HMIX.out (S := fun w1 => w1.heap[b8]? = some (.cells ((pc4 (at4 (((fz 0, fz 1) : Pt))))) 30 (0, 0)) ∧ w1.heap[b7]? = some (.cells ((rpL 0 1 1).toArray) 32 (0, 0))) (⟨hMd.get 0 rfl, hMd.get 1 rfl⟩) fun hS => ?_))
  change wpAnyH _ _ _ _ _ 4 _ _ _
  generalize W19.drew = W20 at hMd hS ⊢
  have hM20 := hMd
  clear hMd
  refine hd_row 0 52 #[true, false, false, false] (by kernel_rfl) (v := pv4 (at4 (((fz 0, fz 1) : Pt)))) (cs := ((pc4 (at4 (((fz 0, fz 1) : Pt)))))) (b := b8) rfl rfl rfl rfl (fun W hW => hW.1) rfl rowPt (by kernel_rfl) (by kernel_rfl) (by kernel_rfl) rfl hS ?_
  simp only [Act.put, List.setIfInBounds_toArray, List.set_cons_zero, List.set_cons_succ]
  refine hd_row 1 53 #[true, true, false, false] (by kernel_rfl) (v := pv3 ((0, 1, 1))) (cs := ((rpL 0 1 1).toArray)) (b := b7) rfl rfl rfl rfl (fun W hW => hW.2) rfl rowRp (by kernel_rfl) (by kernel_rfl) (by kernel_rfl) rfl hS ?_
  simp only [Act.put, List.setIfInBounds_toArray, List.set_cons_zero, List.set_cons_succ]
  refine hd_set (n := 2) #[true, true, true, false] (by kernel_rfl) (by kernel_rfl) rfl hM20 7 (cs := ((pc4 (at4 (((fz 0, fz 1) : Pt)))))) rfl rfl rfl rfl rowPt rfl (one_p4 _) rfl rfl (fun W hW => ⟨hW.get 0 rfl, hW.get 1 rfl⟩) fun W21 hM21 => ?_
  simp only [List.set_cons_zero, List.set_cons_succ] at hM21
  refine hd_set (n := 3) #[true, true, true, true] (by kernel_rfl) (by kernel_rfl) rfl hM21 6 (cs := ((rpL 0 1 1).toArray)) rfl rfl rfl rfl rowRp rfl (one_rp _ _ _) rfl rfl (fun W hW => ⟨hW.get 0 rfl, hW.get 1 rfl⟩) fun W22 hM22 => ?_
  simp only [List.set_cons_zero, List.set_cons_succ] at hM22
  refine wpAnyH_done (by kernel_rfl) ?_ _
  refine NoPanic.normal ?_
  (go_step; go_step; go_step; refine bodyPost_ret (v := .tuple #[pv4 (at4 (((fz 0, fz 1) : Pt))), pv3 ((0, 1, 1))]) (results_arr2 Try.results8 rfl rfl (hM22.load 7 rfl rowPt) (hM22.load 6 rfl rowRp)) rfl ⟨?_, hM22.below⟩)
  exact rfl
set_option maxRecDepth 20000 in
set_option maxHeartbeats 8000000 in
theorem low1 (k : Nat) (hk4 : k % 4 = 1) (w : World) : Calls Try.prog 8 #[.int .u8 (k : Int)] w fun E w' => E = .returned (.tuple #[pv4 (at4 (fz 0, fz mN)), pv3 (0, mN, 1)]) ∧ Below w.heap.size w w' := by
  have HMIX := Lib.hid (show Try.prog.follows .mixedOrders = true by kernel_rfl)
  go_enter Try.func8, Try.ntmps8
  have hM0 := Mem.start w
  (go_step; go_step; refine wp_region_lit ?_)
  refine wl_new hM0 (f := fun b => .pointer (some ⟨b, 0, none⟩)) (ob := .cells z16 30 (0, 0)) (fun W => run_alloc_of rfl (al_Pt W)) rfl fun b1 W1 hM1 => ?_
  simp only [Act.put, List.setIfInBounds_toArray, List.set_cons_zero, List.set_cons_succ]
  refine wl_new hM1 (f := fun b => .pointer (some ⟨b, 0, none⟩)) (ob := .cells z12 32 (0, 0)) (fun W => run_alloc_of rfl (al_Rp W)) rfl fun b2 W2 hM2 => ?_
  simp only [Act.put, List.setIfInBounds_toArray, List.set_cons_zero, List.set_cons_succ]
  refine wpList_nil ?_
  (go_step; go_step; go_step; refine wp_region_lit ?_)
  refine wl_call hM2 (args := #[.int .u64 0]) (v := numV 0) (fun W => run_call_fn W (enters_of Try.func35 rfl rfl) rfl (by simp [Act.eval])) (rsmall' 0 (by decide) W2) rfl fun W3 hM3 => ?_
  simp only [Act.put, List.setIfInBounds_toArray, List.set_cons_zero, List.set_cons_succ]
  refine wl_call hM3 (args := #[.int .u64 1]) (v := numV 1) (fun W => run_call_fn W (enters_of Try.func35 rfl rfl) rfl (by simp [Act.eval])) (rsmall' 1 (by decide) W3) rfl fun W4 hM4 => ?_
  simp only [Act.put, List.setIfInBounds_toArray, List.set_cons_zero, List.set_cons_succ]
  refine wl_new hM4 (f := fun b => .pointer (some ⟨b, 0, none⟩)) (ob := .cells z4 24 (0, 0)) (fun W => run_alloc_of rfl (al_Nu W)) rfl fun b3 W5 hM5 => ?_
  simp only [Act.put, List.setIfInBounds_toArray, List.set_cons_zero, List.set_cons_succ]
  refine wl_new hM5 (f := fun b => .pointer (some ⟨b, 0, none⟩)) (ob := .cells z4 24 (0, 0)) (fun W => run_alloc_of rfl (al_Nu W)) rfl fun b4 W6 hM6 => ?_
  simp only [Act.put, List.setIfInBounds_toArray, List.set_cons_zero, List.set_cons_succ]
  refine wl_set hM6 1 (cs := (elR 0)) rfl rfl rfl rfl rowNu rfl (one_el 0) rfl rfl fun W7 hM7 => ?_
  simp only [List.set_cons_zero, List.set_cons_succ] at hM7
  refine wl_set hM7 0 (cs := (elR 1)) rfl rfl rfl rfl rowNu rfl (one_el 1) rfl rfl fun W8 hM8 => ?_
  simp only [List.set_cons_zero, List.set_cons_succ] at hM8
  refine wpList_nil ?_
  (go_step; go_step; go_step; refine wp_region_lit ?_)
  refine wl_row hM8 1 (v := numV 0) rfl rfl rfl rfl rowNu rfl ?_
  simp only [Act.put, List.setIfInBounds_toArray, List.set_cons_zero, List.set_cons_succ]
  refine wl_row hM8 0 (v := numV 1) rfl rfl rfl rfl rowNu rfl ?_
  simp only [Act.put, List.setIfInBounds_toArray, List.set_cons_zero, List.set_cons_succ]
  refine wl_call hM8 (args := #[numV 0, numV 1]) (v := numV mN) (fun W => run_call_fn W (enters_of Try.func36 rfl rfl) rfl (by simp [Act.eval])) (rsub01 W8) rfl fun W9 hM9 => ?_
  simp only [Act.put, List.setIfInBounds_toArray, List.set_cons_zero, List.set_cons_succ]
  refine wl_new hM9 (f := fun b => .pointer (some ⟨b, 0, none⟩)) (ob := .cells z4 24 (0, 0)) (fun W => run_alloc_of rfl (al_Nu W)) rfl fun b5 W10 hM10 => ?_
  simp only [Act.put, List.setIfInBounds_toArray, List.set_cons_zero, List.set_cons_succ]
  refine wl_set hM10 0 (cs := (elR mN)) rfl rfl rfl rfl rowNu rfl (one_el mN) rfl rfl fun W11 hM11 => ?_
  simp only [List.set_cons_zero, List.set_cons_succ] at hM11
  refine wpList_nil ?_
  (go_step; go_step; go_step; refine wp_region_lit ?_)
  refine wl_row hM11 0 (v := numV mN) rfl rfl rfl rfl rowNu rfl ?_
  simp only [Act.put, List.setIfInBounds_toArray, List.set_cons_zero, List.set_cons_succ]
  refine wl_call hM11 (args := #[numV mN]) (v := .tuple #[numV iR, .bool true]) (fun W => run_call_fn W (enters_of Try.func37 rfl rfl) rfl (by simp [Act.eval])) (rroot_m W11) rfl fun W12 hM12 => ?_
  simp only [Act.put, List.setIfInBounds_toArray, List.set_cons_zero, List.set_cons_succ]
  refine wl_pure (v := .tuple #[numV iR, .bool true]) (fun _ => rfl) rfl ?_
  simp only [Act.put, List.setIfInBounds_toArray, List.set_cons_zero, List.set_cons_succ]
  refine wl_pure (v := numV iR) (fun _ => rfl) rfl ?_
  simp only [Act.put, List.setIfInBounds_toArray, List.set_cons_zero, List.set_cons_succ]
  refine wl_pure (v := .bool true) (fun _ => rfl) rfl ?_
  simp only [Act.put, List.setIfInBounds_toArray, List.set_cons_zero, List.set_cons_succ]
  refine wl_new hM12 (f := fun b => .pointer (some ⟨b, 0, none⟩)) (ob := .cells z4 24 (0, 0)) (fun W => run_alloc_of rfl (al_Nu W)) rfl fun b6 W13 hM13 => ?_
  simp only [Act.put, List.setIfInBounds_toArray, List.set_cons_zero, List.set_cons_succ]
  refine wl_set hM13 0 (cs := (elR iR)) rfl rfl rfl rfl rowNu rfl (one_el iR) rfl rfl fun W14 hM14 => ?_
  simp only [List.set_cons_zero, List.set_cons_succ] at hM14
  refine wl_pure (v := .bool true) (fun _ => rfl) rfl ?_
  simp only [Act.put, List.setIfInBounds_toArray, List.set_cons_zero, List.set_cons_succ]
  refine wpList_nil ?_
  (go_step; go_step; go_step; refine wp_region_lit ?_)
  refine wl_call hM14 (args := #[]) (v := pv3 ((0, 1, 1))) (fun W => run_call_fn W (enters_of Try.func38 rfl rfl) rfl (by simp [Act.eval])) (rzero_any W14) rfl fun W15 hM15 => ?_
  simp only [Act.put, List.setIfInBounds_toArray, List.set_cons_zero, List.set_cons_succ]
  refine wl_new hM15 (f := fun b => .pointer (some ⟨b, 0, none⟩)) (ob := .cells z12 32 (0, 0)) (fun W => run_alloc_of rfl (al_Rp W)) rfl fun b7 W16 hM16 => ?_
  simp only [Act.put, List.setIfInBounds_toArray, List.set_cons_zero, List.set_cons_succ]
  refine wl_set hM16 0 (cs := ((rpL 0 1 1).toArray)) rfl rfl rfl rfl rowRp rfl (one_rp _ _ _) rfl rfl fun W17 hM17 => ?_
  simp only [List.set_cons_zero, List.set_cons_succ] at hM17
  refine wpList_nil ?_
  (go_step; go_step; go_step; go_step; refine wp_region_lit ?_)
  refine wl_pure (v := .int .u8 (k : Int)) (fun _ => rfl) rfl ?_
  simp only [Act.put, List.setIfInBounds_toArray, List.set_cons_zero, List.set_cons_succ]
  refine wl_pure (v := .int .u8 1) (fun W => run_bin_of rfl rfl rfl (bin_rem8 k 1 hk4 _ _ W)) rfl ?_
  simp only [Act.put, List.setIfInBounds_toArray, List.set_cons_zero, List.set_cons_succ]
  refine wpList_nil ?_
  (go_step; go_step; go_step; go_step; refine wp_region_lit ?_)
  refine wl_pure (v := .bool true) (fun W => run_eqint_of W rfl rfl rfl rfl) rfl ?_
  simp only [Act.put, List.setIfInBounds_toArray, List.set_cons_zero, List.set_cons_succ]
  refine wl_pure (v := .bool true) (fun _ => rfl) rfl ?_
  simp only [Act.put, List.setIfInBounds_toArray, List.set_cons_zero, List.set_cons_succ]
  refine wpList_nil ?_
  (go_step; go_step; go_step; refine wp_region_lit ?_)
  refine wl_row hM17 4 (v := numV 0) rfl rfl rfl rfl rowNu rfl ?_
  simp only [Act.put, List.setIfInBounds_toArray, List.set_cons_zero, List.set_cons_succ]
  refine wl_row hM17 2 (v := numV mN) rfl rfl rfl rfl rowNu rfl ?_
  simp only [Act.put, List.setIfInBounds_toArray, List.set_cons_zero, List.set_cons_succ]
  refine wl_call hM17 (args := #[numV 0, numV mN]) (v := pv3 ((0, mN, 1))) (fun W => run_call_fn W (enters_of Try.func39 rfl rfl) rfl (by simp [Act.eval])) (rmake_any 0 mN W17) rfl fun W18 hM18 => ?_
  simp only [Act.put, List.setIfInBounds_toArray, List.set_cons_zero, List.set_cons_succ]
  refine wl_set hM18 0 (cs := ((rpL 0 mN 1).toArray)) rfl rfl rfl rfl rowRp rfl (one_rp _ _ _) rfl rfl fun W19 hM19 => ?_
  simp only [List.set_cons_zero, List.set_cons_succ] at hM19
  refine wpList_nil ?_
  (go_step; go_step; go_step; refine wp_region_inz 11 9 rfl rfl (steady_extract rfl) (by kernel_rfl) (by decide) HMIX.out (by decide) (by kernel_rfl) (by kernel_rfl) ?_)
  refine inw_pure (v := .pointer (some ⟨b7, 0, none⟩)) (fun W => run_field_of rfl rfl (fa_R0 b7 W)) rfl rfl ?_; simp only [Act.put, List.setIfInBounds_toArray, List.set_cons_zero, List.set_cons_succ]
  refine inw_part hM19 0 (v := numV 0) (sub := elR 0) rfl rfl rfl rfl rfl rowNu rfl rfl ?_; simp only [Act.put, List.setIfInBounds_toArray, List.set_cons_zero, List.set_cons_succ]
  refine inw_callV (args := #[numV 0]) (v := numV 0) (fun W => run_call_fn W (enters_of Try.func34 rfl rfl) rfl (by simp [Act.eval])) (fun W _ => el'2 0 zero_below W) rfl rfl ?_; simp only [Act.put, List.setIfInBounds_toArray, List.set_cons_zero, List.set_cons_succ]
  refine inw_pure (v := .pointer (some ⟨b7, 4, none⟩)) (fun W => run_field_of rfl rfl (fa_R1 b7 W)) rfl rfl ?_; simp only [Act.put, List.setIfInBounds_toArray, List.set_cons_zero, List.set_cons_succ]
  refine inw_part hM19 0 (v := numV mN) (sub := elR mN) rfl rfl rfl rfl rfl rowNu rfl rfl ?_; simp only [Act.put, List.setIfInBounds_toArray, List.set_cons_zero, List.set_cons_succ]
  refine inw_callV (args := #[numV mN]) (v := numV mN) (fun W => run_call_fn W (enters_of Try.func34 rfl rfl) rfl (by simp [Act.eval])) (fun W _ => el'2 mN mN_lt W) rfl rfl ?_; simp only [Act.put, List.setIfInBounds_toArray, List.set_cons_zero, List.set_cons_succ]
  refine inw_callV (args := #[numV 0, numV mN]) (v := .tuple #[pv4 (at4 (((fz 0, fz mN) : Pt))), .int .i64 0]) (fun W => run_call_fn W (enters_of Try.func33 rfl rfl) rfl (by simp [Act.eval])) (fun W _ => make_pt ((fz 0, fz mN) : Pt) on_low1 0 mN (fzv zero_below) (fzv mN_lt) W) rfl rfl ?_; simp only [Act.put, List.setIfInBounds_toArray, List.set_cons_zero, List.set_cons_succ]
  refine inw_pure (v := .tuple #[pv4 (at4 (((fz 0, fz mN) : Pt))), .int .i64 0]) (fun _ => rfl) rfl rfl ?_; simp only [Act.put, List.setIfInBounds_toArray, List.set_cons_zero, List.set_cons_succ]
  refine inw_pure (v := pv4 (at4 (((fz 0, fz mN) : Pt)))) (fun _ => rfl) rfl rfl ?_; simp only [Act.put, List.setIfInBounds_toArray, List.set_cons_zero, List.set_cons_succ]
  refine inw_pure (v := .int .i64 0) (fun _ => rfl) rfl rfl ?_; simp only [Act.put, List.setIfInBounds_toArray, List.set_cons_zero, List.set_cons_succ]
  refine inw_new (.cells z16 30 (0, 0)) rfl rfl (fun A W => run_alloc_of rfl (al_Pt W)) ?_; simp only [List.nil_append, List.cons_append]
  refine inw_fin fun d os => ?_
  refine given_new (t := 10) rfl fun b8 lb8 gb8 => ?_
  refine given_nil fun hap => ?_
  simp only [Act.put, List.setIfInBounds_toArray, List.set_cons_zero, List.set_cons_succ] at hap ⊢
  have hM20 := hM19.news1 (below_regrown W19 d os) lb8 gb8 
  clear hap lb8 gb8
  generalize grow (redrawn W19 d) os = W20 at hM20 ⊢
  change wpAny _ _ _ _ 2 _ _ _
  refine any_set (n := 11) (by kernel_rfl) rfl hM20 0 (cs := ((pc4 (at4 (((fz 0, fz mN) : Pt)))))) rfl rfl rfl rfl rowPt rfl (one_p4 _) rfl rfl fun W21 hM21 => ?_
  simp only [List.set_cons_zero, List.set_cons_succ] at hM21
  refine any_pure (n := 12) (v := .int .i64 0) (by kernel_rfl) rfl (fun _ => rfl) rfl rfl ?_
  simp only [Act.put, List.setIfInBounds_toArray, List.set_cons_zero, List.set_cons_succ]
  refine wpAny_done (by kernel_rfl) ?_ _
  refine NoPanic.normal ?_
  have hMd := hM21.drew
  (go_step; go_step; go_step; refine wp_region_noPanic (wp_region_held_drew HMIX.out (S := fun w1 => w1.heap[b8]? = some (.cells ((pc4 (at4 (((fz 0, fz mN) : Pt))))) 30 (0, 0)) ∧ w1.heap[b7]? = some (.cells ((rpL 0 mN 1).toArray) 32 (0, 0))) (⟨hMd.get 0 rfl, hMd.get 1 rfl⟩) fun hS => ?_))
  change wpAnyH _ _ _ _ _ 4 _ _ _
  generalize W21.drew = W22 at hMd hS ⊢
  have hM22 := hMd
  clear hMd
  refine hd_row 0 52 #[true, false, false, false] (by kernel_rfl) (v := pv4 (at4 (((fz 0, fz mN) : Pt)))) (cs := ((pc4 (at4 (((fz 0, fz mN) : Pt)))))) (b := b8) rfl rfl rfl rfl (fun W hW => hW.1) rfl rowPt (by kernel_rfl) (by kernel_rfl) (by kernel_rfl) rfl hS ?_
  simp only [Act.put, List.setIfInBounds_toArray, List.set_cons_zero, List.set_cons_succ]
  refine hd_row 1 53 #[true, true, false, false] (by kernel_rfl) (v := pv3 ((0, mN, 1))) (cs := ((rpL 0 mN 1).toArray)) (b := b7) rfl rfl rfl rfl (fun W hW => hW.2) rfl rowRp (by kernel_rfl) (by kernel_rfl) (by kernel_rfl) rfl hS ?_
  simp only [Act.put, List.setIfInBounds_toArray, List.set_cons_zero, List.set_cons_succ]
  refine hd_set (n := 2) #[true, true, true, false] (by kernel_rfl) (by kernel_rfl) rfl hM22 7 (cs := ((pc4 (at4 (((fz 0, fz mN) : Pt)))))) rfl rfl rfl rfl rowPt rfl (one_p4 _) rfl rfl (fun W hW => ⟨hW.get 0 rfl, hW.get 1 rfl⟩) fun W23 hM23 => ?_
  simp only [List.set_cons_zero, List.set_cons_succ] at hM23
  refine hd_set (n := 3) #[true, true, true, true] (by kernel_rfl) (by kernel_rfl) rfl hM23 6 (cs := ((rpL 0 mN 1).toArray)) rfl rfl rfl rfl rowRp rfl (one_rp _ _ _) rfl rfl (fun W hW => ⟨hW.get 0 rfl, hW.get 1 rfl⟩) fun W24 hM24 => ?_
  simp only [List.set_cons_zero, List.set_cons_succ] at hM24
  refine wpAnyH_done (by kernel_rfl) ?_ _
  refine NoPanic.normal ?_
  (go_step; go_step; go_step; refine bodyPost_ret (v := .tuple #[pv4 (at4 (((fz 0, fz mN) : Pt))), pv3 ((0, mN, 1))]) (results_arr2 Try.results8 rfl rfl (hM24.load 7 rfl rowPt) (hM24.load 6 rfl rowRp)) rfl ⟨?_, hM24.below⟩)
  exact rfl
set_option maxRecDepth 20000 in
set_option maxHeartbeats 8000000 in
theorem low2 (k : Nat) (hk4 : k % 4 = 2) (w : World) : Calls Try.prog 8 #[.int .u8 (k : Int)] w fun E w' => E = .returned (.tuple #[pv4 (at4 (fz iR, fz 0)), pv3 (iR, 0, 1)]) ∧ Below w.heap.size w w' := by
  have HMIX := Lib.hid (show Try.prog.follows .mixedOrders = true by kernel_rfl)
  go_enter Try.func8, Try.ntmps8
  have hM0 := Mem.start w
  (go_step; go_step; refine wp_region_lit ?_)
  refine wl_new hM0 (f := fun b => .pointer (some ⟨b, 0, none⟩)) (ob := .cells z16 30 (0, 0)) (fun W => run_alloc_of rfl (al_Pt W)) rfl fun b1 W1 hM1 => ?_
  simp only [Act.put, List.setIfInBounds_toArray, List.set_cons_zero, List.set_cons_succ]
  refine wl_new hM1 (f := fun b => .pointer (some ⟨b, 0, none⟩)) (ob := .cells z12 32 (0, 0)) (fun W => run_alloc_of rfl (al_Rp W)) rfl fun b2 W2 hM2 => ?_
  simp only [Act.put, List.setIfInBounds_toArray, List.set_cons_zero, List.set_cons_succ]
  refine wpList_nil ?_
  (go_step; go_step; go_step; refine wp_region_lit ?_)
  refine wl_call hM2 (args := #[.int .u64 0]) (v := numV 0) (fun W => run_call_fn W (enters_of Try.func35 rfl rfl) rfl (by simp [Act.eval])) (rsmall' 0 (by decide) W2) rfl fun W3 hM3 => ?_
  simp only [Act.put, List.setIfInBounds_toArray, List.set_cons_zero, List.set_cons_succ]
  refine wl_call hM3 (args := #[.int .u64 1]) (v := numV 1) (fun W => run_call_fn W (enters_of Try.func35 rfl rfl) rfl (by simp [Act.eval])) (rsmall' 1 (by decide) W3) rfl fun W4 hM4 => ?_
  simp only [Act.put, List.setIfInBounds_toArray, List.set_cons_zero, List.set_cons_succ]
  refine wl_new hM4 (f := fun b => .pointer (some ⟨b, 0, none⟩)) (ob := .cells z4 24 (0, 0)) (fun W => run_alloc_of rfl (al_Nu W)) rfl fun b3 W5 hM5 => ?_
  simp only [Act.put, List.setIfInBounds_toArray, List.set_cons_zero, List.set_cons_succ]
  refine wl_new hM5 (f := fun b => .pointer (some ⟨b, 0, none⟩)) (ob := .cells z4 24 (0, 0)) (fun W => run_alloc_of rfl (al_Nu W)) rfl fun b4 W6 hM6 => ?_
  simp only [Act.put, List.setIfInBounds_toArray, List.set_cons_zero, List.set_cons_succ]
  refine wl_set hM6 1 (cs := (elR 0)) rfl rfl rfl rfl rowNu rfl (one_el 0) rfl rfl fun W7 hM7 => ?_
  simp only [List.set_cons_zero, List.set_cons_succ] at hM7
  refine wl_set hM7 0 (cs := (elR 1)) rfl rfl rfl rfl rowNu rfl (one_el 1) rfl rfl fun W8 hM8 => ?_
  simp only [List.set_cons_zero, List.set_cons_succ] at hM8
  refine wpList_nil ?_
  (go_step; go_step; go_step; refine wp_region_lit ?_)
  refine wl_row hM8 1 (v := numV 0) rfl rfl rfl rfl rowNu rfl ?_
  simp only [Act.put, List.setIfInBounds_toArray, List.set_cons_zero, List.set_cons_succ]
  refine wl_row hM8 0 (v := numV 1) rfl rfl rfl rfl rowNu rfl ?_
  simp only [Act.put, List.setIfInBounds_toArray, List.set_cons_zero, List.set_cons_succ]
  refine wl_call hM8 (args := #[numV 0, numV 1]) (v := numV mN) (fun W => run_call_fn W (enters_of Try.func36 rfl rfl) rfl (by simp [Act.eval])) (rsub01 W8) rfl fun W9 hM9 => ?_
  simp only [Act.put, List.setIfInBounds_toArray, List.set_cons_zero, List.set_cons_succ]
  refine wl_new hM9 (f := fun b => .pointer (some ⟨b, 0, none⟩)) (ob := .cells z4 24 (0, 0)) (fun W => run_alloc_of rfl (al_Nu W)) rfl fun b5 W10 hM10 => ?_
  simp only [Act.put, List.setIfInBounds_toArray, List.set_cons_zero, List.set_cons_succ]
  refine wl_set hM10 0 (cs := (elR mN)) rfl rfl rfl rfl rowNu rfl (one_el mN) rfl rfl fun W11 hM11 => ?_
  simp only [List.set_cons_zero, List.set_cons_succ] at hM11
  refine wpList_nil ?_
  (go_step; go_step; go_step; refine wp_region_lit ?_)
  refine wl_row hM11 0 (v := numV mN) rfl rfl rfl rfl rowNu rfl ?_
  simp only [Act.put, List.setIfInBounds_toArray, List.set_cons_zero, List.set_cons_succ]
  refine wl_call hM11 (args := #[numV mN]) (v := .tuple #[numV iR, .bool true]) (fun W => run_call_fn W (enters_of Try.func37 rfl rfl) rfl (by simp [Act.eval])) (rroot_m W11) rfl fun W12 hM12 => ?_
  simp only [Act.put, List.setIfInBounds_toArray, List.set_cons_zero, List.set_cons_succ]
  refine wl_pure (v := .tuple #[numV iR, .bool true]) (fun _ => rfl) rfl ?_
  simp only [Act.put, List.setIfInBounds_toArray, List.set_cons_zero, List.set_cons_succ]
  refine wl_pure (v := numV iR) (fun _ => rfl) rfl ?_
  simp only [Act.put, List.setIfInBounds_toArray, List.set_cons_zero, List.set_cons_succ]
  refine wl_pure (v := .bool true) (fun _ => rfl) rfl ?_
  simp only [Act.put, List.setIfInBounds_toArray, List.set_cons_zero, List.set_cons_succ]
  refine wl_new hM12 (f := fun b => .pointer (some ⟨b, 0, none⟩)) (ob := .cells z4 24 (0, 0)) (fun W => run_alloc_of rfl (al_Nu W)) rfl fun b6 W13 hM13 => ?_
  simp only [Act.put, List.setIfInBounds_toArray, List.set_cons_zero, List.set_cons_succ]
  refine wl_set hM13 0 (cs := (elR iR)) rfl rfl rfl rfl rowNu rfl (one_el iR) rfl rfl fun W14 hM14 => ?_
  simp only [List.set_cons_zero, List.set_cons_succ] at hM14
  refine wl_pure (v := .bool true) (fun _ => rfl) rfl ?_
  simp only [Act.put, List.setIfInBounds_toArray, List.set_cons_zero, List.set_cons_succ]
  refine wpList_nil ?_
  (go_step; go_step; go_step; refine wp_region_lit ?_)
  refine wl_call hM14 (args := #[]) (v := pv3 ((0, 1, 1))) (fun W => run_call_fn W (enters_of Try.func38 rfl rfl) rfl (by simp [Act.eval])) (rzero_any W14) rfl fun W15 hM15 => ?_
  simp only [Act.put, List.setIfInBounds_toArray, List.set_cons_zero, List.set_cons_succ]
  refine wl_new hM15 (f := fun b => .pointer (some ⟨b, 0, none⟩)) (ob := .cells z12 32 (0, 0)) (fun W => run_alloc_of rfl (al_Rp W)) rfl fun b7 W16 hM16 => ?_
  simp only [Act.put, List.setIfInBounds_toArray, List.set_cons_zero, List.set_cons_succ]
  refine wl_set hM16 0 (cs := ((rpL 0 1 1).toArray)) rfl rfl rfl rfl rowRp rfl (one_rp _ _ _) rfl rfl fun W17 hM17 => ?_
  simp only [List.set_cons_zero, List.set_cons_succ] at hM17
  refine wpList_nil ?_
  (go_step; go_step; go_step; go_step; refine wp_region_lit ?_)
  refine wl_pure (v := .int .u8 (k : Int)) (fun _ => rfl) rfl ?_
  simp only [Act.put, List.setIfInBounds_toArray, List.set_cons_zero, List.set_cons_succ]
  refine wl_pure (v := .int .u8 2) (fun W => run_bin_of rfl rfl rfl (bin_rem8 k 2 hk4 _ _ W)) rfl ?_
  simp only [Act.put, List.setIfInBounds_toArray, List.set_cons_zero, List.set_cons_succ]
  refine wpList_nil ?_
  (go_step; go_step; go_step; go_step; refine wp_region_lit ?_)
  refine wl_pure (v := .bool false) (fun W => run_eqint_of W rfl rfl rfl rfl) rfl ?_
  simp only [Act.put, List.setIfInBounds_toArray, List.set_cons_zero, List.set_cons_succ]
  refine wl_pure (v := .bool false) (fun _ => rfl) rfl ?_
  simp only [Act.put, List.setIfInBounds_toArray, List.set_cons_zero, List.set_cons_succ]
  refine wpList_nil ?_
  (go_step; go_step; go_step; go_step; refine wp_region_lit ?_)
  refine wl_pure (v := .bool true) (fun W => run_eqint_of W rfl rfl rfl rfl) rfl ?_
  simp only [Act.put, List.setIfInBounds_toArray, List.set_cons_zero, List.set_cons_succ]
  refine wl_pure (v := .bool true) (fun _ => rfl) rfl ?_
  simp only [Act.put, List.setIfInBounds_toArray, List.set_cons_zero, List.set_cons_succ]
  refine wpList_nil ?_
  (go_step; go_step; go_step; refine wp_region_lit ?_)
  refine wl_row hM17 1 (v := numV iR) rfl rfl rfl rfl rowNu rfl ?_
  simp only [Act.put, List.setIfInBounds_toArray, List.set_cons_zero, List.set_cons_succ]
  refine wl_row hM17 4 (v := numV 0) rfl rfl rfl rfl rowNu rfl ?_
  simp only [Act.put, List.setIfInBounds_toArray, List.set_cons_zero, List.set_cons_succ]
  refine wl_call hM17 (args := #[numV iR, numV 0]) (v := pv3 ((iR, 0, 1))) (fun W => run_call_fn W (enters_of Try.func39 rfl rfl) rfl (by simp [Act.eval])) (rmake_any iR 0 W17) rfl fun W18 hM18 => ?_
  simp only [Act.put, List.setIfInBounds_toArray, List.set_cons_zero, List.set_cons_succ]
  refine wl_set hM18 0 (cs := ((rpL iR 0 1).toArray)) rfl rfl rfl rfl rowRp rfl (one_rp _ _ _) rfl rfl fun W19 hM19 => ?_
  simp only [List.set_cons_zero, List.set_cons_succ] at hM19
  refine wpList_nil ?_
  (go_step; go_step; go_step; refine wp_region_inz 11 9 rfl rfl (steady_extract rfl) (by kernel_rfl) (by decide) HMIX.out (by decide) (by kernel_rfl) (by kernel_rfl) ?_)
  refine inw_pure (v := .pointer (some ⟨b7, 0, none⟩)) (fun W => run_field_of rfl rfl (fa_R0 b7 W)) rfl rfl ?_; simp only [Act.put, List.setIfInBounds_toArray, List.set_cons_zero, List.set_cons_succ]
  refine inw_part hM19 0 (v := numV iR) (sub := elR iR) rfl rfl rfl rfl rfl rowNu rfl rfl ?_; simp only [Act.put, List.setIfInBounds_toArray, List.set_cons_zero, List.set_cons_succ]
  refine inw_callV (args := #[numV iR]) (v := numV iR) (fun W => run_call_fn W (enters_of Try.func34 rfl rfl) rfl (by simp [Act.eval])) (fun W _ => el'2 iR iR_lt W) rfl rfl ?_; simp only [Act.put, List.setIfInBounds_toArray, List.set_cons_zero, List.set_cons_succ]
  refine inw_pure (v := .pointer (some ⟨b7, 4, none⟩)) (fun W => run_field_of rfl rfl (fa_R1 b7 W)) rfl rfl ?_; simp only [Act.put, List.setIfInBounds_toArray, List.set_cons_zero, List.set_cons_succ]
  refine inw_part hM19 0 (v := numV 0) (sub := elR 0) rfl rfl rfl rfl rfl rowNu rfl rfl ?_; simp only [Act.put, List.setIfInBounds_toArray, List.set_cons_zero, List.set_cons_succ]
  refine inw_callV (args := #[numV 0]) (v := numV 0) (fun W => run_call_fn W (enters_of Try.func34 rfl rfl) rfl (by simp [Act.eval])) (fun W _ => el'2 0 zero_below W) rfl rfl ?_; simp only [Act.put, List.setIfInBounds_toArray, List.set_cons_zero, List.set_cons_succ]
  refine inw_callV (args := #[numV iR, numV 0]) (v := .tuple #[pv4 (at4 (((fz iR, fz 0) : Pt))), .int .i64 0]) (fun W => run_call_fn W (enters_of Try.func33 rfl rfl) rfl (by simp [Act.eval])) (fun W _ => make_pt ((fz iR, fz 0) : Pt) on_low2 iR 0 (fzv iR_lt) (fzv zero_below) W) rfl rfl ?_; simp only [Act.put, List.setIfInBounds_toArray, List.set_cons_zero, List.set_cons_succ]
  refine inw_pure (v := .tuple #[pv4 (at4 (((fz iR, fz 0) : Pt))), .int .i64 0]) (fun _ => rfl) rfl rfl ?_; simp only [Act.put, List.setIfInBounds_toArray, List.set_cons_zero, List.set_cons_succ]
  refine inw_pure (v := pv4 (at4 (((fz iR, fz 0) : Pt)))) (fun _ => rfl) rfl rfl ?_; simp only [Act.put, List.setIfInBounds_toArray, List.set_cons_zero, List.set_cons_succ]
  refine inw_pure (v := .int .i64 0) (fun _ => rfl) rfl rfl ?_; simp only [Act.put, List.setIfInBounds_toArray, List.set_cons_zero, List.set_cons_succ]
  refine inw_new (.cells z16 30 (0, 0)) rfl rfl (fun A W => run_alloc_of rfl (al_Pt W)) ?_; simp only [List.nil_append, List.cons_append]
  refine inw_fin fun d os => ?_
  refine given_new (t := 10) rfl fun b8 lb8 gb8 => ?_
  refine given_nil fun hap => ?_
  simp only [Act.put, List.setIfInBounds_toArray, List.set_cons_zero, List.set_cons_succ] at hap ⊢
  have hM20 := hM19.news1 (below_regrown W19 d os) lb8 gb8 
  clear hap lb8 gb8
  generalize grow (redrawn W19 d) os = W20 at hM20 ⊢
  change wpAny _ _ _ _ 2 _ _ _
  refine any_set (n := 11) (by kernel_rfl) rfl hM20 0 (cs := ((pc4 (at4 (((fz iR, fz 0) : Pt)))))) rfl rfl rfl rfl rowPt rfl (one_p4 _) rfl rfl fun W21 hM21 => ?_
  simp only [List.set_cons_zero, List.set_cons_succ] at hM21
  refine any_pure (n := 12) (v := .int .i64 0) (by kernel_rfl) rfl (fun _ => rfl) rfl rfl ?_
  simp only [Act.put, List.setIfInBounds_toArray, List.set_cons_zero, List.set_cons_succ]
  refine wpAny_done (by kernel_rfl) ?_ _
  refine NoPanic.normal ?_
  have hMd := hM21.drew
  (go_step; go_step; go_step; refine wp_region_noPanic (wp_region_held_drew HMIX.out (S := fun w1 => w1.heap[b8]? = some (.cells ((pc4 (at4 (((fz iR, fz 0) : Pt))))) 30 (0, 0)) ∧ w1.heap[b7]? = some (.cells ((rpL iR 0 1).toArray) 32 (0, 0))) (⟨hMd.get 0 rfl, hMd.get 1 rfl⟩) fun hS => ?_))
  change wpAnyH _ _ _ _ _ 4 _ _ _
  generalize W21.drew = W22 at hMd hS ⊢
  have hM22 := hMd
  clear hMd
  refine hd_row 0 52 #[true, false, false, false] (by kernel_rfl) (v := pv4 (at4 (((fz iR, fz 0) : Pt)))) (cs := ((pc4 (at4 (((fz iR, fz 0) : Pt)))))) (b := b8) rfl rfl rfl rfl (fun W hW => hW.1) rfl rowPt (by kernel_rfl) (by kernel_rfl) (by kernel_rfl) rfl hS ?_
  simp only [Act.put, List.setIfInBounds_toArray, List.set_cons_zero, List.set_cons_succ]
  refine hd_row 1 53 #[true, true, false, false] (by kernel_rfl) (v := pv3 ((iR, 0, 1))) (cs := ((rpL iR 0 1).toArray)) (b := b7) rfl rfl rfl rfl (fun W hW => hW.2) rfl rowRp (by kernel_rfl) (by kernel_rfl) (by kernel_rfl) rfl hS ?_
  simp only [Act.put, List.setIfInBounds_toArray, List.set_cons_zero, List.set_cons_succ]
  refine hd_set (n := 2) #[true, true, true, false] (by kernel_rfl) (by kernel_rfl) rfl hM22 7 (cs := ((pc4 (at4 (((fz iR, fz 0) : Pt)))))) rfl rfl rfl rfl rowPt rfl (one_p4 _) rfl rfl (fun W hW => ⟨hW.get 0 rfl, hW.get 1 rfl⟩) fun W23 hM23 => ?_
  simp only [List.set_cons_zero, List.set_cons_succ] at hM23
  refine hd_set (n := 3) #[true, true, true, true] (by kernel_rfl) (by kernel_rfl) rfl hM23 6 (cs := ((rpL iR 0 1).toArray)) rfl rfl rfl rfl rowRp rfl (one_rp _ _ _) rfl rfl (fun W hW => ⟨hW.get 0 rfl, hW.get 1 rfl⟩) fun W24 hM24 => ?_
  simp only [List.set_cons_zero, List.set_cons_succ] at hM24
  refine wpAnyH_done (by kernel_rfl) ?_ _
  refine NoPanic.normal ?_
  (go_step; go_step; go_step; refine bodyPost_ret (v := .tuple #[pv4 (at4 (((fz iR, fz 0) : Pt))), pv3 ((iR, 0, 1))]) (results_arr2 Try.results8 rfl rfl (hM24.load 7 rfl rowPt) (hM24.load 6 rfl rowRp)) rfl ⟨?_, hM24.below⟩)
  exact rfl
set_option maxRecDepth 20000 in
set_option maxHeartbeats 8000000 in
theorem low3 (k : Nat) (hk4 : k % 4 = 3) (w : World) : Calls Try.prog 8 #[.int .u8 (k : Int)] w fun E w' => E = .returned (.tuple #[pv4 (at4 (fz jR, fz 0)), pv3 (jR, 0, 1)]) ∧ Below w.heap.size w w' := by
  have HMIX := Lib.hid (show Try.prog.follows .mixedOrders = true by kernel_rfl)
  go_enter Try.func8, Try.ntmps8
  have hM0 := Mem.start w
  (go_step; go_step; refine wp_region_lit ?_)
  refine wl_new hM0 (f := fun b => .pointer (some ⟨b, 0, none⟩)) (ob := .cells z16 30 (0, 0)) (fun W => run_alloc_of rfl (al_Pt W)) rfl fun b1 W1 hM1 => ?_
  simp only [Act.put, List.setIfInBounds_toArray, List.set_cons_zero, List.set_cons_succ]
  refine wl_new hM1 (f := fun b => .pointer (some ⟨b, 0, none⟩)) (ob := .cells z12 32 (0, 0)) (fun W => run_alloc_of rfl (al_Rp W)) rfl fun b2 W2 hM2 => ?_
  simp only [Act.put, List.setIfInBounds_toArray, List.set_cons_zero, List.set_cons_succ]
  refine wpList_nil ?_
  (go_step; go_step; go_step; refine wp_region_lit ?_)
  refine wl_call hM2 (args := #[.int .u64 0]) (v := numV 0) (fun W => run_call_fn W (enters_of Try.func35 rfl rfl) rfl (by simp [Act.eval])) (rsmall' 0 (by decide) W2) rfl fun W3 hM3 => ?_
  simp only [Act.put, List.setIfInBounds_toArray, List.set_cons_zero, List.set_cons_succ]
  refine wl_call hM3 (args := #[.int .u64 1]) (v := numV 1) (fun W => run_call_fn W (enters_of Try.func35 rfl rfl) rfl (by simp [Act.eval])) (rsmall' 1 (by decide) W3) rfl fun W4 hM4 => ?_
  simp only [Act.put, List.setIfInBounds_toArray, List.set_cons_zero, List.set_cons_succ]
  refine wl_new hM4 (f := fun b => .pointer (some ⟨b, 0, none⟩)) (ob := .cells z4 24 (0, 0)) (fun W => run_alloc_of rfl (al_Nu W)) rfl fun b3 W5 hM5 => ?_
  simp only [Act.put, List.setIfInBounds_toArray, List.set_cons_zero, List.set_cons_succ]
  refine wl_new hM5 (f := fun b => .pointer (some ⟨b, 0, none⟩)) (ob := .cells z4 24 (0, 0)) (fun W => run_alloc_of rfl (al_Nu W)) rfl fun b4 W6 hM6 => ?_
  simp only [Act.put, List.setIfInBounds_toArray, List.set_cons_zero, List.set_cons_succ]
  refine wl_set hM6 1 (cs := (elR 0)) rfl rfl rfl rfl rowNu rfl (one_el 0) rfl rfl fun W7 hM7 => ?_
  simp only [List.set_cons_zero, List.set_cons_succ] at hM7
  refine wl_set hM7 0 (cs := (elR 1)) rfl rfl rfl rfl rowNu rfl (one_el 1) rfl rfl fun W8 hM8 => ?_
  simp only [List.set_cons_zero, List.set_cons_succ] at hM8
  refine wpList_nil ?_
  (go_step; go_step; go_step; refine wp_region_lit ?_)
  refine wl_row hM8 1 (v := numV 0) rfl rfl rfl rfl rowNu rfl ?_
  simp only [Act.put, List.setIfInBounds_toArray, List.set_cons_zero, List.set_cons_succ]
  refine wl_row hM8 0 (v := numV 1) rfl rfl rfl rfl rowNu rfl ?_
  simp only [Act.put, List.setIfInBounds_toArray, List.set_cons_zero, List.set_cons_succ]
  refine wl_call hM8 (args := #[numV 0, numV 1]) (v := numV mN) (fun W => run_call_fn W (enters_of Try.func36 rfl rfl) rfl (by simp [Act.eval])) (rsub01 W8) rfl fun W9 hM9 => ?_
  simp only [Act.put, List.setIfInBounds_toArray, List.set_cons_zero, List.set_cons_succ]
  refine wl_new hM9 (f := fun b => .pointer (some ⟨b, 0, none⟩)) (ob := .cells z4 24 (0, 0)) (fun W => run_alloc_of rfl (al_Nu W)) rfl fun b5 W10 hM10 => ?_
  simp only [Act.put, List.setIfInBounds_toArray, List.set_cons_zero, List.set_cons_succ]
  refine wl_set hM10 0 (cs := (elR mN)) rfl rfl rfl rfl rowNu rfl (one_el mN) rfl rfl fun W11 hM11 => ?_
  simp only [List.set_cons_zero, List.set_cons_succ] at hM11
  refine wpList_nil ?_
  (go_step; go_step; go_step; refine wp_region_lit ?_)
  refine wl_row hM11 0 (v := numV mN) rfl rfl rfl rfl rowNu rfl ?_
  simp only [Act.put, List.setIfInBounds_toArray, List.set_cons_zero, List.set_cons_succ]
  refine wl_call hM11 (args := #[numV mN]) (v := .tuple #[numV iR, .bool true]) (fun W => run_call_fn W (enters_of Try.func37 rfl rfl) rfl (by simp [Act.eval])) (rroot_m W11) rfl fun W12 hM12 => ?_
  simp only [Act.put, List.setIfInBounds_toArray, List.set_cons_zero, List.set_cons_succ]
  refine wl_pure (v := .tuple #[numV iR, .bool true]) (fun _ => rfl) rfl ?_
  simp only [Act.put, List.setIfInBounds_toArray, List.set_cons_zero, List.set_cons_succ]
  refine wl_pure (v := numV iR) (fun _ => rfl) rfl ?_
  simp only [Act.put, List.setIfInBounds_toArray, List.set_cons_zero, List.set_cons_succ]
  refine wl_pure (v := .bool true) (fun _ => rfl) rfl ?_
  simp only [Act.put, List.setIfInBounds_toArray, List.set_cons_zero, List.set_cons_succ]
  refine wl_new hM12 (f := fun b => .pointer (some ⟨b, 0, none⟩)) (ob := .cells z4 24 (0, 0)) (fun W => run_alloc_of rfl (al_Nu W)) rfl fun b6 W13 hM13 => ?_
  simp only [Act.put, List.setIfInBounds_toArray, List.set_cons_zero, List.set_cons_succ]
  refine wl_set hM13 0 (cs := (elR iR)) rfl rfl rfl rfl rowNu rfl (one_el iR) rfl rfl fun W14 hM14 => ?_
  simp only [List.set_cons_zero, List.set_cons_succ] at hM14
  refine wl_pure (v := .bool true) (fun _ => rfl) rfl ?_
  simp only [Act.put, List.setIfInBounds_toArray, List.set_cons_zero, List.set_cons_succ]
  refine wpList_nil ?_
  (go_step; go_step; go_step; refine wp_region_lit ?_)
  refine wl_call hM14 (args := #[]) (v := pv3 ((0, 1, 1))) (fun W => run_call_fn W (enters_of Try.func38 rfl rfl) rfl (by simp [Act.eval])) (rzero_any W14) rfl fun W15 hM15 => ?_
  simp only [Act.put, List.setIfInBounds_toArray, List.set_cons_zero, List.set_cons_succ]
  refine wl_new hM15 (f := fun b => .pointer (some ⟨b, 0, none⟩)) (ob := .cells z12 32 (0, 0)) (fun W => run_alloc_of rfl (al_Rp W)) rfl fun b7 W16 hM16 => ?_
  simp only [Act.put, List.setIfInBounds_toArray, List.set_cons_zero, List.set_cons_succ]
  refine wl_set hM16 0 (cs := ((rpL 0 1 1).toArray)) rfl rfl rfl rfl rowRp rfl (one_rp _ _ _) rfl rfl fun W17 hM17 => ?_
  simp only [List.set_cons_zero, List.set_cons_succ] at hM17
  refine wpList_nil ?_
  (go_step; go_step; go_step; go_step; refine wp_region_lit ?_)
  refine wl_pure (v := .int .u8 (k : Int)) (fun _ => rfl) rfl ?_
  simp only [Act.put, List.setIfInBounds_toArray, List.set_cons_zero, List.set_cons_succ]
  refine wl_pure (v := .int .u8 3) (fun W => run_bin_of rfl rfl rfl (bin_rem8 k 3 hk4 _ _ W)) rfl ?_
  simp only [Act.put, List.setIfInBounds_toArray, List.set_cons_zero, List.set_cons_succ]
  refine wpList_nil ?_
  (go_step; go_step; go_step; go_step; refine wp_region_lit ?_)
  refine wl_pure (v := .bool false) (fun W => run_eqint_of W rfl rfl rfl rfl) rfl ?_
  simp only [Act.put, List.setIfInBounds_toArray, List.set_cons_zero, List.set_cons_succ]
  refine wl_pure (v := .bool false) (fun _ => rfl) rfl ?_
  simp only [Act.put, List.setIfInBounds_toArray, List.set_cons_zero, List.set_cons_succ]
  refine wpList_nil ?_
  (go_step; go_step; go_step; go_step; refine wp_region_lit ?_)
  refine wl_pure (v := .bool false) (fun W => run_eqint_of W rfl rfl rfl rfl) rfl ?_
  simp only [Act.put, List.setIfInBounds_toArray, List.set_cons_zero, List.set_cons_succ]
  refine wl_pure (v := .bool false) (fun _ => rfl) rfl ?_
  simp only [Act.put, List.setIfInBounds_toArray, List.set_cons_zero, List.set_cons_succ]
  refine wpList_nil ?_
  (go_step; go_step; go_step; go_step; refine wp_region_lit ?_)
  refine wl_pure (v := .bool true) (fun W => run_eqint_of W rfl rfl rfl rfl) rfl ?_
  simp only [Act.put, List.setIfInBounds_toArray, List.set_cons_zero, List.set_cons_succ]
  refine wl_pure (v := .bool true) (fun _ => rfl) rfl ?_
  simp only [Act.put, List.setIfInBounds_toArray, List.set_cons_zero, List.set_cons_succ]
  refine wpList_nil ?_
  (go_step; go_step; go_step; refine wp_region_inw 5 HMIX.out (by decide) (by kernel_rfl) (by kernel_rfl) ?_)
  refine inw_row hM17 4 (v := numV 0) rfl rfl rfl rfl rowNu rfl rfl ?_; simp only [Act.put, List.setIfInBounds_toArray, List.set_cons_zero, List.set_cons_succ]
  refine inw_row hM17 1 (v := numV iR) rfl rfl rfl rfl rowNu rfl rfl ?_; simp only [Act.put, List.setIfInBounds_toArray, List.set_cons_zero, List.set_cons_succ]
  refine inw_callV (args := #[numV 0, numV iR]) (v := numV jR) (fun W => run_call_fn W (enters_of Try.func36 rfl rfl) rfl (by simp [Act.eval])) (fun W _ => rsub0i W) rfl rfl ?_; simp only [Act.put, List.setIfInBounds_toArray, List.set_cons_zero, List.set_cons_succ]
  refine inw_row hM17 4 (v := numV 0) rfl rfl rfl rfl rowNu rfl rfl ?_; simp only [Act.put, List.setIfInBounds_toArray, List.set_cons_zero, List.set_cons_succ]
  refine inw_callV (args := #[numV jR, numV 0]) (v := pv3 ((jR, 0, 1))) (fun W => run_call_fn W (enters_of Try.func39 rfl rfl) rfl (by simp [Act.eval])) (fun W _ => rmake_any jR 0 W) rfl rfl ?_; simp only [Act.put, List.setIfInBounds_toArray, List.set_cons_zero, List.set_cons_succ]
  refine inw_fin fun d os => ?_
  refine given_nil fun hap => ?_
  have hM18 := hM17.calls (below_regrown W17 d os)
  clear hap 
  generalize grow (redrawn W17 d) os = W18 at hM18 ⊢
  change wpAny _ _ _ _ 1 _ _ _
  refine any_set (n := 5) (by kernel_rfl) rfl hM18 0 (cs := ((rpL jR 0 1).toArray)) rfl rfl rfl rfl rowRp rfl (one_rp _ _ _) rfl rfl fun W19 hM19 => ?_
  simp only [List.set_cons_zero, List.set_cons_succ] at hM19
  refine wpAny_done (by kernel_rfl) ?_ _
  (go_step; go_step; go_step; refine wp_region_inz 11 9 rfl rfl (steady_extract rfl) (by kernel_rfl) (by decide) HMIX.out (by decide) (by kernel_rfl) (by kernel_rfl) ?_)
  refine inw_pure (v := .pointer (some ⟨b7, 0, none⟩)) (fun W => run_field_of rfl rfl (fa_R0 b7 W)) rfl rfl ?_; simp only [Act.put, List.setIfInBounds_toArray, List.set_cons_zero, List.set_cons_succ]
  refine inw_part hM19 0 (v := numV jR) (sub := elR jR) rfl rfl rfl rfl rfl rowNu rfl rfl ?_; simp only [Act.put, List.setIfInBounds_toArray, List.set_cons_zero, List.set_cons_succ]
  refine inw_callV (args := #[numV jR]) (v := numV jR) (fun W => run_call_fn W (enters_of Try.func34 rfl rfl) rfl (by simp [Act.eval])) (fun W _ => el'2 jR jR_lt W) rfl rfl ?_; simp only [Act.put, List.setIfInBounds_toArray, List.set_cons_zero, List.set_cons_succ]
  refine inw_pure (v := .pointer (some ⟨b7, 4, none⟩)) (fun W => run_field_of rfl rfl (fa_R1 b7 W)) rfl rfl ?_; simp only [Act.put, List.setIfInBounds_toArray, List.set_cons_zero, List.set_cons_succ]
  refine inw_part hM19 0 (v := numV 0) (sub := elR 0) rfl rfl rfl rfl rfl rowNu rfl rfl ?_; simp only [Act.put, List.setIfInBounds_toArray, List.set_cons_zero, List.set_cons_succ]
  refine inw_callV (args := #[numV 0]) (v := numV 0) (fun W => run_call_fn W (enters_of Try.func34 rfl rfl) rfl (by simp [Act.eval])) (fun W _ => el'2 0 zero_below W) rfl rfl ?_; simp only [Act.put, List.setIfInBounds_toArray, List.set_cons_zero, List.set_cons_succ]
  refine inw_callV (args := #[numV jR, numV 0]) (v := .tuple #[pv4 (at4 (((fz jR, fz 0) : Pt))), .int .i64 0]) (fun W => run_call_fn W (enters_of Try.func33 rfl rfl) rfl (by simp [Act.eval])) (fun W _ => make_pt ((fz jR, fz 0) : Pt) on_low3 jR 0 (fzv jR_lt) (fzv zero_below) W) rfl rfl ?_; simp only [Act.put, List.setIfInBounds_toArray, List.set_cons_zero, List.set_cons_succ]
  refine inw_pure (v := .tuple #[pv4 (at4 (((fz jR, fz 0) : Pt))), .int .i64 0]) (fun _ => rfl) rfl rfl ?_; simp only [Act.put, List.setIfInBounds_toArray, List.set_cons_zero, List.set_cons_succ]
  refine inw_pure (v := pv4 (at4 (((fz jR, fz 0) : Pt)))) (fun _ => rfl) rfl rfl ?_; simp only [Act.put, List.setIfInBounds_toArray, List.set_cons_zero, List.set_cons_succ]
  refine inw_pure (v := .int .i64 0) (fun _ => rfl) rfl rfl ?_; simp only [Act.put, List.setIfInBounds_toArray, List.set_cons_zero, List.set_cons_succ]
  refine inw_new (.cells z16 30 (0, 0)) rfl rfl (fun A W => run_alloc_of rfl (al_Pt W)) ?_; simp only [List.nil_append, List.cons_append]
  refine inw_fin fun d os => ?_
  refine given_new (t := 10) rfl fun b8 lb8 gb8 => ?_
  refine given_nil fun hap => ?_
  simp only [Act.put, List.setIfInBounds_toArray, List.set_cons_zero, List.set_cons_succ] at hap ⊢
  have hM20 := hM19.news1 (below_regrown W19 d os) lb8 gb8 
  clear hap lb8 gb8
  generalize grow (redrawn W19 d) os = W20 at hM20 ⊢
  change wpAny _ _ _ _ 2 _ _ _
  refine any_set (n := 11) (by kernel_rfl) rfl hM20 0 (cs := ((pc4 (at4 (((fz jR, fz 0) : Pt)))))) rfl rfl rfl rfl rowPt rfl (one_p4 _) rfl rfl fun W21 hM21 => ?_
  simp only [List.set_cons_zero, List.set_cons_succ] at hM21
  refine any_pure (n := 12) (v := .int .i64 0) (by kernel_rfl) rfl (fun _ => rfl) rfl rfl ?_
  simp only [Act.put, List.setIfInBounds_toArray, List.set_cons_zero, List.set_cons_succ]
  refine wpAny_done (by kernel_rfl) ?_ _
  refine NoPanic.normal ?_
  have hMd := hM21.drew
  (go_step; go_step; go_step; refine wp_region_noPanic (wp_region_held_drew HMIX.out (S := fun w1 => w1.heap[b8]? = some (.cells ((pc4 (at4 (((fz jR, fz 0) : Pt))))) 30 (0, 0)) ∧ w1.heap[b7]? = some (.cells ((rpL jR 0 1).toArray) 32 (0, 0))) (⟨hMd.get 0 rfl, hMd.get 1 rfl⟩) fun hS => ?_))
  change wpAnyH _ _ _ _ _ 4 _ _ _
  generalize W21.drew = W22 at hMd hS ⊢
  have hM22 := hMd
  clear hMd
  refine hd_row 0 52 #[true, false, false, false] (by kernel_rfl) (v := pv4 (at4 (((fz jR, fz 0) : Pt)))) (cs := ((pc4 (at4 (((fz jR, fz 0) : Pt)))))) (b := b8) rfl rfl rfl rfl (fun W hW => hW.1) rfl rowPt (by kernel_rfl) (by kernel_rfl) (by kernel_rfl) rfl hS ?_
  simp only [Act.put, List.setIfInBounds_toArray, List.set_cons_zero, List.set_cons_succ]
  refine hd_row 1 53 #[true, true, false, false] (by kernel_rfl) (v := pv3 ((jR, 0, 1))) (cs := ((rpL jR 0 1).toArray)) (b := b7) rfl rfl rfl rfl (fun W hW => hW.2) rfl rowRp (by kernel_rfl) (by kernel_rfl) (by kernel_rfl) rfl hS ?_
  simp only [Act.put, List.setIfInBounds_toArray, List.set_cons_zero, List.set_cons_succ]
  refine hd_set (n := 2) #[true, true, true, false] (by kernel_rfl) (by kernel_rfl) rfl hM22 7 (cs := ((pc4 (at4 (((fz jR, fz 0) : Pt)))))) rfl rfl rfl rfl rowPt rfl (one_p4 _) rfl rfl (fun W hW => ⟨hW.get 0 rfl, hW.get 1 rfl⟩) fun W23 hM23 => ?_
  simp only [List.set_cons_zero, List.set_cons_succ] at hM23
  refine hd_set (n := 3) #[true, true, true, true] (by kernel_rfl) (by kernel_rfl) rfl hM23 6 (cs := ((rpL jR 0 1).toArray)) rfl rfl rfl rfl rowRp rfl (one_rp _ _ _) rfl rfl (fun W hW => ⟨hW.get 0 rfl, hW.get 1 rfl⟩) fun W24 hM24 => ?_
  simp only [List.set_cons_zero, List.set_cons_succ] at hM24
  refine wpAnyH_done (by kernel_rfl) ?_ _
  refine NoPanic.normal ?_
  (go_step; go_step; go_step; refine bodyPost_ret (v := .tuple #[pv4 (at4 (((fz jR, fz 0) : Pt))), pv3 ((jR, 0, 1))]) (results_arr2 Try.results8 rfl rfl (hM24.load 7 rfl rowPt) (hM24.load 6 rfl rowRp)) rfl ⟨?_, hM24.below⟩)
  exact rfl
theorem low_any (k : Nat) : ∃ (a : N4) (b : N3) (p : Pt), Ok4 a p ∧ Ok3 b p ∧ ∀ w, Calls Try.prog 8 #[.int .u8 (k : Int)] w fun E w' => E = .returned (.tuple #[pv4 a, pv3 b]) ∧ Below w.heap.size w w' := by
  have h4 : k % 4 = 0 ∨ k % 4 = 1 ∨ k % 4 = 2 ∨ k % 4 = 3 := by omega
  rcases h4 with h | h | h | h
  · exact ⟨_, _, _, ok4_p _ on_low0, ok3_at 0 1 zero_below one_below on_low0, low0 k h⟩
  · exact ⟨_, _, _, ok4_p _ on_low1, ok3_at 0 mN zero_below mN_lt on_low1, low1 k h⟩
  · exact ⟨_, _, _, ok4_p _ on_low2, ok3_at iR 0 iR_lt zero_below on_low2, low2 k h⟩
  · exact ⟨_, _, _, ok4_p _ on_low3, ok3_at jR 0 jR_lt zero_below on_low3, low3 k h⟩
theorem not11 : ¬ On (fz 1, fz 1) := fun h => absurd ((makeB_on 1 1).2 h) (by decide +kernel)
theorem zeroAdd (p : Pt) (hp : On p) : addE zeroE p = p := by rw [add_comm']; exact add_zero' p hp
theorem same_yes {a b : N4} {p q : Pt} (ha : Ok4 a p) (hb : Ok4 b q) (h : p = q) (w : World) : Calls Try.prog 15 #[pv4 a, pv4 b] w fun E w' => E = .returned (.bool true) ∧ Below w.heap.size w w' := by
  have hc := samep4 ha hb w
  rw [decide_eq_true h] at hc
  exact hc
theorem same_no {a b : N4} {p q : Pt} (ha : Ok4 a p) (hb : Ok4 b q) (h : p ≠ q) (w : World) : Calls Try.prog 15 #[pv4 a, pv4 b] w fun E w' => E = .returned (.bool false) ∧ Below w.heap.size w w' := by
  have hc := samep4 ha hb w
  rw [decide_eq_false h] at hc
  exact hc
theorem back_zero (p : Pt) (hp : On p) : addE (addE zeroE p) (negE p) = zeroE := by rw [zeroAdd p hp, add_neg' p hp]
end Go.Proofs.Ytigfoophimjgdaa
namespace Go.Proofs.Ytigfoophimjgdaa
set_option maxRecDepth 20000
set_option linter.unusedSimpArgs false
set_option linter.unusedVariables false
/-- A point's multiples, none first. -/
def tab (a : N4) : Nat → N4
  | 0 => zero4
  | n + 1 => add4 (tab a n) a
theorem ok4_tab {a : N4} {p : Pt} (ha : Ok4 a p) : ∀ n, Ok4 (tab a n) (timesE n p)
  | 0 => by
    rw [tab, timesE]
    exact ok4_zero
  | n + 1 => by
    rw [tab, timesE]
    exact ok4_add (ok4_tab ha n) ha
def dbl16 (o : N4) : N4 := dbl4 (dbl4 (dbl4 (dbl4 o)))
theorem times_one (q : Pt) (hq : On q) : timesE 1 q = q := zeroAdd q hq
theorem times_dbl (m : Nat) (q : Pt) (hq : On q) : addE (timesE m q) (timesE m q) = timesE (m + m) q := (times_add q hq m m).symm
theorem ok4_dbl16 {o : N4} {q : Pt} (ho : Ok4 o q) : Ok4 (dbl16 o) (timesE 16 q) := by
  have hq := ho.on
  have h1 : Ok4 o (timesE 1 q) := by rw [times_one q hq]; exact ho
  have h2 := ok4_dbl h1
  rw [times_dbl 1 q hq] at h2
  have h3 := ok4_dbl h2
  rw [times_dbl _ q hq] at h3
  have h4 := ok4_dbl h3
  rw [times_dbl _ q hq] at h4
  have h5 := ok4_dbl h4
  rw [times_dbl _ q hq] at h5
  unfold dbl16
  rw [show (16 : Nat) = 1 + 1 + (1 + 1) + (1 + 1 + (1 + 1)) + (1 + 1 + (1 + 1) + (1 + 1 + (1 + 1))) from rfl]
  exact h5
theorem step16 (k n : Nat) : 16 * (k / 16 ^ (n + 1)) + k / 16 ^ n % 16 = k / 16 ^ n := by
  rw [Nat.pow_succ, ← Nat.div_div_eq_div_mul]
  omega
/-- One step, of one term. -/
def take1 (k : Nat) (a o : N4) (n : Nat) : N4 := add4 (dbl16 o) (tab a (k / 16 ^ n % 16))
theorem ok4_take1 {a o : N4} {p : Pt} (k n : Nat) (ha : Ok4 a p) (ho : Ok4 o (timesE (k / 16 ^ (n + 1)) p)) : Ok4 (take1 k a o n) (timesE (k / 16 ^ n) p) := by
  have h := ok4_add (ok4_dbl16 ho) (ok4_tab ha (k / 16 ^ n % 16))
  rw [← times_mul p ha.on, ← times_add p ha.on, step16] at h
  exact h
/-- So many steps. -/
def runF (f : N4 → Nat → N4) : Nat → N4 → N4
  | 0, o => o
  | n + 1, o => runF f n (f o n)
theorem runF_zero (f : N4 → Nat → N4) (o : N4) : runF f 0 o = o := rfl
theorem runF_succ (f : N4 → Nat → N4) (n : Nat) (o : N4) : runF f (n + 1) o = runF f n (f o n) := rfl
theorem ok4_run1 {a : N4} {p : Pt} (k : Nat) (ha : Ok4 a p) (n : Nat) : ∀ o, Ok4 o (timesE (k / 16 ^ n) p) → Ok4 (runF (take1 k a) n o) (timesE k p) := by
  induction n with
  | zero =>
    intro o ho
    rw [Nat.pow_zero, Nat.div_one] at ho
    rw [runF_zero]
    exact ho
  | succ n ih =>
    intro o ho
    have h := ih (take1 k a o n) (ok4_take1 k n ha ho)
    rw [runF_succ]
    exact h
theorem ok4_all1 {a : N4} {p : Pt} (k n : Nat) (ha : Ok4 a p) (h : k < 16 ^ n) : Ok4 (runF (take1 k a) n zero4) (timesE k p) :=
  ok4_run1 k ha n zero4 (by rw [Nat.div_eq_of_lt h, timesE]; exact ok4_zero)
/-- Sums of two, so many times. -/
theorem times_sum (p q : Pt) (hp : On p) (hq : On q) : ∀ n, timesE n (addE p q) = addE (timesE n p) (timesE n q)
  | 0 => by
    rw [timesE, timesE, timesE]
    exact (add_zero' zeroE on_zero).symm
  | n + 1 => by
    have h1 := on_times p hp n
    have h2 := on_times q hq n
    rw [timesE, timesE, timesE]
    rw [times_sum p q hp hq n, add_assoc' _ _ _ h1 h2 (on_add _ _ hp hq), add_assoc' _ _ _ h1 hp (on_add _ _ h2 hq), ← add_assoc' _ _ _ h2 hp hq, add_comm' (timesE n q) p, add_assoc' _ _ _ hp h2 hq]
theorem four_sum (x y p q : Pt) (hx : On x) (hy : On y) (hp : On p) (hq : On q) : addE (addE (addE x y) p) q = addE (addE x p) (addE y q) := by
  rw [add_assoc' _ _ _ hx hy hp, add_comm' y p, ← add_assoc' _ _ _ hx hp hy, add_assoc' _ _ _ (on_add _ _ hx hp) hy hq]
/-- One step, of two terms. -/
def take2 (k l : Nat) (a b o : N4) (n : Nat) : N4 := add4 (add4 (dbl16 o) (tab a (k / 16 ^ n % 16))) (tab b (l / 16 ^ n % 16))
theorem ok4_take2 {a b o : N4} {p q : Pt} (k l n : Nat) (ha : Ok4 a p) (hb : Ok4 b q) (ho : Ok4 o (addE (timesE (k / 16 ^ (n + 1)) p) (timesE (l / 16 ^ (n + 1)) q))) : Ok4 (take2 k l a b o n) (addE (timesE (k / 16 ^ n) p) (timesE (l / 16 ^ n) q)) := by
  have h := ok4_add (ok4_add (ok4_dbl16 ho) (ok4_tab ha (k / 16 ^ n % 16))) (ok4_tab hb (l / 16 ^ n % 16))
  have o1 := on_times p ha.on
  have o2 := on_times q hb.on
  rw [times_sum _ _ (o1 _) (o2 _), four_sum _ _ _ _ (on_times _ (o1 _) _) (on_times _ (o2 _) _) (o1 _) (o2 _), ← times_mul p ha.on, ← times_mul q hb.on, ← times_add p ha.on, ← times_add q hb.on, step16, step16] at h
  exact h
theorem ok4_run2 {a b : N4} {p q : Pt} (k l : Nat) (ha : Ok4 a p) (hb : Ok4 b q) (n : Nat) : ∀ o, Ok4 o (addE (timesE (k / 16 ^ n) p) (timesE (l / 16 ^ n) q)) → Ok4 (runF (take2 k l a b) n o) (addE (timesE k p) (timesE l q)) := by
  induction n with
  | zero =>
    intro o ho
    rw [Nat.pow_zero, Nat.div_one, Nat.div_one] at ho
    rw [runF_zero]
    exact ho
  | succ n ih =>
    intro o ho
    have h := ih (take2 k l a b o n) (ok4_take2 k l n ha hb ho)
    rw [runF_succ]
    exact h
theorem ok4_all2 {a b : N4} {p q : Pt} (k l n : Nat) (ha : Ok4 a p) (hb : Ok4 b q) (h : k < 16 ^ n) (h2 : l < 16 ^ n) : Ok4 (runF (take2 k l a b) n zero4) (addE (timesE k p) (timesE l q)) :=
  ok4_run2 k l ha hb n zero4 (by rw [Nat.div_eq_of_lt h, Nat.div_eq_of_lt h2, timesE, timesE, add_zero' zeroE on_zero]; exact ok4_zero)
/-- How many steps a number asks for. -/
def stepsN (k : Nat) : Nat := (Go.bitLen k + 3) / 4
theorem steps_enough (k m : Nat) (h : stepsN k ≤ m) : k < 16 ^ m := by
  have h1 : k < 2 ^ Go.bitLen k := (bitLen_spec k).1
  have h2 : Go.bitLen k ≤ 4 * m := by unfold stepsN at h; omega
  refine Nat.lt_of_lt_of_le h1 ?_
  rw [show (16 : Nat) = 2 ^ 4 from rfl, ← Nat.pow_mul]
  exact Nat.pow_le_pow_right (by decide) h2
/-- The table as a row: what is there of it. -/
def tabL (a : N4) (n : Nat) : List Value := (List.range n).flatMap fun i => pl4 (tab a i)
theorem pl4_length (a : N4) : (pl4 a).length = 16 := rfl
theorem tabL_length (a : N4) : ∀ n, (tabL a n).length = 16 * n
  | 0 => rfl
  | n + 1 => by
    unfold tabL
    rw [List.range_succ, List.flatMap_append, List.length_append, show ((List.range n).flatMap fun i => pl4 (tab a i)).length = 16 * n from tabL_length a n]
    simp [pl4_length]
    omega
theorem tabL_succ (a : N4) (n : Nat) : tabL a (n + 1) = tabL a n ++ pl4 (tab a n) := by
  unfold tabL
  rw [List.range_succ, List.flatMap_append]
  simp
/-- A point of it. -/
theorem tabL_at (a : N4) (n i : Nat) (h : i < n) (t : List Value) : ((tabL a n ++ t).drop (16 * i)).take 16 = pl4 (tab a i) := by
  obtain ⟨d, rfl⟩ : ∃ d, n = i + 1 + d := ⟨n - (i + 1), by omega⟩
  have h1 : ∀ d, ∃ r, tabL a (i + 1 + d) = tabL a i ++ (pl4 (tab a i) ++ r) := by
    intro d
    induction d with
    | zero => exact ⟨[], by rw [Nat.add_zero, tabL_succ, List.append_nil]⟩
    | succ d ih =>
      obtain ⟨r, hr⟩ := ih
      refine ⟨r ++ pl4 (tab a (i + 1 + d)), ?_⟩
      rw [← Nat.add_assoc, tabL_succ, hr]
      simp only [List.append_assoc]
  obtain ⟨r, hr⟩ := h1 d
  rw [hr, List.append_assoc, List.append_assoc, List.drop_left' (tabL_length a i), List.take_left' (pl4_length _)]
end Go.Proofs.Ytigfoophimjgdaa
