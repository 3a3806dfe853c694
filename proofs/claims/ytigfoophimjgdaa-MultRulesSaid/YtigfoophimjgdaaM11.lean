/- The curve's Zero, numbersOf, Neg, NewAdder (layer 20): their contracts. -/
import Derived.Test.YtigfoophimjgdaaM10
namespace Go.Proofs.Ytigfoophimjgdaa
set_option maxRecDepth 20000
set_option linter.unusedSimpArgs false
set_option linter.unusedVariables false
open Go.RowKit Go.Sort
set_option maxRecDepth 20000 in
set_option maxHeartbeats 8000000 in
theorem zero_any (w : World) : Calls Try.prog 40 #[] w fun E w' => E = .returned (ptV 0 1 1 0) ∧ Below w.heap.size w w' := by
  go_enter Try.func40, Try.ntmps40
  have hM0 := Mem.start w
  (go_step; go_step; refine wp_region_lit ?_)
  refine wl_new hM0 (f := fun b => .pointer (some ⟨b, 0, none⟩)) (ob := .cells z16 30 (0, 0)) (fun W => run_alloc_of rfl (al_Pt W)) rfl fun b1 W1 hM1 => ?_
  simp only [Act.put, List.setIfInBounds_toArray, List.set_cons_zero, List.set_cons_succ]
  refine wpList_nil ?_
  (go_step; go_step; go_step; refine wp_region_lit ?_)
  refine wl_call hM1 (args := #[.int .u64 0]) (v := numV 0) (fun W => run_call_fn W (enters_of Try.func56 rfl rfl) rfl (by simp [Act.eval])) (psmall_any_ 0 (by decide) W1) rfl fun W2 hM2 => ?_
  simp only [Act.put, List.setIfInBounds_toArray, List.set_cons_zero, List.set_cons_succ]
  refine wl_call hM2 (args := #[.int .u64 1]) (v := numV 1) (fun W => run_call_fn W (enters_of Try.func56 rfl rfl) rfl (by simp [Act.eval])) (psmall_any_ 1 (by decide) W2) rfl fun W3 hM3 => ?_
  simp only [Act.put, List.setIfInBounds_toArray, List.set_cons_zero, List.set_cons_succ]
  obtain ⟨v1, ev1⟩ : ∃ x, x = 0 * 1 % PN := ⟨_, rfl⟩
  have pv1 : v1 < PN := by rw [ev1]; exact Nat.mod_lt _ PN_pos
  have KA := fun W => at_any 0 1 W (by decide +kernel) (by decide +kernel)
  simp only [← ev1] at KA
  refine wl_call hM3 (args := #[numV 0, numV 1]) (v := ptV 0 1 1 v1) (fun W => run_call_fn W (enters_of Try.func76 rfl rfl) rfl (by simp [Act.eval])) (KA W3) rfl fun W4 hM4 => ?_
  simp only [Act.put, List.setIfInBounds_toArray, List.set_cons_zero, List.set_cons_succ]
  refine wl_set hM4 0 (cs := ((ptL 0 1 1 v1).toArray)) rfl rfl rfl rfl rowPt rfl (one_pt 0 1 1 v1) rfl rfl fun W5 hM5 => ?_
  simp only [List.set_cons_zero, List.set_cons_succ] at hM5
  refine wpList_nil ?_
  (go_step; go_step; go_step; refine bodyPost_ret (v := ptV 0 1 1 v1) (results_arr Try.results40 rfl (hM5.load 0 rfl rowPt)) rfl ⟨?_, hM5.below⟩)
  exact by rw [ev1, show 0 * 1 % PN = 0 from by decide +kernel]
set_option maxRecDepth 20000 in
set_option maxHeartbeats 8000000 in
theorem newadder_any (w : World) : Calls Try.prog 41 #[] w fun E w' => E = .returned (numV dN) ∧ Below w.heap.size w w' := by
  go_enter Try.func41, Try.ntmps41
  have hM0 := Mem.start w
  (go_step; go_step; refine wp_region_lit ?_)
  refine wl_new hM0 (f := fun b => .pointer (some ⟨b, 0, none⟩)) (ob := .cells z4 73 (0, 0)) (fun W => run_alloc_of rfl (al_Ad W)) rfl fun b1 W1 hM1 => ?_
  simp only [Act.put, List.setIfInBounds_toArray, List.set_cons_zero, List.set_cons_succ]
  refine wpList_nil ?_
  (go_step; go_step; go_step; refine wp_region_lit ?_)
  refine wl_call hM1 (args := #[]) (v := numV dN) (fun W => run_call_fn W (enters_of Try.func75 rfl rfl) rfl (by simp [Act.eval])) (curD_any W1) rfl fun W2 hM2 => ?_
  simp only [Act.put, List.setIfInBounds_toArray, List.set_cons_zero, List.set_cons_succ]
  refine wl_pure (v := numV dN) (fun W => run_build_of rfl (by simp [Act.eval]) (bdA dN W)) rfl ?_
  simp only [Act.put, List.setIfInBounds_toArray, List.set_cons_zero, List.set_cons_succ]
  refine wl_set hM2 0 (cs := (elR dN)) rfl rfl rfl rfl rowAd rfl (one_el dN) rfl rfl fun W3 hM3 => ?_
  simp only [List.set_cons_zero, List.set_cons_succ] at hM3
  refine wpList_nil ?_
  (go_step; go_step; go_step; refine bodyPost_ret (v := numV dN) (results_arr Try.results41 rfl (hM3.load 0 rfl rowAd)) rfl ⟨?_, hM3.below⟩)
  exact rfl
set_option maxRecDepth 20000 in
set_option maxHeartbeats 8000000 in
theorem numbers_any (X Y Z T : Nat) (hX : X < PN) (hY : Y < PN) (hZ : Z < PN) (hT : T < PN) (hzZ : 0 < Z) (w : World) : Calls Try.prog 59 #[ptV X Y Z T] w fun E w' => E = .returned (.tuple #[numV X, numV Y, numV Z, numV T]) ∧ Below w.heap.size w w' := by
  have HMIX := Lib.hid (show Try.prog.follows .mixedOrders = true by kernel_rfl)
  go_enter Try.func59, Try.ntmps59
  have hM0 := Mem.start w
  (go_step; go_step; refine wp_region_lit ?_)
  refine wl_new hM0 (f := fun b => .pointer (some ⟨b, 0, none⟩)) (ob := .cells ((ptL X Y Z T).toArray) 30 (0, 0)) (fun W => run_box_of rfl rfl (bx_Pt X Y Z T W)) rfl fun b1 W1 hM1 => ?_
  simp only [Act.put, List.setIfInBounds_toArray, List.set_cons_zero, List.set_cons_succ]
  refine wl_new hM1 (f := fun b => .pointer (some ⟨b, 0, none⟩)) (ob := .cells z4 27 (0, 0)) (fun W => run_alloc_of rfl (al_El W)) rfl fun b2 W2 hM2 => ?_
  simp only [Act.put, List.setIfInBounds_toArray, List.set_cons_zero, List.set_cons_succ]
  refine wl_new hM2 (f := fun b => .pointer (some ⟨b, 0, none⟩)) (ob := .cells z4 27 (0, 0)) (fun W => run_alloc_of rfl (al_El W)) rfl fun b3 W3 hM3 => ?_
  simp only [Act.put, List.setIfInBounds_toArray, List.set_cons_zero, List.set_cons_succ]
  refine wl_new hM3 (f := fun b => .pointer (some ⟨b, 0, none⟩)) (ob := .cells z4 27 (0, 0)) (fun W => run_alloc_of rfl (al_El W)) rfl fun b4 W4 hM4 => ?_
  simp only [Act.put, List.setIfInBounds_toArray, List.set_cons_zero, List.set_cons_succ]
  refine wl_new hM4 (f := fun b => .pointer (some ⟨b, 0, none⟩)) (ob := .cells z4 27 (0, 0)) (fun W => run_alloc_of rfl (al_El W)) rfl fun b5 W5 hM5 => ?_
  simp only [Act.put, List.setIfInBounds_toArray, List.set_cons_zero, List.set_cons_succ]
  refine wpList_nil ?_
  (go_step; go_step; go_step; go_step; refine wp_region_lit ?_)
  refine wl_row hM5 4 (v := ptV X Y Z T) rfl rfl rfl rfl rowPt rfl ?_
  simp only [Act.put, List.setIfInBounds_toArray, List.set_cons_zero, List.set_cons_succ]
  refine wl_pure (v := .agg z16) (fun W => run_build_of rfl (by simp [Act.eval]) (bdP0 W)) rfl ?_
  simp only [Act.put, List.setIfInBounds_toArray, List.set_cons_zero, List.set_cons_succ]
  refine wl_pure (v := .bool false) (fun W => run_bin_of rfl rfl rfl (eq_pt_zero X Y Z T _ _ W hX hY hZ hT hzZ)) rfl ?_
  simp only [Act.put, List.setIfInBounds_toArray, List.set_cons_zero, List.set_cons_succ]
  refine wpList_nil ?_
  have hMd := hM5.drew
  (go_step; go_step; go_step; go_step; go_step; go_step; go_step; refine wp_region_noPanic (wp_region_held_drew HMIX.out (S := fun w1 => w1.heap[b1]? = some (.cells ((ptL X Y Z T).toArray) 30 (0, 0))) (hMd.get 4 rfl) fun hS => ?_))
  change wpAnyH _ _ _ _ _ 16 _ _ _
  generalize W5.drew = W6 at hMd hS ⊢
  have hM6 := hMd
  clear hMd
  refine hd_take 0 10 #[true, false, false, false, false, false, false, false, false, false, false, false, false, false, false, false] (by kernel_rfl) (v := .pointer (some ⟨b1, 0, none⟩)) rfl rfl (by kernel_rfl) (by kernel_rfl) (by kernel_rfl) rfl (fun W _ => run_field_of rfl rfl (fa_Pt0 b1 W)) hS ?_
  simp only [Act.put, List.setIfInBounds_toArray, List.set_cons_zero, List.set_cons_succ]
  refine hd_take 1 11 #[true, true, false, false, false, false, false, false, false, false, false, false, false, false, false, false] (by kernel_rfl) (v := .pointer (some ⟨b1, 0, none⟩)) rfl rfl (by kernel_rfl) (by kernel_rfl) (by kernel_rfl) rfl (fun W _ => run_index_of rfl rfl rfl (ix_P0 b1 W)) hS ?_
  simp only [Act.put, List.setIfInBounds_toArray, List.set_cons_zero, List.set_cons_succ]
  refine hd_part 2 12 #[true, true, true, false, false, false, false, false, false, false, false, false, false, false, false, false] (by kernel_rfl) (v := numV X) (cs := ((ptL X Y Z T).toArray)) (sub := elR X) (b := b1) rfl rfl rfl rfl (fun W hW => hW) rfl rfl rowEl (by kernel_rfl) (by kernel_rfl) (by kernel_rfl) rfl hS ?_
  simp only [Act.put, List.setIfInBounds_toArray, List.set_cons_zero, List.set_cons_succ]
  refine hd_take 3 13 #[true, true, true, true, false, false, false, false, false, false, false, false, false, false, false, false] (by kernel_rfl) (v := .pointer (some ⟨b1, 0, none⟩)) rfl rfl (by kernel_rfl) (by kernel_rfl) (by kernel_rfl) rfl (fun W _ => run_field_of rfl rfl (fa_Pt0 b1 W)) hS ?_
  simp only [Act.put, List.setIfInBounds_toArray, List.set_cons_zero, List.set_cons_succ]
  refine hd_take 4 14 #[true, true, true, true, true, false, false, false, false, false, false, false, false, false, false, false] (by kernel_rfl) (v := .pointer (some ⟨b1, 4, none⟩)) rfl rfl (by kernel_rfl) (by kernel_rfl) (by kernel_rfl) rfl (fun W _ => run_index_of rfl rfl rfl (ix_P1 b1 W)) hS ?_
  simp only [Act.put, List.setIfInBounds_toArray, List.set_cons_zero, List.set_cons_succ]
  refine hd_part 5 15 #[true, true, true, true, true, true, false, false, false, false, false, false, false, false, false, false] (by kernel_rfl) (v := numV Y) (cs := ((ptL X Y Z T).toArray)) (sub := elR Y) (b := b1) rfl rfl rfl rfl (fun W hW => hW) rfl rfl rowEl (by kernel_rfl) (by kernel_rfl) (by kernel_rfl) rfl hS ?_
  simp only [Act.put, List.setIfInBounds_toArray, List.set_cons_zero, List.set_cons_succ]
  refine hd_take 6 16 #[true, true, true, true, true, true, true, false, false, false, false, false, false, false, false, false] (by kernel_rfl) (v := .pointer (some ⟨b1, 0, none⟩)) rfl rfl (by kernel_rfl) (by kernel_rfl) (by kernel_rfl) rfl (fun W _ => run_field_of rfl rfl (fa_Pt0 b1 W)) hS ?_
  simp only [Act.put, List.setIfInBounds_toArray, List.set_cons_zero, List.set_cons_succ]
  refine hd_take 7 17 #[true, true, true, true, true, true, true, true, false, false, false, false, false, false, false, false] (by kernel_rfl) (v := .pointer (some ⟨b1, 8, none⟩)) rfl rfl (by kernel_rfl) (by kernel_rfl) (by kernel_rfl) rfl (fun W _ => run_index_of rfl rfl rfl (ix_P2 b1 W)) hS ?_
  simp only [Act.put, List.setIfInBounds_toArray, List.set_cons_zero, List.set_cons_succ]
  refine hd_part 8 18 #[true, true, true, true, true, true, true, true, true, false, false, false, false, false, false, false] (by kernel_rfl) (v := numV Z) (cs := ((ptL X Y Z T).toArray)) (sub := elR Z) (b := b1) rfl rfl rfl rfl (fun W hW => hW) rfl rfl rowEl (by kernel_rfl) (by kernel_rfl) (by kernel_rfl) rfl hS ?_
  simp only [Act.put, List.setIfInBounds_toArray, List.set_cons_zero, List.set_cons_succ]
  refine hd_take 9 19 #[true, true, true, true, true, true, true, true, true, true, false, false, false, false, false, false] (by kernel_rfl) (v := .pointer (some ⟨b1, 0, none⟩)) rfl rfl (by kernel_rfl) (by kernel_rfl) (by kernel_rfl) rfl (fun W _ => run_field_of rfl rfl (fa_Pt0 b1 W)) hS ?_
  simp only [Act.put, List.setIfInBounds_toArray, List.set_cons_zero, List.set_cons_succ]
  refine hd_take 10 20 #[true, true, true, true, true, true, true, true, true, true, true, false, false, false, false, false] (by kernel_rfl) (v := .pointer (some ⟨b1, 12, none⟩)) rfl rfl (by kernel_rfl) (by kernel_rfl) (by kernel_rfl) rfl (fun W _ => run_index_of rfl rfl rfl (ix_P3 b1 W)) hS ?_
  simp only [Act.put, List.setIfInBounds_toArray, List.set_cons_zero, List.set_cons_succ]
  refine hd_part 11 21 #[true, true, true, true, true, true, true, true, true, true, true, true, false, false, false, false] (by kernel_rfl) (v := numV T) (cs := ((ptL X Y Z T).toArray)) (sub := elR T) (b := b1) rfl rfl rfl rfl (fun W hW => hW) rfl rfl rowEl (by kernel_rfl) (by kernel_rfl) (by kernel_rfl) rfl hS ?_
  simp only [Act.put, List.setIfInBounds_toArray, List.set_cons_zero, List.set_cons_succ]
  refine hd_set (n := 12) #[true, true, true, true, true, true, true, true, true, true, true, true, true, false, false, false] (by kernel_rfl) (by kernel_rfl) rfl hM6 3 (cs := (elR X)) rfl rfl rfl rfl rowEl rfl (one_el X) rfl rfl (fun W hW => hW.get 4 rfl) fun W7 hM7 => ?_
  simp only [List.set_cons_zero, List.set_cons_succ] at hM7
  refine hd_set (n := 13) #[true, true, true, true, true, true, true, true, true, true, true, true, true, true, false, false] (by kernel_rfl) (by kernel_rfl) rfl hM7 2 (cs := (elR Y)) rfl rfl rfl rfl rowEl rfl (one_el Y) rfl rfl (fun W hW => hW.get 4 rfl) fun W8 hM8 => ?_
  simp only [List.set_cons_zero, List.set_cons_succ] at hM8
  refine hd_set (n := 14) #[true, true, true, true, true, true, true, true, true, true, true, true, true, true, true, false] (by kernel_rfl) (by kernel_rfl) rfl hM8 1 (cs := (elR Z)) rfl rfl rfl rfl rowEl rfl (one_el Z) rfl rfl (fun W hW => hW.get 4 rfl) fun W9 hM9 => ?_
  simp only [List.set_cons_zero, List.set_cons_succ] at hM9
  refine hd_set (n := 15) #[true, true, true, true, true, true, true, true, true, true, true, true, true, true, true, true] (by kernel_rfl) (by kernel_rfl) rfl hM9 0 (cs := (elR T)) rfl rfl rfl rfl rowEl rfl (one_el T) rfl rfl (fun W hW => hW.get 4 rfl) fun W10 hM10 => ?_
  simp only [List.set_cons_zero, List.set_cons_succ] at hM10
  refine wpAnyH_done (by kernel_rfl) ?_ _
  refine NoPanic.normal ?_
  (go_step; go_step; go_step; refine bodyPost_ret (v := .tuple #[numV X, numV Y, numV Z, numV T]) (results_arr4 Try.results59 rfl rfl rfl rfl (hM10.load 3 rfl rowEl) (hM10.load 2 rfl rowEl) (hM10.load 1 rfl rowEl) (hM10.load 0 rfl rowEl)) rfl ⟨?_, hM10.below⟩)
  exact rfl
set_option maxRecDepth 20000 in
set_option maxHeartbeats 8000000 in
theorem neg_any (X Y Z T : Nat) (hX : X < PN) (hY : Y < PN) (hZ : Z < PN) (hT : T < PN) (hzZ : 0 < Z) (w : World) : Calls Try.prog 57 #[ptV X Y Z T] w fun E w' => E = .returned (ptV ((0 + PN - X) % PN) Y Z ((0 + PN - T) % PN)) ∧ Below w.heap.size w w' := by
  have HMIX := Lib.hid (show Try.prog.follows .mixedOrders = true by kernel_rfl)
  go_enter Try.func57, Try.ntmps57
  have hM0 := Mem.start w
  (go_step; go_step; refine wp_region_lit ?_)
  refine wl_new hM0 (f := fun b => .pointer (some ⟨b, 0, none⟩)) (ob := .cells ((ptL X Y Z T).toArray) 30 (0, 0)) (fun W => run_box_of rfl rfl (bx_Pt X Y Z T W)) rfl fun b1 W1 hM1 => ?_
  simp only [Act.put, List.setIfInBounds_toArray, List.set_cons_zero, List.set_cons_succ]
  refine wl_new hM1 (f := fun b => .pointer (some ⟨b, 0, none⟩)) (ob := .cells z16 30 (0, 0)) (fun W => run_alloc_of rfl (al_Pt W)) rfl fun b2 W2 hM2 => ?_
  simp only [Act.put, List.setIfInBounds_toArray, List.set_cons_zero, List.set_cons_succ]
  refine wpList_nil ?_
  (go_step; go_step; go_step; refine wp_region_lit ?_)
  refine wl_row hM2 1 (v := ptV X Y Z T) rfl rfl rfl rfl rowPt rfl ?_
  simp only [Act.put, List.setIfInBounds_toArray, List.set_cons_zero, List.set_cons_succ]
  refine wl_call hM2 (args := #[ptV X Y Z T]) (v := .tuple #[numV X, numV Y, numV Z, numV T]) (fun W => run_call_fn W (enters_of Try.func59 rfl rfl) rfl (by simp [Act.eval])) (numbers_any X Y Z T hX hY hZ hT hzZ W2) rfl fun W3 hM3 => ?_
  simp only [Act.put, List.setIfInBounds_toArray, List.set_cons_zero, List.set_cons_succ]
  refine wl_pure (v := .tuple #[numV X, numV Y, numV Z, numV T]) (fun _ => rfl) rfl ?_
  simp only [Act.put, List.setIfInBounds_toArray, List.set_cons_zero, List.set_cons_succ]
  refine wl_pure (v := numV X) (fun _ => rfl) rfl ?_
  simp only [Act.put, List.setIfInBounds_toArray, List.set_cons_zero, List.set_cons_succ]
  refine wl_pure (v := numV Y) (fun _ => rfl) rfl ?_
  simp only [Act.put, List.setIfInBounds_toArray, List.set_cons_zero, List.set_cons_succ]
  refine wl_pure (v := numV Z) (fun _ => rfl) rfl ?_
  simp only [Act.put, List.setIfInBounds_toArray, List.set_cons_zero, List.set_cons_succ]
  refine wl_pure (v := numV T) (fun _ => rfl) rfl ?_
  simp only [Act.put, List.setIfInBounds_toArray, List.set_cons_zero, List.set_cons_succ]
  refine wl_new hM3 (f := fun b => .pointer (some ⟨b, 0, none⟩)) (ob := .cells z4 27 (0, 0)) (fun W => run_alloc_of rfl (al_El W)) rfl fun b3 W4 hM4 => ?_
  simp only [Act.put, List.setIfInBounds_toArray, List.set_cons_zero, List.set_cons_succ]
  refine wl_new hM4 (f := fun b => .pointer (some ⟨b, 0, none⟩)) (ob := .cells z4 27 (0, 0)) (fun W => run_alloc_of rfl (al_El W)) rfl fun b4 W5 hM5 => ?_
  simp only [Act.put, List.setIfInBounds_toArray, List.set_cons_zero, List.set_cons_succ]
  refine wl_new hM5 (f := fun b => .pointer (some ⟨b, 0, none⟩)) (ob := .cells z4 27 (0, 0)) (fun W => run_alloc_of rfl (al_El W)) rfl fun b5 W6 hM6 => ?_
  simp only [Act.put, List.setIfInBounds_toArray, List.set_cons_zero, List.set_cons_succ]
  refine wl_new hM6 (f := fun b => .pointer (some ⟨b, 0, none⟩)) (ob := .cells z4 27 (0, 0)) (fun W => run_alloc_of rfl (al_El W)) rfl fun b6 W7 hM7 => ?_
  simp only [Act.put, List.setIfInBounds_toArray, List.set_cons_zero, List.set_cons_succ]
  refine wl_set hM7 3 (cs := (elR X)) rfl rfl rfl rfl rowEl rfl (one_el X) rfl rfl fun W8 hM8 => ?_
  simp only [List.set_cons_zero, List.set_cons_succ] at hM8
  refine wl_set hM8 2 (cs := (elR Y)) rfl rfl rfl rfl rowEl rfl (one_el Y) rfl rfl fun W9 hM9 => ?_
  simp only [List.set_cons_zero, List.set_cons_succ] at hM9
  refine wl_set hM9 1 (cs := (elR Z)) rfl rfl rfl rfl rowEl rfl (one_el Z) rfl rfl fun W10 hM10 => ?_
  simp only [List.set_cons_zero, List.set_cons_succ] at hM10
  refine wl_set hM10 0 (cs := (elR T)) rfl rfl rfl rfl rowEl rfl (one_el T) rfl rfl fun W11 hM11 => ?_
  simp only [List.set_cons_zero, List.set_cons_succ] at hM11
  refine wpList_nil ?_
  (go_step; go_step; go_step; refine wp_region_inw 8 HMIX.out (by decide) (by kernel_rfl) (by kernel_rfl) ?_)
  refine inw_row hM11 3 (v := numV X) rfl rfl rfl rfl rowEl rfl rfl ?_; simp only [Act.put, List.setIfInBounds_toArray, List.set_cons_zero, List.set_cons_succ]
  obtain ⟨v1, ev1⟩ : ∃ x, x = (0 + PN - X) % PN := ⟨_, rfl⟩
  have pv1 : v1 < PN := by rw [ev1]; exact Nat.mod_lt _ PN_pos
  have Kv1 := fun W => pneg_any X W hX
  simp only [← ev1] at Kv1
  refine inw_callV (args := #[numV X]) (v := numV v1) (fun W => run_call_fn W (enters_of Try.func92 rfl rfl) rfl (by simp [Act.eval])) (fun W _ => Kv1 W) rfl rfl ?_; simp only [Act.put, List.setIfInBounds_toArray, List.set_cons_zero, List.set_cons_succ]
  refine inw_row hM11 2 (v := numV Y) rfl rfl rfl rfl rowEl rfl rfl ?_; simp only [Act.put, List.setIfInBounds_toArray, List.set_cons_zero, List.set_cons_succ]
  refine inw_row hM11 1 (v := numV Z) rfl rfl rfl rfl rowEl rfl rfl ?_; simp only [Act.put, List.setIfInBounds_toArray, List.set_cons_zero, List.set_cons_succ]
  refine inw_row hM11 0 (v := numV T) rfl rfl rfl rfl rowEl rfl rfl ?_; simp only [Act.put, List.setIfInBounds_toArray, List.set_cons_zero, List.set_cons_succ]
  obtain ⟨v2, ev2⟩ : ∃ x, x = (0 + PN - T) % PN := ⟨_, rfl⟩
  have pv2 : v2 < PN := by rw [ev2]; exact Nat.mod_lt _ PN_pos
  have Kv2 := fun W => pneg_any T W hT
  simp only [← ev2] at Kv2
  refine inw_callV (args := #[numV T]) (v := numV v2) (fun W => run_call_fn W (enters_of Try.func92 rfl rfl) rfl (by simp [Act.eval])) (fun W _ => Kv2 W) rfl rfl ?_; simp only [Act.put, List.setIfInBounds_toArray, List.set_cons_zero, List.set_cons_succ]
  refine inw_pure (v := ptV v1 Y Z v2) (fun W => run_build_of rfl (by simp [Act.eval]) (bd4 v1 Y Z v2 W)) rfl rfl ?_; simp only [Act.put, List.setIfInBounds_toArray, List.set_cons_zero, List.set_cons_succ]
  refine inw_pure (v := ptV v1 Y Z v2) (fun W => run_build_of rfl (by simp [Act.eval]) (bdP v1 Y Z v2 W)) rfl rfl ?_; simp only [Act.put, List.setIfInBounds_toArray, List.set_cons_zero, List.set_cons_succ]
  refine inw_fin fun d os => ?_
  refine given_nil fun hap => ?_
  have hM12 := hM11.calls (below_regrown W11 d os)
  clear hap 
  generalize grow (redrawn W11 d) os = W12 at hM12 ⊢
  change wpAny _ _ _ _ 1 _ _ _
  refine any_set (n := 8) (by kernel_rfl) rfl hM12 4 (cs := ((ptL v1 Y Z v2).toArray)) rfl rfl rfl rfl rowPt rfl (one_pt v1 Y Z v2) rfl rfl fun W13 hM13 => ?_
  simp only [List.set_cons_zero, List.set_cons_succ] at hM13
  refine wpAny_done (by kernel_rfl) ?_ _
  (go_step; go_step; go_step; refine bodyPost_ret (v := ptV v1 Y Z v2) (results_arr Try.results57 rfl (hM13.load 4 rfl rowPt)) rfl ⟨?_, hM13.below⟩)
  exact by rw [ev2, ev1]
set_option maxRecDepth 20000 in
set_option maxHeartbeats 8000000 in
theorem xy_any (X Y Z T : Nat) (hX : X < PN) (hY : Y < PN) (hZ : Z < PN) (hT : T < PN) (hzZ : 0 < Z) (w : World) : Calls Try.prog 46 #[ptV X Y Z T] w fun E w' => E = .returned (.tuple #[numV (X * IV Z % PN), numV (Y * IV Z % PN)]) ∧ Below w.heap.size w w' := by
  have HMIX := Lib.hid (show Try.prog.follows .mixedOrders = true by kernel_rfl)
  go_enter Try.func46, Try.ntmps46
  have hM0 := Mem.start w
  (go_step; go_step; refine wp_region_lit ?_)
  refine wl_new hM0 (f := fun b => .pointer (some ⟨b, 0, none⟩)) (ob := .cells ((ptL X Y Z T).toArray) 30 (0, 0)) (fun W => run_box_of rfl rfl (bx_Pt X Y Z T W)) rfl fun b1 W1 hM1 => ?_
  simp only [Act.put, List.setIfInBounds_toArray, List.set_cons_zero, List.set_cons_succ]
  refine wl_new hM1 (f := fun b => .pointer (some ⟨b, 0, none⟩)) (ob := .cells z4 27 (0, 0)) (fun W => run_alloc_of rfl (al_El W)) rfl fun b2 W2 hM2 => ?_
  simp only [Act.put, List.setIfInBounds_toArray, List.set_cons_zero, List.set_cons_succ]
  refine wl_new hM2 (f := fun b => .pointer (some ⟨b, 0, none⟩)) (ob := .cells z4 27 (0, 0)) (fun W => run_alloc_of rfl (al_El W)) rfl fun b3 W3 hM3 => ?_
  simp only [Act.put, List.setIfInBounds_toArray, List.set_cons_zero, List.set_cons_succ]
  refine wpList_nil ?_
  (go_step; go_step; go_step; refine wp_region_lit ?_)
  refine wl_row hM3 2 (v := ptV X Y Z T) rfl rfl rfl rfl rowPt rfl ?_
  simp only [Act.put, List.setIfInBounds_toArray, List.set_cons_zero, List.set_cons_succ]
  refine wl_call hM3 (args := #[ptV X Y Z T]) (v := .tuple #[numV X, numV Y, numV Z, numV T]) (fun W => run_call_fn W (enters_of Try.func59 rfl rfl) rfl (by simp [Act.eval])) (numbers_any X Y Z T hX hY hZ hT hzZ W3) rfl fun W4 hM4 => ?_
  simp only [Act.put, List.setIfInBounds_toArray, List.set_cons_zero, List.set_cons_succ]
  refine wl_pure (v := .tuple #[numV X, numV Y, numV Z, numV T]) (fun _ => rfl) rfl ?_
  simp only [Act.put, List.setIfInBounds_toArray, List.set_cons_zero, List.set_cons_succ]
  refine wl_pure (v := numV X) (fun _ => rfl) rfl ?_
  simp only [Act.put, List.setIfInBounds_toArray, List.set_cons_zero, List.set_cons_succ]
  refine wl_pure (v := numV Y) (fun _ => rfl) rfl ?_
  simp only [Act.put, List.setIfInBounds_toArray, List.set_cons_zero, List.set_cons_succ]
  refine wl_pure (v := numV Z) (fun _ => rfl) rfl ?_
  simp only [Act.put, List.setIfInBounds_toArray, List.set_cons_zero, List.set_cons_succ]
  refine wl_pure (v := numV T) (fun _ => rfl) rfl ?_
  simp only [Act.put, List.setIfInBounds_toArray, List.set_cons_zero, List.set_cons_succ]
  refine wl_new hM4 (f := fun b => .pointer (some ⟨b, 0, none⟩)) (ob := .cells z4 27 (0, 0)) (fun W => run_alloc_of rfl (al_El W)) rfl fun b4 W5 hM5 => ?_
  simp only [Act.put, List.setIfInBounds_toArray, List.set_cons_zero, List.set_cons_succ]
  refine wl_new hM5 (f := fun b => .pointer (some ⟨b, 0, none⟩)) (ob := .cells z4 27 (0, 0)) (fun W => run_alloc_of rfl (al_El W)) rfl fun b5 W6 hM6 => ?_
  simp only [Act.put, List.setIfInBounds_toArray, List.set_cons_zero, List.set_cons_succ]
  refine wl_set hM6 3 (cs := (elR X)) rfl rfl rfl rfl rowEl rfl (one_el X) rfl rfl fun W7 hM7 => ?_
  simp only [List.set_cons_zero, List.set_cons_succ] at hM7
  refine wl_set hM7 2 (cs := (elR Y)) rfl rfl rfl rfl rowEl rfl (one_el Y) rfl rfl fun W8 hM8 => ?_
  simp only [List.set_cons_zero, List.set_cons_succ] at hM8
  refine wl_set hM8 1 (cs := (elR Z)) rfl rfl rfl rfl rowEl rfl (one_el Z) rfl rfl fun W9 hM9 => ?_
  simp only [List.set_cons_zero, List.set_cons_succ] at hM9
  refine wl_set hM9 0 (cs := (elR T)) rfl rfl rfl rfl rowEl rfl (one_el T) rfl rfl fun W10 hM10 => ?_
  simp only [List.set_cons_zero, List.set_cons_succ] at hM10
  refine wpList_nil ?_
  (go_step; go_step; go_step; refine wp_region_lit ?_)
  refine wl_row hM10 1 (v := numV Z) rfl rfl rfl rfl rowEl rfl ?_
  simp only [Act.put, List.setIfInBounds_toArray, List.set_cons_zero, List.set_cons_succ]
  obtain ⟨v1, ev1⟩ : ∃ x, x = IV Z := ⟨_, rfl⟩
  have pv1 : v1 < PN := by rw [ev1]; exact IV_lt _
  have Kv1 := fun W => pinv_any' Z W hZ
  simp only [← ev1] at Kv1
  refine wl_call hM10 (args := #[numV Z]) (v := numV v1) (fun W => run_call_fn W (enters_of Try.func89 rfl rfl) rfl (by simp [Act.eval])) (Kv1 W10) rfl fun W11 hM11 => ?_
  simp only [Act.put, List.setIfInBounds_toArray, List.set_cons_zero, List.set_cons_succ]
  refine wl_new hM11 (f := fun b => .pointer (some ⟨b, 0, none⟩)) (ob := .cells z4 27 (0, 0)) (fun W => run_alloc_of rfl (al_El W)) rfl fun b6 W12 hM12 => ?_
  simp only [Act.put, List.setIfInBounds_toArray, List.set_cons_zero, List.set_cons_succ]
  refine wl_set hM12 0 (cs := (elR v1)) rfl rfl rfl rfl rowEl rfl (one_el v1) rfl rfl fun W13 hM13 => ?_
  simp only [List.set_cons_zero, List.set_cons_succ] at hM13
  refine wpList_nil ?_
  (go_step; go_step; go_step; refine wp_region_inw 8 HMIX.out (by decide) (by kernel_rfl) (by kernel_rfl) ?_)
  refine inw_row hM13 4 (v := numV X) rfl rfl rfl rfl rowEl rfl rfl ?_; simp only [Act.put, List.setIfInBounds_toArray, List.set_cons_zero, List.set_cons_succ]
  refine inw_row hM13 0 (v := numV v1) rfl rfl rfl rfl rowEl rfl rfl ?_; simp only [Act.put, List.setIfInBounds_toArray, List.set_cons_zero, List.set_cons_succ]
  refine inw_slice (n := 2) (L := elR X ++ elR v1) (T := 27) (fun W => run_slice_of rfl (by simp [Act.eval]) (bs2 X v1 W)) rfl rfl ?_; simp only [List.nil_append, List.cons_append]
  obtain ⟨v2, ev2⟩ : ∃ x, x = X * v1 % PN := ⟨_, rfl⟩
  have pv2 : v2 < PN := by rw [ev2]; exact Nat.mod_lt _ PN_pos
  have Kv2 := mul_two' X v1 hX pv1
  rw [← ev2] at Kv2
  refine inw_callS 2 18 (v := numV v2) rfl rfl (fun _ => rfl) (fun b W => run_call_fn W (enters_of Try.func60 rfl rfl) rfl (by simp [Act.eval, Act.put])) (fun b W h => Kv2 b W h) ?_; simp only [Act.put, List.setIfInBounds_toArray, List.set_cons_zero, List.set_cons_succ]
  refine inw_row hM13 3 (v := numV Y) rfl rfl rfl rfl rowEl rfl rfl ?_; simp only [Act.put, List.setIfInBounds_toArray, List.set_cons_zero, List.set_cons_succ]
  refine inw_row hM13 0 (v := numV v1) rfl rfl rfl rfl rowEl rfl rfl ?_; simp only [Act.put, List.setIfInBounds_toArray, List.set_cons_zero, List.set_cons_succ]
  refine inw_slice (n := 2) (L := elR Y ++ elR v1) (T := 27) (fun W => run_slice_of rfl (by simp [Act.eval]) (bs2 Y v1 W)) rfl rfl ?_; simp only [List.nil_append, List.cons_append]
  obtain ⟨v3, ev3⟩ : ∃ x, x = Y * v1 % PN := ⟨_, rfl⟩
  have pv3 : v3 < PN := by rw [ev3]; exact Nat.mod_lt _ PN_pos
  have Kv3 := mul_two' Y v1 hY pv1
  rw [← ev3] at Kv3
  refine inw_callS 6 22 (v := numV v3) rfl rfl (fun _ => rfl) (fun b W => run_call_fn W (enters_of Try.func60 rfl rfl) rfl (by simp [Act.eval, Act.put])) (fun b W h => Kv3 b W h) ?_; simp only [Act.put, List.setIfInBounds_toArray, List.set_cons_zero, List.set_cons_succ]
  refine inw_fin fun d os => ?_
  refine given_mk (t := 18) rfl fun s2 => ?_
  refine given_mk (t := 22) rfl fun s6 => ?_
  refine given_nil fun hap => ?_
  simp only [Act.put, List.setIfInBounds_toArray, List.set_cons_zero, List.set_cons_succ] at hap ⊢
  have hM14 := hM13.calls (below_regrown W13 d os)
  clear hap 
  generalize grow (redrawn W13 d) os = W14 at hM14 ⊢
  change wpAny _ _ _ _ 2 _ _ _
  refine any_set (n := 8) (by kernel_rfl) rfl hM14 4 (cs := (elR v2)) rfl rfl rfl rfl rowEl rfl (one_el v2) rfl rfl fun W15 hM15 => ?_
  simp only [List.set_cons_zero, List.set_cons_succ] at hM15
  refine any_set (n := 9) (by kernel_rfl) rfl hM15 3 (cs := (elR v3)) rfl rfl rfl rfl rowEl rfl (one_el v3) rfl rfl fun W16 hM16 => ?_
  simp only [List.set_cons_zero, List.set_cons_succ] at hM16
  refine wpAny_done (by kernel_rfl) ?_ _
  (go_step; go_step; go_step; refine bodyPost_ret (v := .tuple #[numV v2, numV v3]) (results_arr2 Try.results46 rfl rfl (hM16.load 4 rfl rowEl) (hM16.load 3 rfl rowEl)) rfl ⟨?_, hM16.below⟩)
  exact by rw [ev3, ev2, ev1]
end Go.Proofs.Ytigfoophimjgdaa
