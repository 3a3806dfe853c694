/- The laws' helpers Is, Both, Low and lives (layer 20): their contracts. -/
import Derived.Test.YtigfoophimjgdaaK19
namespace Go.Proofs.Ytigfoophimjgdaa
set_option maxRecDepth 20000
set_option linter.unusedSimpArgs false
set_option linter.unusedVariables false
open Go.RowKit Go.Sort
theorem el'2 (n : Nat) (h : n < PN) (w : World) : Calls Try.prog 34 #[numV n] w fun e w' => e = .returned (numV n) ∧ Below w.heap.size w w' := el' n w h
set_option maxRecDepth 20000 in
set_option maxHeartbeats 8000000 in
theorem is_yes {a : N4} {b : N3} {p : Pt} (ha : Ok4 a p) (hb : Ok3 b p) (w : World) : Calls Try.prog 18 #[pv4 a, pv3 b] w fun E w' => E = .returned (.bool true) ∧ Below w.heap.size w w' := by
  have HMIX := Lib.hid (show Try.prog.follows .mixedOrders = true by kernel_rfl)
  go_enter Try.func18, Try.ntmps18
  have hM0 := Mem.start w
  (go_step; go_step; refine wp_region_lit ?_)
  refine wl_new hM0 (f := fun b => .pointer (some ⟨b, 0, none⟩)) (ob := .cells ((pc4 a)) 30 (0, 0)) (fun W => run_box_of rfl rfl (bx_P4 _ W)) rfl fun b1 W1 hM1 => ?_
  simp only [Act.put, List.setIfInBounds_toArray, List.set_cons_zero, List.set_cons_succ]
  refine wl_new hM1 (f := fun b => .pointer (some ⟨b, 0, none⟩)) (ob := .cells ((rpL b.1 b.2.1 b.2.2).toArray) 32 (0, 0)) (fun W => run_box_of rfl rfl (bx_Rp _ _ _ W)) rfl fun b2 W2 hM2 => ?_
  simp only [Act.put, List.setIfInBounds_toArray, List.set_cons_zero, List.set_cons_succ]
  refine wl_pure (v := .bool false) (fun _ => rfl) rfl ?_
  simp only [Act.put, List.setIfInBounds_toArray, List.set_cons_zero, List.set_cons_succ]
  refine wpList_nil ?_
  (go_step; go_step; go_step; refine wp_region_lit ?_)
  refine wl_row hM2 1 (v := pv4 a) rfl rfl rfl rfl rowPt rfl ?_
  simp only [Act.put, List.setIfInBounds_toArray, List.set_cons_zero, List.set_cons_succ]
  obtain ⟨v1, ev1⟩ : ∃ x, x = p.1.val := ⟨_, rfl⟩
  have pv1 : v1 < PN := by rw [ev1]; exact Fin.isLt _
  obtain ⟨v2, ev2⟩ : ∃ x, x = p.2.val := ⟨_, rfl⟩
  have pv2 : v2 < PN := by rw [ev2]; exact Fin.isLt _
  have KX16 := Lib.hid (fun W => xyp4 ha W)
  simp only [← ev1, ← ev2] at KX16
  refine wl_call hM2 (args := #[pv4 a]) (v := .tuple #[numV v1, numV v2]) (fun W => run_call_fn W (enters_of Try.func46 rfl rfl) rfl (by simp [Act.eval])) (KX16.out W2) rfl fun W3 hM3 => ?_
  simp only [Act.put, List.setIfInBounds_toArray, List.set_cons_zero, List.set_cons_succ]
  refine wl_pure (v := .tuple #[numV v1, numV v2]) (fun _ => rfl) rfl ?_
  simp only [Act.put, List.setIfInBounds_toArray, List.set_cons_zero, List.set_cons_succ]
  refine wl_pure (v := numV v1) (fun _ => rfl) rfl ?_
  simp only [Act.put, List.setIfInBounds_toArray, List.set_cons_zero, List.set_cons_succ]
  refine wl_pure (v := numV v2) (fun _ => rfl) rfl ?_
  simp only [Act.put, List.setIfInBounds_toArray, List.set_cons_zero, List.set_cons_succ]
  refine wl_new hM3 (f := fun b => .pointer (some ⟨b, 0, none⟩)) (ob := .cells z4 27 (0, 0)) (fun W => run_alloc_of rfl (al_El W)) rfl fun b3 W4 hM4 => ?_
  simp only [Act.put, List.setIfInBounds_toArray, List.set_cons_zero, List.set_cons_succ]
  refine wl_new hM4 (f := fun b => .pointer (some ⟨b, 0, none⟩)) (ob := .cells z4 27 (0, 0)) (fun W => run_alloc_of rfl (al_El W)) rfl fun b4 W5 hM5 => ?_
  simp only [Act.put, List.setIfInBounds_toArray, List.set_cons_zero, List.set_cons_succ]
  refine wl_set hM5 1 (cs := (elR v1)) rfl rfl rfl rfl rowEl rfl (one_el v1) rfl rfl fun W6 hM6 => ?_
  simp only [List.set_cons_zero, List.set_cons_succ] at hM6
  refine wl_set hM6 0 (cs := (elR v2)) rfl rfl rfl rfl rowEl rfl (one_el v2) rfl rfl fun W7 hM7 => ?_
  simp only [List.set_cons_zero, List.set_cons_succ] at hM7
  refine wpList_nil ?_
  (go_step; go_step; go_step; refine wp_region_lit ?_)
  refine wl_row hM7 2 (v := pv3 b) rfl rfl rfl rfl rowRp rfl ?_
  simp only [Act.put, List.setIfInBounds_toArray, List.set_cons_zero, List.set_cons_succ]
  have KX38 := Lib.hid (fun W => rxy3 hb W)
  simp only [← ev1, ← ev2] at KX38
  refine wl_call hM7 (args := #[pv3 b]) (v := .tuple #[numV v1, numV v2]) (fun W => run_call_fn W (enters_of Try.func32 rfl rfl) rfl (by simp [Act.eval])) (KX38.out W7) rfl fun W8 hM8 => ?_
  simp only [Act.put, List.setIfInBounds_toArray, List.set_cons_zero, List.set_cons_succ]
  refine wl_pure (v := .tuple #[numV v1, numV v2]) (fun _ => rfl) rfl ?_
  simp only [Act.put, List.setIfInBounds_toArray, List.set_cons_zero, List.set_cons_succ]
  refine wl_pure (v := numV v1) (fun _ => rfl) rfl ?_
  simp only [Act.put, List.setIfInBounds_toArray, List.set_cons_zero, List.set_cons_succ]
  refine wl_pure (v := numV v2) (fun _ => rfl) rfl ?_
  simp only [Act.put, List.setIfInBounds_toArray, List.set_cons_zero, List.set_cons_succ]
  refine wl_new hM8 (f := fun b => .pointer (some ⟨b, 0, none⟩)) (ob := .cells z4 24 (0, 0)) (fun W => run_alloc_of rfl (al_Nu W)) rfl fun b5 W9 hM9 => ?_
  simp only [Act.put, List.setIfInBounds_toArray, List.set_cons_zero, List.set_cons_succ]
  refine wl_new hM9 (f := fun b => .pointer (some ⟨b, 0, none⟩)) (ob := .cells z4 24 (0, 0)) (fun W => run_alloc_of rfl (al_Nu W)) rfl fun b6 W10 hM10 => ?_
  simp only [Act.put, List.setIfInBounds_toArray, List.set_cons_zero, List.set_cons_succ]
  refine wl_set hM10 1 (cs := (elR v1)) rfl rfl rfl rfl rowNu rfl (one_el v1) rfl rfl fun W11 hM11 => ?_
  simp only [List.set_cons_zero, List.set_cons_succ] at hM11
  refine wl_set hM11 0 (cs := (elR v2)) rfl rfl rfl rfl rowNu rfl (one_el v2) rfl rfl fun W12 hM12 => ?_
  simp only [List.set_cons_zero, List.set_cons_succ] at hM12
  refine wpList_nil ?_
  (go_step; go_step; go_step; refine wp_region_inw 11 HMIX.out (by decide) (by kernel_rfl) (by kernel_rfl) ?_)
  refine inw_row hM12 3 (v := numV v1) rfl rfl rfl rfl rowEl rfl rfl ?_; simp only [Act.put, List.setIfInBounds_toArray, List.set_cons_zero, List.set_cons_succ]
  refine inw_callV (args := #[numV v1]) (v := numV v1) (fun W => run_call_fn W (enters_of Try.func50 rfl rfl) rfl (by simp [Act.eval])) (fun W _ => pnum_any v1 W) rfl rfl ?_; simp only [Act.put, List.setIfInBounds_toArray, List.set_cons_zero, List.set_cons_succ]
  refine inw_row hM12 1 (v := numV v1) rfl rfl rfl rfl rowNu rfl rfl ?_; simp only [Act.put, List.setIfInBounds_toArray, List.set_cons_zero, List.set_cons_succ]
  refine inw_pure (v := .bool true) (fun W => run_bin_of rfl rfl rfl (bin_eql_nu_self v1 _ _ W pv1)) rfl rfl ?_; simp only [Act.put, List.setIfInBounds_toArray, List.set_cons_zero, List.set_cons_succ]
  refine inw_pure (v := .bool true) (fun _ => rfl) rfl rfl ?_; simp only [Act.put, List.setIfInBounds_toArray, List.set_cons_zero, List.set_cons_succ]
  refine inw_row hM12 2 (v := numV v2) rfl rfl rfl rfl rowEl rfl rfl ?_; simp only [Act.put, List.setIfInBounds_toArray, List.set_cons_zero, List.set_cons_succ]
  refine inw_callV (args := #[numV v2]) (v := numV v2) (fun W => run_call_fn W (enters_of Try.func50 rfl rfl) rfl (by simp [Act.eval])) (fun W _ => pnum_any v2 W) rfl rfl ?_; simp only [Act.put, List.setIfInBounds_toArray, List.set_cons_zero, List.set_cons_succ]
  refine inw_row hM12 0 (v := numV v2) rfl rfl rfl rfl rowNu rfl rfl ?_; simp only [Act.put, List.setIfInBounds_toArray, List.set_cons_zero, List.set_cons_succ]
  refine inw_pure (v := .bool true) (fun W => run_bin_of rfl rfl rfl (bin_eql_nu_self v2 _ _ W pv2)) rfl rfl ?_; simp only [Act.put, List.setIfInBounds_toArray, List.set_cons_zero, List.set_cons_succ]
  refine inw_pure (v := .bool true) (fun _ => rfl) rfl rfl ?_; simp only [Act.put, List.setIfInBounds_toArray, List.set_cons_zero, List.set_cons_succ]
  refine inw_pure (v := .bool true) (fun _ => rfl) rfl rfl ?_; simp only [Act.put, List.setIfInBounds_toArray, List.set_cons_zero, List.set_cons_succ]
  refine inw_fin fun d os => ?_
  refine given_nil fun hap => ?_
  have hM13 := hM12.calls (below_regrown W12 d os)
  clear hap 
  generalize grow (redrawn W12 d) os = W13 at hM13 ⊢
  refine wpAny_done (by kernel_rfl) ?_ _
  (go_step; go_step; go_step; refine bodyPost_ret (v := .bool true) (results_slot Try.results18 rfl) rfl ⟨?_, hM13.below⟩)
  exact rfl
set_option maxRecDepth 20000 in
set_option maxHeartbeats 8000000 in
theorem is_zero {b : N3} (hb : Ok3 b zeroE) (w : World) : Calls Try.prog 18 #[.agg z16, pv3 b] w fun E w' => E = .returned (.bool true) ∧ Below w.heap.size w w' := by
  have HMIX := Lib.hid (show Try.prog.follows .mixedOrders = true by kernel_rfl)
  go_enter Try.func18, Try.ntmps18
  have hM0 := Mem.start w
  (go_step; go_step; refine wp_region_lit ?_)
  refine wl_new hM0 (f := fun b => .pointer (some ⟨b, 0, none⟩)) (ob := .cells z16 30 (0, 0)) (fun W => run_box_of rfl rfl (bx_Pt0 W)) rfl fun b1 W1 hM1 => ?_
  simp only [Act.put, List.setIfInBounds_toArray, List.set_cons_zero, List.set_cons_succ]
  refine wl_new hM1 (f := fun b => .pointer (some ⟨b, 0, none⟩)) (ob := .cells ((rpL b.1 b.2.1 b.2.2).toArray) 32 (0, 0)) (fun W => run_box_of rfl rfl (bx_Rp _ _ _ W)) rfl fun b2 W2 hM2 => ?_
  simp only [Act.put, List.setIfInBounds_toArray, List.set_cons_zero, List.set_cons_succ]
  refine wl_pure (v := .bool false) (fun _ => rfl) rfl ?_
  simp only [Act.put, List.setIfInBounds_toArray, List.set_cons_zero, List.set_cons_succ]
  refine wpList_nil ?_
  (go_step; go_step; go_step; refine wp_region_lit ?_)
  refine wl_row hM2 1 (v := .agg z16) rfl rfl rfl rfl rowPt rfl ?_
  simp only [Act.put, List.setIfInBounds_toArray, List.set_cons_zero, List.set_cons_succ]
  obtain ⟨v1, ev1⟩ : ∃ x, x = zeroE.1.val := ⟨_, rfl⟩
  have pv1 : v1 < PN := by rw [ev1]; exact Fin.isLt _
  obtain ⟨v2, ev2⟩ : ∃ x, x = zeroE.2.val := ⟨_, rfl⟩
  have pv2 : v2 < PN := by rw [ev2]; exact Fin.isLt _
  have KX16 := Lib.hid (fun W => xyp0 W)
  simp only [← ev1, ← ev2] at KX16
  refine wl_call hM2 (args := #[.agg z16]) (v := .tuple #[numV v1, numV v2]) (fun W => run_call_fn W (enters_of Try.func46 rfl rfl) rfl (by simp [Act.eval])) (KX16.out W2) rfl fun W3 hM3 => ?_
  simp only [Act.put, List.setIfInBounds_toArray, List.set_cons_zero, List.set_cons_succ]
  refine wl_pure (v := .tuple #[numV v1, numV v2]) (fun _ => rfl) rfl ?_
  simp only [Act.put, List.setIfInBounds_toArray, List.set_cons_zero, List.set_cons_succ]
  refine wl_pure (v := numV v1) (fun _ => rfl) rfl ?_
  simp only [Act.put, List.setIfInBounds_toArray, List.set_cons_zero, List.set_cons_succ]
  refine wl_pure (v := numV v2) (fun _ => rfl) rfl ?_
  simp only [Act.put, List.setIfInBounds_toArray, List.set_cons_zero, List.set_cons_succ]
  refine wl_new hM3 (f := fun b => .pointer (some ⟨b, 0, none⟩)) (ob := .cells z4 27 (0, 0)) (fun W => run_alloc_of rfl (al_El W)) rfl fun b3 W4 hM4 => ?_
  simp only [Act.put, List.setIfInBounds_toArray, List.set_cons_zero, List.set_cons_succ]
  refine wl_new hM4 (f := fun b => .pointer (some ⟨b, 0, none⟩)) (ob := .cells z4 27 (0, 0)) (fun W => run_alloc_of rfl (al_El W)) rfl fun b4 W5 hM5 => ?_
  simp only [Act.put, List.setIfInBounds_toArray, List.set_cons_zero, List.set_cons_succ]
  refine wl_set hM5 1 (cs := (elR v1)) rfl rfl rfl rfl rowEl rfl (one_el v1) rfl rfl fun W6 hM6 => ?_
  simp only [List.set_cons_zero, List.set_cons_succ] at hM6
  refine wl_set hM6 0 (cs := (elR v2)) rfl rfl rfl rfl rowEl rfl (one_el v2) rfl rfl fun W7 hM7 => ?_
  simp only [List.set_cons_zero, List.set_cons_succ] at hM7
  refine wpList_nil ?_
  (go_step; go_step; go_step; refine wp_region_lit ?_)
  refine wl_row hM7 2 (v := pv3 b) rfl rfl rfl rfl rowRp rfl ?_
  simp only [Act.put, List.setIfInBounds_toArray, List.set_cons_zero, List.set_cons_succ]
  have KX38 := Lib.hid (fun W => rxy3 hb W)
  simp only [← ev1, ← ev2] at KX38
  refine wl_call hM7 (args := #[pv3 b]) (v := .tuple #[numV v1, numV v2]) (fun W => run_call_fn W (enters_of Try.func32 rfl rfl) rfl (by simp [Act.eval])) (KX38.out W7) rfl fun W8 hM8 => ?_
  simp only [Act.put, List.setIfInBounds_toArray, List.set_cons_zero, List.set_cons_succ]
  refine wl_pure (v := .tuple #[numV v1, numV v2]) (fun _ => rfl) rfl ?_
  simp only [Act.put, List.setIfInBounds_toArray, List.set_cons_zero, List.set_cons_succ]
  refine wl_pure (v := numV v1) (fun _ => rfl) rfl ?_
  simp only [Act.put, List.setIfInBounds_toArray, List.set_cons_zero, List.set_cons_succ]
  refine wl_pure (v := numV v2) (fun _ => rfl) rfl ?_
  simp only [Act.put, List.setIfInBounds_toArray, List.set_cons_zero, List.set_cons_succ]
  refine wl_new hM8 (f := fun b => .pointer (some ⟨b, 0, none⟩)) (ob := .cells z4 24 (0, 0)) (fun W => run_alloc_of rfl (al_Nu W)) rfl fun b5 W9 hM9 => ?_
  simp only [Act.put, List.setIfInBounds_toArray, List.set_cons_zero, List.set_cons_succ]
  refine wl_new hM9 (f := fun b => .pointer (some ⟨b, 0, none⟩)) (ob := .cells z4 24 (0, 0)) (fun W => run_alloc_of rfl (al_Nu W)) rfl fun b6 W10 hM10 => ?_
  simp only [Act.put, List.setIfInBounds_toArray, List.set_cons_zero, List.set_cons_succ]
  refine wl_set hM10 1 (cs := (elR v1)) rfl rfl rfl rfl rowNu rfl (one_el v1) rfl rfl fun W11 hM11 => ?_
  simp only [List.set_cons_zero, List.set_cons_succ] at hM11
  refine wl_set hM11 0 (cs := (elR v2)) rfl rfl rfl rfl rowNu rfl (one_el v2) rfl rfl fun W12 hM12 => ?_
  simp only [List.set_cons_zero, List.set_cons_succ] at hM12
  refine wpList_nil ?_
  (go_step; go_step; go_step; refine wp_region_inw 11 HMIX.out (by decide) (by kernel_rfl) (by kernel_rfl) ?_)
  refine inw_row hM12 3 (v := numV v1) rfl rfl rfl rfl rowEl rfl rfl ?_; simp only [Act.put, List.setIfInBounds_toArray, List.set_cons_zero, List.set_cons_succ]
  refine inw_callV (args := #[numV v1]) (v := numV v1) (fun W => run_call_fn W (enters_of Try.func50 rfl rfl) rfl (by simp [Act.eval])) (fun W _ => pnum_any v1 W) rfl rfl ?_; simp only [Act.put, List.setIfInBounds_toArray, List.set_cons_zero, List.set_cons_succ]
  refine inw_row hM12 1 (v := numV v1) rfl rfl rfl rfl rowNu rfl rfl ?_; simp only [Act.put, List.setIfInBounds_toArray, List.set_cons_zero, List.set_cons_succ]
  refine inw_pure (v := .bool true) (fun W => run_bin_of rfl rfl rfl (bin_eql_nu_self v1 _ _ W pv1)) rfl rfl ?_; simp only [Act.put, List.setIfInBounds_toArray, List.set_cons_zero, List.set_cons_succ]
  refine inw_pure (v := .bool true) (fun _ => rfl) rfl rfl ?_; simp only [Act.put, List.setIfInBounds_toArray, List.set_cons_zero, List.set_cons_succ]
  refine inw_row hM12 2 (v := numV v2) rfl rfl rfl rfl rowEl rfl rfl ?_; simp only [Act.put, List.setIfInBounds_toArray, List.set_cons_zero, List.set_cons_succ]
  refine inw_callV (args := #[numV v2]) (v := numV v2) (fun W => run_call_fn W (enters_of Try.func50 rfl rfl) rfl (by simp [Act.eval])) (fun W _ => pnum_any v2 W) rfl rfl ?_; simp only [Act.put, List.setIfInBounds_toArray, List.set_cons_zero, List.set_cons_succ]
  refine inw_row hM12 0 (v := numV v2) rfl rfl rfl rfl rowNu rfl rfl ?_; simp only [Act.put, List.setIfInBounds_toArray, List.set_cons_zero, List.set_cons_succ]
  refine inw_pure (v := .bool true) (fun W => run_bin_of rfl rfl rfl (bin_eql_nu_self v2 _ _ W pv2)) rfl rfl ?_; simp only [Act.put, List.setIfInBounds_toArray, List.set_cons_zero, List.set_cons_succ]
  refine inw_pure (v := .bool true) (fun _ => rfl) rfl rfl ?_; simp only [Act.put, List.setIfInBounds_toArray, List.set_cons_zero, List.set_cons_succ]
  refine inw_pure (v := .bool true) (fun _ => rfl) rfl rfl ?_; simp only [Act.put, List.setIfInBounds_toArray, List.set_cons_zero, List.set_cons_succ]
  refine inw_fin fun d os => ?_
  refine given_nil fun hap => ?_
  have hM13 := hM12.calls (below_regrown W12 d os)
  clear hap 
  generalize grow (redrawn W12 d) os = W13 at hM13 ⊢
  refine wpAny_done (by kernel_rfl) ?_ _
  (go_step; go_step; go_step; refine bodyPost_ret (v := .bool true) (results_slot Try.results18 rfl) rfl ⟨?_, hM13.below⟩)
  exact rfl
set_option maxRecDepth 20000 in
set_option maxHeartbeats 8000000 in
theorem both_any (k : Nat) (hk : k < 4294967296) (w : World) : Calls Try.prog 7 #[.int .u32 (k : Int)] w fun E w' => E = .returned (.tuple #[pv4 (at4 (timesE k baseE)), pv3 (tms k (bX, bY, 1) 256)]) ∧ Below w.heap.size w w' := by
  have hk64 : k < 18446744073709551616 := by omega
  have hkB : k < B64 ^ 4 := Nat.lt_of_lt_of_le hk (by decide +kernel)
  have HMIX := Lib.hid (show Try.prog.follows .mixedOrders = true by kernel_rfl)
  go_enter Try.func7, Try.ntmps7
  have hM0 := Mem.start w
  (go_step; go_step; refine wp_region_lit ?_)
  refine wl_new hM0 (f := fun b => .pointer (some ⟨b, 0, none⟩)) (ob := .cells z16 30 (0, 0)) (fun W => run_alloc_of rfl (al_Pt W)) rfl fun b1 W1 hM1 => ?_
  simp only [Act.put, List.setIfInBounds_toArray, List.set_cons_zero, List.set_cons_succ]
  refine wl_new hM1 (f := fun b => .pointer (some ⟨b, 0, none⟩)) (ob := .cells z12 32 (0, 0)) (fun W => run_alloc_of rfl (al_Rp W)) rfl fun b2 W2 hM2 => ?_
  simp only [Act.put, List.setIfInBounds_toArray, List.set_cons_zero, List.set_cons_succ]
  refine wpList_nil ?_
  (go_step; go_step; go_step; refine wp_region_lit ?_)
  refine wl_pure (v := .int .u32 (k : Int)) (fun _ => rfl) rfl ?_
  simp only [Act.put, List.setIfInBounds_toArray, List.set_cons_zero, List.set_cons_succ]
  refine wl_pure (v := .int .u64 (k : Int)) (fun W => run_cv_of rfl rfl (cv32 k hk W)) rfl ?_
  simp only [Act.put, List.setIfInBounds_toArray, List.set_cons_zero, List.set_cons_succ]
  refine wl_pure (v := numV k) (fun W => run_build_of rfl (by simp [Act.eval]) (bdN1 k hk64 W)) rfl ?_
  simp only [Act.put, List.setIfInBounds_toArray, List.set_cons_zero, List.set_cons_succ]
  refine wl_call hM2 (args := #[]) (v := pv3 ((bX, bY, 1))) (fun W => run_call_fn W (enters_of Try.func31 rfl rfl) rfl (by simp [Act.eval])) (rbase_any W2) rfl fun W3 hM3 => ?_
  simp only [Act.put, List.setIfInBounds_toArray, List.set_cons_zero, List.set_cons_succ]
  refine wl_call hM3 (args := #[]) (v := numV dN) (fun W => run_call_fn W (enters_of Try.func11 rfl rfl) rfl (by simp [Act.eval])) (rD_any W3) rfl fun W4 hM4 => ?_
  simp only [Act.put, List.setIfInBounds_toArray, List.set_cons_zero, List.set_cons_succ]
  obtain ⟨q, eq⟩ : ∃ x, x = tms k (bX, bY, 1) 256 := ⟨_, rfl⟩
  have okq : Ok3 q (timesE k baseE) := by rw [eq]; exact ok3_times ok3_base k hkB
  have KT := Lib.hid (fun W => times_any k (bX, bY, 1) W hkB ok3_base.is)
  simp only [← eq] at KT
  refine wl_call hM4 (args := #[numV k, pv3 ((bX, bY, 1)), numV dN]) (v := pv3 q) (fun W => run_call_fn W (enters_of Try.func30 rfl rfl) rfl (by simp [Act.eval])) (KT.out W4) rfl fun W5 hM5 => ?_
  simp only [Act.put, List.setIfInBounds_toArray, List.set_cons_zero, List.set_cons_succ]
  refine wl_new hM5 (f := fun b => .pointer (some ⟨b, 0, none⟩)) (ob := .cells z12 32 (0, 0)) (fun W => run_alloc_of rfl (al_Rp W)) rfl fun b3 W6 hM6 => ?_
  simp only [Act.put, List.setIfInBounds_toArray, List.set_cons_zero, List.set_cons_succ]
  refine wl_set hM6 0 (cs := ((rpL q.1 q.2.1 q.2.2).toArray)) rfl rfl rfl rfl rowRp rfl (one_rp _ _ _) rfl rfl fun W7 hM7 => ?_
  simp only [List.set_cons_zero, List.set_cons_succ] at hM7
  refine wpList_nil ?_
  (go_step; go_step; go_step; refine wp_region_lit ?_)
  refine wl_row hM7 0 (v := pv3 q) rfl rfl rfl rfl rowRp rfl ?_
  simp only [Act.put, List.setIfInBounds_toArray, List.set_cons_zero, List.set_cons_succ]
  obtain ⟨v1, ev1⟩ : ∃ x, x = (timesE k baseE).1.val := ⟨_, rfl⟩
  have pv1 : v1 < PN := by rw [ev1]; exact Fin.isLt _
  obtain ⟨v2, ev2⟩ : ∃ x, x = (timesE k baseE).2.val := ⟨_, rfl⟩
  have pv2 : v2 < PN := by rw [ev2]; exact Fin.isLt _
  have KX36 := Lib.hid (fun W => rxy3 okq W)
  simp only [← ev1, ← ev2] at KX36
  refine wl_call hM7 (args := #[pv3 q]) (v := .tuple #[numV v1, numV v2]) (fun W => run_call_fn W (enters_of Try.func32 rfl rfl) rfl (by simp [Act.eval])) (KX36.out W7) rfl fun W8 hM8 => ?_
  simp only [Act.put, List.setIfInBounds_toArray, List.set_cons_zero, List.set_cons_succ]
  refine wl_pure (v := .tuple #[numV v1, numV v2]) (fun _ => rfl) rfl ?_
  simp only [Act.put, List.setIfInBounds_toArray, List.set_cons_zero, List.set_cons_succ]
  refine wl_pure (v := numV v1) (fun _ => rfl) rfl ?_
  simp only [Act.put, List.setIfInBounds_toArray, List.set_cons_zero, List.set_cons_succ]
  refine wl_pure (v := numV v2) (fun _ => rfl) rfl ?_
  simp only [Act.put, List.setIfInBounds_toArray, List.set_cons_zero, List.set_cons_succ]
  refine wl_new hM8 (f := fun b => .pointer (some ⟨b, 0, none⟩)) (ob := .cells z4 24 (0, 0)) (fun W => run_alloc_of rfl (al_Nu W)) rfl fun b4 W9 hM9 => ?_
  simp only [Act.put, List.setIfInBounds_toArray, List.set_cons_zero, List.set_cons_succ]
  refine wl_new hM9 (f := fun b => .pointer (some ⟨b, 0, none⟩)) (ob := .cells z4 24 (0, 0)) (fun W => run_alloc_of rfl (al_Nu W)) rfl fun b5 W10 hM10 => ?_
  simp only [Act.put, List.setIfInBounds_toArray, List.set_cons_zero, List.set_cons_succ]
  refine wl_set hM10 1 (cs := (elR v1)) rfl rfl rfl rfl rowNu rfl (one_el v1) rfl rfl fun W11 hM11 => ?_
  simp only [List.set_cons_zero, List.set_cons_succ] at hM11
  refine wl_set hM11 0 (cs := (elR v2)) rfl rfl rfl rfl rowNu rfl (one_el v2) rfl rfl fun W12 hM12 => ?_
  simp only [List.set_cons_zero, List.set_cons_succ] at hM12
  refine wpList_nil ?_
  (go_step; go_step; go_step; refine wp_region_inz 9 7 rfl rfl (steady_extract rfl) (by kernel_rfl) (by decide) HMIX.out (by decide) (by kernel_rfl) (by kernel_rfl) ?_)
  refine inw_row hM12 1 (v := numV v1) rfl rfl rfl rfl rowNu rfl rfl ?_; simp only [Act.put, List.setIfInBounds_toArray, List.set_cons_zero, List.set_cons_succ]
  refine inw_callV (args := #[numV v1]) (v := numV v1) (fun W => run_call_fn W (enters_of Try.func34 rfl rfl) rfl (by simp [Act.eval])) (fun W _ => el'2 v1 pv1 W) rfl rfl ?_; simp only [Act.put, List.setIfInBounds_toArray, List.set_cons_zero, List.set_cons_succ]
  refine inw_row hM12 0 (v := numV v2) rfl rfl rfl rfl rowNu rfl rfl ?_; simp only [Act.put, List.setIfInBounds_toArray, List.set_cons_zero, List.set_cons_succ]
  refine inw_callV (args := #[numV v2]) (v := numV v2) (fun W => run_call_fn W (enters_of Try.func34 rfl rfl) rfl (by simp [Act.eval])) (fun W _ => el'2 v2 pv2 W) rfl rfl ?_; simp only [Act.put, List.setIfInBounds_toArray, List.set_cons_zero, List.set_cons_succ]
  refine inw_callV (args := #[numV v1, numV v2]) (v := .tuple #[pv4 (at4 (timesE k baseE)), .int .i64 0]) (fun W => run_call_fn W (enters_of Try.func33 rfl rfl) rfl (by simp [Act.eval])) (fun W _ => make_pt (timesE k baseE) okq.on v1 v2 ev1 ev2 W) rfl rfl ?_; simp only [Act.put, List.setIfInBounds_toArray, List.set_cons_zero, List.set_cons_succ]
  refine inw_pure (v := .tuple #[pv4 (at4 (timesE k baseE)), .int .i64 0]) (fun _ => rfl) rfl rfl ?_; simp only [Act.put, List.setIfInBounds_toArray, List.set_cons_zero, List.set_cons_succ]
  refine inw_pure (v := pv4 (at4 (timesE k baseE))) (fun _ => rfl) rfl rfl ?_; simp only [Act.put, List.setIfInBounds_toArray, List.set_cons_zero, List.set_cons_succ]
  refine inw_pure (v := .int .i64 0) (fun _ => rfl) rfl rfl ?_; simp only [Act.put, List.setIfInBounds_toArray, List.set_cons_zero, List.set_cons_succ]
  refine inw_new (.cells z16 30 (0, 0)) rfl rfl (fun A W => run_alloc_of rfl (al_Pt W)) ?_; simp only [List.nil_append, List.cons_append]
  refine inw_fin fun d os => ?_
  refine given_new (t := 7) rfl fun b6 lb6 gb6 => ?_
  refine given_nil fun hap => ?_
  simp only [Act.put, List.setIfInBounds_toArray, List.set_cons_zero, List.set_cons_succ] at hap ⊢
  have hM13 := hM12.news1 (below_regrown W12 d os) lb6 gb6 
  clear hap lb6 gb6
  generalize grow (redrawn W12 d) os = W13 at hM13 ⊢
  change wpAny _ _ _ _ 2 _ _ _
  refine any_set (n := 9) (by kernel_rfl) rfl hM13 0 (cs := ((pc4 (at4 (timesE k baseE))))) rfl rfl rfl rfl rowPt rfl (one_p4 _) rfl rfl fun W14 hM14 => ?_
  simp only [List.set_cons_zero, List.set_cons_succ] at hM14
  refine any_pure (n := 10) (v := .int .i64 0) (by kernel_rfl) rfl (fun _ => rfl) rfl rfl ?_
  simp only [Act.put, List.setIfInBounds_toArray, List.set_cons_zero, List.set_cons_succ]
  refine wpAny_done (by kernel_rfl) ?_ _
  refine NoPanic.normal ?_
  have hMd := hM14.drew
  (go_step; go_step; go_step; refine wp_region_noPanic (wp_region_held_drew HMIX.out (S := fun w1 => w1.heap[b6]? = some (.cells ((pc4 (at4 (timesE k baseE)))) 30 (0, 0)) ∧ w1.heap[b3]? = some (.cells ((rpL q.1 q.2.1 q.2.2).toArray) 32 (0, 0))) (⟨hMd.get 0 rfl, hMd.get 3 rfl⟩) fun hS => ?_))
  change wpAnyH _ _ _ _ _ 4 _ _ _
  generalize W14.drew = W15 at hMd hS ⊢
  have hM15 := hMd
  clear hMd
  refine hd_row 0 28 #[true, false, false, false] (by kernel_rfl) (v := pv4 (at4 (timesE k baseE))) (cs := ((pc4 (at4 (timesE k baseE))))) (b := b6) rfl rfl rfl rfl (fun W hW => hW.1) rfl rowPt (by kernel_rfl) (by kernel_rfl) (by kernel_rfl) rfl hS ?_
  simp only [Act.put, List.setIfInBounds_toArray, List.set_cons_zero, List.set_cons_succ]
  refine hd_row 1 29 #[true, true, false, false] (by kernel_rfl) (v := pv3 q) (cs := ((rpL q.1 q.2.1 q.2.2).toArray)) (b := b3) rfl rfl rfl rfl (fun W hW => hW.2) rfl rowRp (by kernel_rfl) (by kernel_rfl) (by kernel_rfl) rfl hS ?_
  simp only [Act.put, List.setIfInBounds_toArray, List.set_cons_zero, List.set_cons_succ]
  refine hd_set (n := 2) #[true, true, true, false] (by kernel_rfl) (by kernel_rfl) rfl hM15 5 (cs := ((pc4 (at4 (timesE k baseE))))) rfl rfl rfl rfl rowPt rfl (one_p4 _) rfl rfl (fun W hW => ⟨hW.get 0 rfl, hW.get 3 rfl⟩) fun W16 hM16 => ?_
  simp only [List.set_cons_zero, List.set_cons_succ] at hM16
  refine hd_set (n := 3) #[true, true, true, true] (by kernel_rfl) (by kernel_rfl) rfl hM16 4 (cs := ((rpL q.1 q.2.1 q.2.2).toArray)) rfl rfl rfl rfl rowRp rfl (one_rp _ _ _) rfl rfl (fun W hW => ⟨hW.get 0 rfl, hW.get 3 rfl⟩) fun W17 hM17 => ?_
  simp only [List.set_cons_zero, List.set_cons_succ] at hM17
  refine wpAnyH_done (by kernel_rfl) ?_ _
  refine NoPanic.normal ?_
  (go_step; go_step; go_step; refine bodyPost_ret (v := .tuple #[pv4 (at4 (timesE k baseE)), pv3 q]) (results_arr2 Try.results7 rfl rfl (hM17.load 5 rfl rowPt) (hM17.load 4 rfl rowRp)) rfl ⟨?_, hM17.below⟩)
  exact by rw [eq]
end Go.Proofs.Ytigfoophimjgdaa
