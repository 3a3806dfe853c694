/- mult's functions and the reference's (layer 23): their contracts. The laws' lives and MultTells (layer 23): they return true. Numbers of four words as arguments of a law: how they are opened and shut. -/
import Derived.ProofKit
import Derived.OpenShut
import Derived.ShutString
import Derived.ChangeOld
import Derived.Below
import Derived.WideKeyArr2
import Derived.Test.YtigfoophimjgdaaM24
import Derived.Test.YtigfoophimjgdaaM25
import Derived.Test.YtigfoophimjgdaaM03
namespace Go.Proofs.Ytigfoophimjgdaa
set_option maxRecDepth 20000
set_option linter.unusedSimpArgs false
set_option linter.unusedVariables false
open Go.RowKit Go.Sort
theorem bd_Tm (k : Nat) (a : N4) (W : World) : (Instr.build 101 #[(0, numV k), (1, pv4 a)]).run Try.prog W = .ok (.agg (tmL k a).toArray) W := by
  kernel_rfl
theorem bs_Tm1 (k : Nat) (a : N4) (W : World) : (Instr.buildSlice 133 1 #[(0, .agg (tmL k a).toArray)]).run Try.prog W = .ok (.slice (some ⟨W.heap.size, 0, none⟩) 1 1) (W.alloc (.cells (tmL k a).toArray 101 (0, 0))) := by
  kernel_rfl
theorem bs_Tm2 (k l : Nat) (a b : N4) (W : World) : (Instr.buildSlice 133 2 #[(0, .agg (tmL k a).toArray), (1, .agg (tmL l b).toArray)]).run Try.prog W = .ok (.slice (some ⟨W.heap.size, 0, none⟩) 2 2) (W.alloc (.cells (tmL k a ++ tmL l b).toArray 101 (0, 0))) := by
  kernel_rfl
theorem times4_of {a : N4} {p : Pt} (ha : Ok4 a p) (k : Nat) (hk : k < B64 ^ 4) : ∃ R, R = runF (take1 k a) (stepsN k) zero4 ∧ Ok4 R (timesE k p) := ⟨_, rfl, ok4_all1 k _ ha (steps_enough k _ (Nat.le_refl _))⟩
theorem both4_of {a b : N4} {p q : Pt} (ha : Ok4 a p) (hb : Ok4 b q) (k l : Nat) (hk : k < B64 ^ 4) (hl : l < B64 ^ 4) : ∃ R, R = runF (take2 k l a b) (max (stepsN k) (stepsN l)) zero4 ∧ Ok4 R (addE (timesE k p) (timesE l q)) := ⟨_, rfl, ok4_all2 k l _ ha hb (steps_enough k _ (Nat.le_max_left _ _)) (steps_enough l _ (Nat.le_max_right _ _))⟩
set_option maxRecDepth 20000 in
set_option maxHeartbeats 8000000 in
theorem mtimes_any {a R : N4} {p : Pt} (ha : Ok4 a p) (k : Nat) (hk : k < B64 ^ 4) (hR : R = runF (take1 k a) (stepsN k) zero4) (w : World) : Calls Try.prog 19 #[numV k, pv4 a] w fun E w' => E = .returned (pv4 R) ∧ Below w.heap.size w w' := by
  have KS := Lib.hid (fun g w hg => msum1_any ha k hk g w hg)
  rw [← hR] at KS
  clear hR
  have HMIX := Lib.hid (show Try.prog.follows .mixedOrders = true by kernel_rfl)
  go_enter Try.func19, Try.ntmps19
  have hM0 := Mem.start w
  (go_step; go_step; refine wp_region_lit ?_)
  refine wl_new hM0 (f := fun b => .pointer (some ⟨b, 0, none⟩)) (ob := .cells (elR k) 25 (0, 0)) (fun W => run_box_of rfl rfl (bx_Wn k W)) rfl fun b1 W1 hM1 => ?_
  simp only [Act.put, List.setIfInBounds_toArray, List.set_cons_zero, List.set_cons_succ]
  refine wl_new hM1 (f := fun b => .pointer (some ⟨b, 0, none⟩)) (ob := .cells ((pc4 a)) 30 (0, 0)) (fun W => run_box_of rfl rfl (bx_P4 _ W)) rfl fun b2 W2 hM2 => ?_
  simp only [Act.put, List.setIfInBounds_toArray, List.set_cons_zero, List.set_cons_succ]
  refine wl_new hM2 (f := fun b => .pointer (some ⟨b, 0, none⟩)) (ob := .cells z16 30 (0, 0)) (fun W => run_alloc_of rfl (al_Pt W)) rfl fun b3 W3 hM3 => ?_
  simp only [Act.put, List.setIfInBounds_toArray, List.set_cons_zero, List.set_cons_succ]
  refine wpList_nil ?_
  (go_step; go_step; go_step; refine wp_region_lit ?_)
  refine wl_row hM3 2 (v := numV k) rfl rfl rfl rfl rowWn rfl ?_
  simp only [Act.put, List.setIfInBounds_toArray, List.set_cons_zero, List.set_cons_succ]
  refine wl_row hM3 1 (v := pv4 a) rfl rfl rfl rfl rowPt rfl ?_
  simp only [Act.put, List.setIfInBounds_toArray, List.set_cons_zero, List.set_cons_succ]
  refine wl_pure (v := .agg (tmL k a).toArray) (fun W => run_build_of rfl (by simp [Act.eval]) (bd_Tm k a W)) rfl ?_
  simp only [Act.put, List.setIfInBounds_toArray, List.set_cons_zero, List.set_cons_succ]
  refine wl_new hM3 (f := fun b => .slice (some ⟨b, 0, none⟩) 1 1) (ob := .cells ((tmL k a).toArray) 101 (0, 0)) (fun W => run_slice_of rfl (by simp [Act.eval]) (bs_Tm1 k a W)) rfl fun b4 W4 hM4 => ?_
  simp only [Act.put, List.setIfInBounds_toArray, List.set_cons_zero, List.set_cons_succ]
  refine wl_call hM4 (args := #[.slice (some ⟨b4, 0, none⟩) 1 1]) (v := pv4 R) (fun W => run_call_fn W (enters_of Try.func64 rfl rfl) rfl (by simp [Act.eval])) (KS.out b4 W4 (hM4.get 0 rfl)) rfl fun W5 hM5 => ?_
  simp only [Act.put, List.setIfInBounds_toArray, List.set_cons_zero, List.set_cons_succ]
  refine wl_set hM5 1 (cs := ((pc4 R))) rfl rfl rfl rfl rowPt rfl (one_p4 _) rfl rfl fun W6 hM6 => ?_
  simp only [List.set_cons_zero, List.set_cons_succ] at hM6
  refine wpList_nil ?_
  (go_step; go_step; go_step; refine bodyPost_ret (v := pv4 R) (results_arr Try.results19 rfl (hM6.load 1 rfl rowPt)) rfl ⟨?_, hM6.below⟩)
  exact rfl
theorem times_ex {a : N4} {p : Pt} (ha : Ok4 a p) (k : Nat) (hk : k < B64 ^ 4) : ∃ R : N4, Ok4 R (timesE k p) ∧ Hid (∀ w, Calls Try.prog 19 #[numV k, pv4 a] w fun E w' => E = .returned (pv4 R) ∧ Below w.heap.size w w') := by
  obtain ⟨R, hR, oR⟩ := times4_of ha k hk
  exact ⟨R, oR, fun w => mtimes_any ha k hk hR w⟩
set_option maxRecDepth 20000 in
set_option maxHeartbeats 8000000 in
theorem mbase_any (R : N4) (k : Nat) (KR : Hid (∀ w, Calls Try.prog 19 #[numV k, pv4 base4] w fun E w' => E = .returned (pv4 R) ∧ Below w.heap.size w w')) (w : World) : Calls Try.prog 25 #[numV k] w fun E w' => E = .returned (pv4 R) ∧ Below w.heap.size w w' := by
  have HMIX := Lib.hid (show Try.prog.follows .mixedOrders = true by kernel_rfl)
  go_enter Try.func25, Try.ntmps25
  have hM0 := Mem.start w
  (go_step; go_step; refine wp_region_lit ?_)
  refine wl_new hM0 (f := fun b => .pointer (some ⟨b, 0, none⟩)) (ob := .cells (elR k) 25 (0, 0)) (fun W => run_box_of rfl rfl (bx_Wn k W)) rfl fun b1 W1 hM1 => ?_
  simp only [Act.put, List.setIfInBounds_toArray, List.set_cons_zero, List.set_cons_succ]
  refine wl_new hM1 (f := fun b => .pointer (some ⟨b, 0, none⟩)) (ob := .cells z16 30 (0, 0)) (fun W => run_alloc_of rfl (al_Pt W)) rfl fun b2 W2 hM2 => ?_
  simp only [Act.put, List.setIfInBounds_toArray, List.set_cons_zero, List.set_cons_succ]
  refine wpList_nil ?_
  (go_step; go_step; go_step; refine wp_region_inw 3 HMIX.out (by decide) (by kernel_rfl) (by kernel_rfl) ?_)
  refine inw_row hM2 1 (v := numV k) rfl rfl rfl rfl rowWn rfl rfl ?_; simp only [Act.put, List.setIfInBounds_toArray, List.set_cons_zero, List.set_cons_succ]
  refine inw_callV (args := #[]) (v := pv4 base4) (fun W => run_call_fn W (enters_of Try.func26 rfl rfl) rfl (by simp [Act.eval])) (fun W _ => base4_any W) rfl rfl ?_; simp only [Act.put, List.setIfInBounds_toArray, List.set_cons_zero, List.set_cons_succ]
  refine inw_callV (args := #[numV k, pv4 base4]) (v := pv4 R) (fun W => run_call_fn W (enters_of Try.func19 rfl rfl) rfl (by simp [Act.eval])) (fun W _ => KR.out W) rfl rfl ?_; simp only [Act.put, List.setIfInBounds_toArray, List.set_cons_zero, List.set_cons_succ]
  refine inw_fin fun d os => ?_
  refine given_nil fun hap => ?_
  have hM3 := hM2.calls (below_regrown W2 d os)
  clear hap 
  generalize grow (redrawn W2 d) os = W3 at hM3 ⊢
  change wpAny _ _ _ _ 1 _ _ _
  refine any_set (n := 3) (by kernel_rfl) rfl hM3 0 (cs := ((pc4 R))) rfl rfl rfl rfl rowPt rfl (one_p4 _) rfl rfl fun W4 hM4 => ?_
  simp only [List.set_cons_zero, List.set_cons_succ] at hM4
  refine wpAny_done (by kernel_rfl) ?_ _
  (go_step; go_step; go_step; refine bodyPost_ret (v := pv4 R) (results_arr Try.results25 rfl (hM4.load 0 rfl rowPt)) rfl ⟨?_, hM4.below⟩)
  exact rfl
theorem base_ex (k : Nat) (hk : k < B64 ^ 4) : ∃ R : N4, Ok4 R (timesE k baseE) ∧ Hid (∀ w, Calls Try.prog 25 #[numV k] w fun E w' => E = .returned (pv4 R) ∧ Below w.heap.size w w') := by
  obtain ⟨R, oR, KR⟩ := times_ex ok4_base k hk
  exact ⟨R, oR, fun w => mbase_any R k KR w⟩
set_option maxRecDepth 20000 in
set_option maxHeartbeats 8000000 in
theorem mboth_any {a R : N4} {p : Pt} (ha : Ok4 a p) (k l : Nat) (hk : k < B64 ^ 4) (hl : l < B64 ^ 4) (hR : R = runF (take2 k l a base4) (max (stepsN k) (stepsN l)) zero4) (w : World) : Calls Try.prog 21 #[numV k, pv4 a, numV l] w fun E w' => E = .returned (pv4 R) ∧ Below w.heap.size w w' := by
  have KS := Lib.hid (fun g w hg => msum2_any ha ok4_base k l hk hl g w hg)
  rw [← hR] at KS
  clear hR
  have HMIX := Lib.hid (show Try.prog.follows .mixedOrders = true by kernel_rfl)
  go_enter Try.func21, Try.ntmps21
  have hM0 := Mem.start w
  (go_step; go_step; refine wp_region_lit ?_)
  refine wl_new hM0 (f := fun b => .pointer (some ⟨b, 0, none⟩)) (ob := .cells (elR k) 25 (0, 0)) (fun W => run_box_of rfl rfl (bx_Wn k W)) rfl fun b1 W1 hM1 => ?_
  simp only [Act.put, List.setIfInBounds_toArray, List.set_cons_zero, List.set_cons_succ]
  refine wl_new hM1 (f := fun b => .pointer (some ⟨b, 0, none⟩)) (ob := .cells ((pc4 a)) 30 (0, 0)) (fun W => run_box_of rfl rfl (bx_P4 _ W)) rfl fun b2 W2 hM2 => ?_
  simp only [Act.put, List.setIfInBounds_toArray, List.set_cons_zero, List.set_cons_succ]
  refine wl_new hM2 (f := fun b => .pointer (some ⟨b, 0, none⟩)) (ob := .cells (elR l) 25 (0, 0)) (fun W => run_box_of rfl rfl (bx_Wn l W)) rfl fun b3 W3 hM3 => ?_
  simp only [Act.put, List.setIfInBounds_toArray, List.set_cons_zero, List.set_cons_succ]
  refine wl_new hM3 (f := fun b => .pointer (some ⟨b, 0, none⟩)) (ob := .cells z16 30 (0, 0)) (fun W => run_alloc_of rfl (al_Pt W)) rfl fun b4 W4 hM4 => ?_
  simp only [Act.put, List.setIfInBounds_toArray, List.set_cons_zero, List.set_cons_succ]
  refine wpList_nil ?_
  (go_step; go_step; go_step; refine wp_region_inw 8 HMIX.out (by decide) (by kernel_rfl) (by kernel_rfl) ?_)
  refine inw_row hM4 3 (v := numV k) rfl rfl rfl rfl rowWn rfl rfl ?_; simp only [Act.put, List.setIfInBounds_toArray, List.set_cons_zero, List.set_cons_succ]
  refine inw_row hM4 2 (v := pv4 a) rfl rfl rfl rfl rowPt rfl rfl ?_; simp only [Act.put, List.setIfInBounds_toArray, List.set_cons_zero, List.set_cons_succ]
  refine inw_pure (v := .agg (tmL k a).toArray) (fun W => run_build_of rfl (by simp [Act.eval]) (bd_Tm k a W)) rfl rfl ?_; simp only [Act.put, List.setIfInBounds_toArray, List.set_cons_zero, List.set_cons_succ]
  refine inw_row hM4 1 (v := numV l) rfl rfl rfl rfl rowWn rfl rfl ?_; simp only [Act.put, List.setIfInBounds_toArray, List.set_cons_zero, List.set_cons_succ]
  refine inw_callV (args := #[]) (v := pv4 base4) (fun W => run_call_fn W (enters_of Try.func26 rfl rfl) rfl (by simp [Act.eval])) (fun W _ => base4_any W) rfl rfl ?_; simp only [Act.put, List.setIfInBounds_toArray, List.set_cons_zero, List.set_cons_succ]
  refine inw_pure (v := .agg (tmL l base4).toArray) (fun W => run_build_of rfl (by simp [Act.eval]) (bd_Tm l base4 W)) rfl rfl ?_; simp only [Act.put, List.setIfInBounds_toArray, List.set_cons_zero, List.set_cons_succ]
  refine inw_slice (n := 2) (L := (tmL k a ++ tmL l base4).toArray) (T := 101) (fun W => run_slice_of rfl (by simp [Act.eval]) (bs_Tm2 k l a base4 W)) rfl rfl ?_; simp only [List.nil_append, List.cons_append]
  refine inw_callS 6 13 (v := pv4 R) rfl rfl (fun _ => rfl) (fun b W => run_call_fn W (enters_of Try.func64 rfl rfl) rfl (by simp [Act.eval, Act.put])) (fun b W h => KS.out b W h) ?_; simp only [Act.put, List.setIfInBounds_toArray, List.set_cons_zero, List.set_cons_succ]
  refine inw_fin fun d os => ?_
  refine given_mk (t := 13) rfl fun s6 => ?_
  refine given_nil fun hap => ?_
  simp only [Act.put, List.setIfInBounds_toArray, List.set_cons_zero, List.set_cons_succ] at hap ⊢
  have hM5 := hM4.calls (below_regrown W4 d os)
  clear hap 
  generalize grow (redrawn W4 d) os = W5 at hM5 ⊢
  change wpAny _ _ _ _ 1 _ _ _
  refine any_set (n := 8) (by kernel_rfl) rfl hM5 0 (cs := ((pc4 R))) rfl rfl rfl rfl rowPt rfl (one_p4 _) rfl rfl fun W6 hM6 => ?_
  simp only [List.set_cons_zero, List.set_cons_succ] at hM6
  refine wpAny_done (by kernel_rfl) ?_ _
  (go_step; go_step; go_step; refine bodyPost_ret (v := pv4 R) (results_arr Try.results21 rfl (hM6.load 0 rfl rowPt)) rfl ⟨?_, hM6.below⟩)
  exact rfl
theorem both_ex4 {a : N4} {p : Pt} (ha : Ok4 a p) (k l : Nat) (hk : k < B64 ^ 4) (hl : l < B64 ^ 4) : ∃ R : N4, Ok4 R (addE (timesE k p) (timesE l baseE)) ∧ Hid (∀ w, Calls Try.prog 21 #[numV k, pv4 a, numV l] w fun E w' => E = .returned (pv4 R) ∧ Below w.heap.size w w') := by
  obtain ⟨R, hR, oR⟩ := both4_of ha ok4_base k l hk hl
  exact ⟨R, oR, fun w => mboth_any ha k l hk hl hR w⟩
set_option maxRecDepth 20000 in
set_option maxHeartbeats 8000000 in
theorem iszero_any {a : N4} {p : Pt} (ha : Ok4 a p) (n : Nat) (hnB : n < B64 ^ 4) (B : Bool) (hB : decide (timesE n p = zeroE) = B) (w : World) : Calls Try.prog 77 #[numV n, pv4 a] w fun E w' => E = .returned (.bool B) ∧ Below w.heap.size w w' := by
  have KSame : Hid (∀ {r : N4} (hr : Ok4 r (timesE n p)) (w : World), Calls Try.prog 15 #[pv4 r, pv4 zero4] w fun E w' => E = .returned (.bool B) ∧ Below w.heap.size w w') := fun hr w => by rw [← hB]; exact samep4 hr ok4_zero w
  have HMIX := Lib.hid (show Try.prog.follows .mixedOrders = true by kernel_rfl)
  go_enter Try.func77, Try.ntmps77
  have hM0 := Mem.start w
  (go_step; go_step; refine wp_region_lit ?_)
  refine wl_new hM0 (f := fun b => .pointer (some ⟨b, 0, none⟩)) (ob := .cells (elR n) 25 (0, 0)) (fun W => run_box_of rfl rfl (bx_Wn n W)) rfl fun b1 W1 hM1 => ?_
  simp only [Act.put, List.setIfInBounds_toArray, List.set_cons_zero, List.set_cons_succ]
  refine wl_new hM1 (f := fun b => .pointer (some ⟨b, 0, none⟩)) (ob := .cells ((pc4 a)) 30 (0, 0)) (fun W => run_box_of rfl rfl (bx_P4 _ W)) rfl fun b2 W2 hM2 => ?_
  simp only [Act.put, List.setIfInBounds_toArray, List.set_cons_zero, List.set_cons_succ]
  refine wl_pure (v := .bool false) (fun _ => rfl) rfl ?_
  simp only [Act.put, List.setIfInBounds_toArray, List.set_cons_zero, List.set_cons_succ]
  refine wpList_nil ?_
  (go_step; go_step; go_step; refine wp_region_lit ?_)
  refine wl_row hM2 1 (v := numV n) rfl rfl rfl rfl rowWn rfl ?_
  simp only [Act.put, List.setIfInBounds_toArray, List.set_cons_zero, List.set_cons_succ]
  refine wl_row hM2 0 (v := pv4 a) rfl rfl rfl rfl rowPt rfl ?_
  simp only [Act.put, List.setIfInBounds_toArray, List.set_cons_zero, List.set_cons_succ]
  obtain ⟨R1, oR1, KR1⟩ := times_ex ha n hnB
  refine wl_call hM2 (args := #[numV n, pv4 a]) (v := pv4 R1) (fun W => run_call_fn W (enters_of Try.func19 rfl rfl) rfl (by simp [Act.eval])) (KR1.out W2) rfl fun W3 hM3 => ?_
  simp only [Act.put, List.setIfInBounds_toArray, List.set_cons_zero, List.set_cons_succ]
  refine wl_call hM3 (args := #[]) (v := pv4 zero4) (fun W => run_call_fn W (enters_of Try.func40 rfl rfl) rfl (by simp [Act.eval])) (zero4_any W3) rfl fun W4 hM4 => ?_
  simp only [Act.put, List.setIfInBounds_toArray, List.set_cons_zero, List.set_cons_succ]
  refine wl_call hM4 (args := #[pv4 R1, pv4 zero4]) (v := .bool B) (fun W => run_call_fn W (enters_of Try.func15 rfl rfl) rfl (by simp [Act.eval])) ((fun W => KSame.out oR1 W) W4) rfl fun W5 hM5 => ?_
  simp only [Act.put, List.setIfInBounds_toArray, List.set_cons_zero, List.set_cons_succ]
  refine wl_pure (v := .bool B) (fun _ => rfl) rfl ?_
  simp only [Act.put, List.setIfInBounds_toArray, List.set_cons_zero, List.set_cons_succ]
  refine wpList_nil ?_
  (go_step; go_step; go_step; refine bodyPost_ret (v := .bool B) (results_slot Try.results77 rfl) rfl ⟨?_, hM5.below⟩)
  exact rfl
set_option maxRecDepth 20000 in
set_option maxHeartbeats 8000000 in
theorem msmall_any {a : N4} {p : Pt} (ha : Ok4 a p) (B : Bool) (hB : decide (timesE 8 p = zeroE) = B) (w : World) : Calls Try.prog 27 #[pv4 a] w fun E w' => E = .returned (.bool B) ∧ Below w.heap.size w w' := by
  have HMIX := Lib.hid (show Try.prog.follows .mixedOrders = true by kernel_rfl)
  go_enter Try.func27, Try.ntmps27
  have hM0 := Mem.start w
  (go_step; go_step; refine wp_region_lit ?_)
  refine wl_new hM0 (f := fun b => .pointer (some ⟨b, 0, none⟩)) (ob := .cells ((pc4 a)) 30 (0, 0)) (fun W => run_box_of rfl rfl (bx_P4 _ W)) rfl fun b1 W1 hM1 => ?_
  simp only [Act.put, List.setIfInBounds_toArray, List.set_cons_zero, List.set_cons_succ]
  refine wl_pure (v := .bool false) (fun _ => rfl) rfl ?_
  simp only [Act.put, List.setIfInBounds_toArray, List.set_cons_zero, List.set_cons_succ]
  refine wpList_nil ?_
  (go_step; go_step; go_step; refine wp_region_inw 4 HMIX.out (by decide) (by kernel_rfl) (by kernel_rfl) ?_)
  refine inw_callV (args := #[.int .u64 8]) (v := numV 8) (fun W => run_call_fn W (enters_of Try.func65 rfl rfl) rfl (by simp [Act.eval])) (fun W _ => (fun W => small_any 8 W (by decide)) W) rfl rfl ?_; simp only [Act.put, List.setIfInBounds_toArray, List.set_cons_zero, List.set_cons_succ]
  refine inw_row hM1 0 (v := pv4 a) rfl rfl rfl rfl rowPt rfl rfl ?_; simp only [Act.put, List.setIfInBounds_toArray, List.set_cons_zero, List.set_cons_succ]
  refine inw_callV (args := #[numV 8, pv4 a]) (v := .bool B) (fun W => run_call_fn W (enters_of Try.func77 rfl rfl) rfl (by simp [Act.eval])) (fun W _ => (fun W => iszero_any ha 8 (by decide +kernel) B hB W) W) rfl rfl ?_; simp only [Act.put, List.setIfInBounds_toArray, List.set_cons_zero, List.set_cons_succ]
  refine inw_pure (v := .bool B) (fun _ => rfl) rfl rfl ?_; simp only [Act.put, List.setIfInBounds_toArray, List.set_cons_zero, List.set_cons_succ]
  refine inw_fin fun d os => ?_
  refine given_nil fun hap => ?_
  have hM2 := hM1.calls (below_regrown W1 d os)
  clear hap 
  generalize grow (redrawn W1 d) os = W2 at hM2 ⊢
  refine wpAny_done (by kernel_rfl) ?_ _
  (go_step; go_step; go_step; refine bodyPost_ret (v := .bool B) (results_slot Try.results27 rfl) rfl ⟨?_, hM2.below⟩)
  exact rfl
set_option maxRecDepth 20000 in
set_option maxHeartbeats 8000000 in
theorem mmain_any {a : N4} {p : Pt} (ha : Ok4 a p) (B : Bool) (hB : decide (timesE LN p = zeroE) = B) (w : World) : Calls Try.prog 28 #[pv4 a] w fun E w' => E = .returned (.bool B) ∧ Below w.heap.size w w' := by
  have HMIX := Lib.hid (show Try.prog.follows .mixedOrders = true by kernel_rfl)
  go_enter Try.func28, Try.ntmps28
  have hM0 := Mem.start w
  (go_step; go_step; refine wp_region_lit ?_)
  refine wl_new hM0 (f := fun b => .pointer (some ⟨b, 0, none⟩)) (ob := .cells ((pc4 a)) 30 (0, 0)) (fun W => run_box_of rfl rfl (bx_P4 _ W)) rfl fun b1 W1 hM1 => ?_
  simp only [Act.put, List.setIfInBounds_toArray, List.set_cons_zero, List.set_cons_succ]
  refine wl_pure (v := .bool false) (fun _ => rfl) rfl ?_
  simp only [Act.put, List.setIfInBounds_toArray, List.set_cons_zero, List.set_cons_succ]
  refine wpList_nil ?_
  (go_step; go_step; go_step; refine wp_region_inw 4 HMIX.out (by decide) (by kernel_rfl) (by kernel_rfl) ?_)
  refine inw_callV (args := #[]) (v := numV LN) (fun W => run_call_fn W (enters_of Try.func70 rfl rfl) rfl (by simp [Act.eval])) (fun W _ => l_any W) rfl rfl ?_; simp only [Act.put, List.setIfInBounds_toArray, List.set_cons_zero, List.set_cons_succ]
  refine inw_row hM1 0 (v := pv4 a) rfl rfl rfl rfl rowPt rfl rfl ?_; simp only [Act.put, List.setIfInBounds_toArray, List.set_cons_zero, List.set_cons_succ]
  refine inw_callV (args := #[numV LN, pv4 a]) (v := .bool B) (fun W => run_call_fn W (enters_of Try.func77 rfl rfl) rfl (by simp [Act.eval])) (fun W _ => (fun W => iszero_any ha LN LN_lt B hB W) W) rfl rfl ?_; simp only [Act.put, List.setIfInBounds_toArray, List.set_cons_zero, List.set_cons_succ]
  refine inw_pure (v := .bool B) (fun _ => rfl) rfl rfl ?_; simp only [Act.put, List.setIfInBounds_toArray, List.set_cons_zero, List.set_cons_succ]
  refine inw_fin fun d os => ?_
  refine given_nil fun hap => ?_
  have hM2 := hM1.calls (below_regrown W1 d os)
  clear hap 
  generalize grow (redrawn W1 d) os = W2 at hM2 ⊢
  refine wpAny_done (by kernel_rfl) ?_ _
  (go_step; go_step; go_step; refine bodyPost_ret (v := .bool B) (results_slot Try.results28 rfl) rfl ⟨?_, hM2.below⟩)
  exact rfl
set_option maxRecDepth 20000 in
set_option maxHeartbeats 8000000 in
theorem rmtimes_any {q : N3} {p : Pt} (hq : Ok3 q p) (k : Nat) (hk : k < B64 ^ 4) (w : World) : Calls Try.prog 20 #[numV k, pv3 q] w fun E w' => E = .returned (pv3 (tms k q 256)) ∧ Below w.heap.size w w' := by
  have HMIX := Lib.hid (show Try.prog.follows .mixedOrders = true by kernel_rfl)
  go_enter Try.func20, Try.ntmps20
  have hM0 := Mem.start w
  (go_step; go_step; refine wp_region_lit ?_)
  refine wl_new hM0 (f := fun b => .pointer (some ⟨b, 0, none⟩)) (ob := .cells (elR k) 24 (0, 0)) (fun W => run_box_of rfl rfl (bx_Nu k W)) rfl fun b1 W1 hM1 => ?_
  simp only [Act.put, List.setIfInBounds_toArray, List.set_cons_zero, List.set_cons_succ]
  refine wl_new hM1 (f := fun b => .pointer (some ⟨b, 0, none⟩)) (ob := .cells ((rpL q.1 q.2.1 q.2.2).toArray) 32 (0, 0)) (fun W => run_box_of rfl rfl (bx_Rp _ _ _ W)) rfl fun b2 W2 hM2 => ?_
  simp only [Act.put, List.setIfInBounds_toArray, List.set_cons_zero, List.set_cons_succ]
  refine wl_new hM2 (f := fun b => .pointer (some ⟨b, 0, none⟩)) (ob := .cells z12 32 (0, 0)) (fun W => run_alloc_of rfl (al_Rp W)) rfl fun b3 W3 hM3 => ?_
  simp only [Act.put, List.setIfInBounds_toArray, List.set_cons_zero, List.set_cons_succ]
  refine wpList_nil ?_
  (go_step; go_step; go_step; refine wp_region_inw 4 HMIX.out (by decide) (by kernel_rfl) (by kernel_rfl) ?_)
  refine inw_row hM3 2 (v := numV k) rfl rfl rfl rfl rowNu rfl rfl ?_; simp only [Act.put, List.setIfInBounds_toArray, List.set_cons_zero, List.set_cons_succ]
  refine inw_row hM3 1 (v := pv3 q) rfl rfl rfl rfl rowRp rfl rfl ?_; simp only [Act.put, List.setIfInBounds_toArray, List.set_cons_zero, List.set_cons_succ]
  refine inw_callV (args := #[]) (v := numV dN) (fun W => run_call_fn W (enters_of Try.func11 rfl rfl) rfl (by simp [Act.eval])) (fun W _ => rD_any W) rfl rfl ?_; simp only [Act.put, List.setIfInBounds_toArray, List.set_cons_zero, List.set_cons_succ]
  obtain ⟨Q1, eQ1⟩ : ∃ x, x = tms k q 256 := ⟨_, rfl⟩
  have oQ1 := ok3_times hq k hk
  rw [← eQ1] at oQ1
  have KQ1 := Lib.hid (fun W => times_any k q W hk (Ok3.is hq))
  rw [← eQ1] at KQ1
  refine inw_callV (args := #[numV k, pv3 q, numV dN]) (v := pv3 Q1) (fun W => run_call_fn W (enters_of Try.func30 rfl rfl) rfl (by simp [Act.eval])) (fun W _ => KQ1.out W) rfl rfl ?_; simp only [Act.put, List.setIfInBounds_toArray, List.set_cons_zero, List.set_cons_succ]
  refine inw_fin fun d os => ?_
  refine given_nil fun hap => ?_
  have hM4 := hM3.calls (below_regrown W3 d os)
  clear hap 
  generalize grow (redrawn W3 d) os = W4 at hM4 ⊢
  change wpAny _ _ _ _ 1 _ _ _
  refine any_set (n := 4) (by kernel_rfl) rfl hM4 0 (cs := ((rpL Q1.1 Q1.2.1 Q1.2.2).toArray)) rfl rfl rfl rfl rowRp rfl (one_rp _ _ _) rfl rfl fun W5 hM5 => ?_
  simp only [List.set_cons_zero, List.set_cons_succ] at hM5
  refine wpAny_done (by kernel_rfl) ?_ _
  (go_step; go_step; go_step; refine bodyPost_ret (v := pv3 Q1) (results_arr Try.results20 rfl (hM5.load 0 rfl rowRp)) rfl ⟨?_, hM5.below⟩)
  exact by rw [eQ1]
theorem rtimes_ex {q : N3} {p : Pt} (hq : Ok3 q p) (k : Nat) (hk : k < B64 ^ 4) : ∃ R : N3, Ok3 R (timesE k p) ∧ Hid (∀ w, Calls Try.prog 20 #[numV k, pv3 q] w fun E w' => E = .returned (pv3 R) ∧ Below w.heap.size w w') := ⟨_, ok3_times hq k hk, fun w => rmtimes_any hq k hk w⟩
set_option maxRecDepth 20000 in
set_option maxHeartbeats 8000000 in
theorem rmboth_any {q QK QL Q : N3} (k l : Nat) (KQK : Hid (∀ w, Calls Try.prog 20 #[numV k, pv3 q] w fun E w' => E = .returned (pv3 QK) ∧ Below w.heap.size w w')) (KQL : Hid (∀ w, Calls Try.prog 20 #[numV l, pv3 (bX, bY, 1)] w fun E w' => E = .returned (pv3 QL) ∧ Below w.heap.size w w')) (KQ : Hid (∀ w, Calls Try.prog 10 #[pv3 QK, pv3 QL, numV dN] w fun E w' => E = .returned (pv3 Q) ∧ Below w.heap.size w w')) (w : World) : Calls Try.prog 22 #[numV k, pv3 q, numV l] w fun E w' => E = .returned (pv3 Q) ∧ Below w.heap.size w w' := by
  have HMIX := Lib.hid (show Try.prog.follows .mixedOrders = true by kernel_rfl)
  go_enter Try.func22, Try.ntmps22
  have hM0 := Mem.start w
  (go_step; go_step; refine wp_region_lit ?_)
  refine wl_new hM0 (f := fun b => .pointer (some ⟨b, 0, none⟩)) (ob := .cells (elR k) 24 (0, 0)) (fun W => run_box_of rfl rfl (bx_Nu k W)) rfl fun b1 W1 hM1 => ?_
  simp only [Act.put, List.setIfInBounds_toArray, List.set_cons_zero, List.set_cons_succ]
  refine wl_new hM1 (f := fun b => .pointer (some ⟨b, 0, none⟩)) (ob := .cells ((rpL q.1 q.2.1 q.2.2).toArray) 32 (0, 0)) (fun W => run_box_of rfl rfl (bx_Rp _ _ _ W)) rfl fun b2 W2 hM2 => ?_
  simp only [Act.put, List.setIfInBounds_toArray, List.set_cons_zero, List.set_cons_succ]
  refine wl_new hM2 (f := fun b => .pointer (some ⟨b, 0, none⟩)) (ob := .cells (elR l) 24 (0, 0)) (fun W => run_box_of rfl rfl (bx_Nu l W)) rfl fun b3 W3 hM3 => ?_
  simp only [Act.put, List.setIfInBounds_toArray, List.set_cons_zero, List.set_cons_succ]
  refine wl_new hM3 (f := fun b => .pointer (some ⟨b, 0, none⟩)) (ob := .cells z12 32 (0, 0)) (fun W => run_alloc_of rfl (al_Rp W)) rfl fun b4 W4 hM4 => ?_
  simp only [Act.put, List.setIfInBounds_toArray, List.set_cons_zero, List.set_cons_succ]
  refine wpList_nil ?_
  (go_step; go_step; go_step; refine wp_region_inw 8 HMIX.out (by decide) (by kernel_rfl) (by kernel_rfl) ?_)
  refine inw_row hM4 3 (v := numV k) rfl rfl rfl rfl rowNu rfl rfl ?_; simp only [Act.put, List.setIfInBounds_toArray, List.set_cons_zero, List.set_cons_succ]
  refine inw_row hM4 2 (v := pv3 q) rfl rfl rfl rfl rowRp rfl rfl ?_; simp only [Act.put, List.setIfInBounds_toArray, List.set_cons_zero, List.set_cons_succ]
  refine inw_callV (args := #[numV k, pv3 q]) (v := pv3 QK) (fun W => run_call_fn W (enters_of Try.func20 rfl rfl) rfl (by simp [Act.eval])) (fun W _ => KQK.out W) rfl rfl ?_; simp only [Act.put, List.setIfInBounds_toArray, List.set_cons_zero, List.set_cons_succ]
  refine inw_row hM4 1 (v := numV l) rfl rfl rfl rfl rowNu rfl rfl ?_; simp only [Act.put, List.setIfInBounds_toArray, List.set_cons_zero, List.set_cons_succ]
  refine inw_callV (args := #[]) (v := pv3 ((bX, bY, 1))) (fun W => run_call_fn W (enters_of Try.func31 rfl rfl) rfl (by simp [Act.eval])) (fun W _ => rbase_any W) rfl rfl ?_; simp only [Act.put, List.setIfInBounds_toArray, List.set_cons_zero, List.set_cons_succ]
  refine inw_callV (args := #[numV l, pv3 ((bX, bY, 1))]) (v := pv3 QL) (fun W => run_call_fn W (enters_of Try.func20 rfl rfl) rfl (by simp [Act.eval])) (fun W _ => KQL.out W) rfl rfl ?_; simp only [Act.put, List.setIfInBounds_toArray, List.set_cons_zero, List.set_cons_succ]
  refine inw_callV (args := #[]) (v := numV dN) (fun W => run_call_fn W (enters_of Try.func11 rfl rfl) rfl (by simp [Act.eval])) (fun W _ => rD_any W) rfl rfl ?_; simp only [Act.put, List.setIfInBounds_toArray, List.set_cons_zero, List.set_cons_succ]
  refine inw_callV (args := #[pv3 QK, pv3 QL, numV dN]) (v := pv3 Q) (fun W => run_call_fn W (enters_of Try.func10 rfl rfl) rfl (by simp [Act.eval])) (fun W _ => KQ.out W) rfl rfl ?_; simp only [Act.put, List.setIfInBounds_toArray, List.set_cons_zero, List.set_cons_succ]
  refine inw_fin fun d os => ?_
  refine given_nil fun hap => ?_
  have hM5 := hM4.calls (below_regrown W4 d os)
  clear hap 
  generalize grow (redrawn W4 d) os = W5 at hM5 ⊢
  change wpAny _ _ _ _ 1 _ _ _
  refine any_set (n := 8) (by kernel_rfl) rfl hM5 0 (cs := ((rpL Q.1 Q.2.1 Q.2.2).toArray)) rfl rfl rfl rfl rowRp rfl (one_rp _ _ _) rfl rfl fun W6 hM6 => ?_
  simp only [List.set_cons_zero, List.set_cons_succ] at hM6
  refine wpAny_done (by kernel_rfl) ?_ _
  (go_step; go_step; go_step; refine bodyPost_ret (v := pv3 Q) (results_arr Try.results22 rfl (hM6.load 0 rfl rowRp)) rfl ⟨?_, hM6.below⟩)
  exact rfl
theorem rboth_ex {q : N3} {p : Pt} (hq : Ok3 q p) (k l : Nat) (hk : k < B64 ^ 4) (hl : l < B64 ^ 4) : ∃ R : N3, Ok3 R (addE (timesE k p) (timesE l baseE)) ∧ Hid (∀ w, Calls Try.prog 22 #[numV k, pv3 q, numV l] w fun E w' => E = .returned (pv3 R) ∧ Below w.heap.size w w') := by
  obtain ⟨QK, o1, K1⟩ := rtimes_ex hq k hk
  obtain ⟨QL, o2, K2⟩ := rtimes_ex ok3_base l hl
  exact ⟨_, ok3_add o1 o2, fun w => rmboth_any k l K1 K2 (fun w => rptadd3 o1 o2 w) w⟩
end Go.Proofs.Ytigfoophimjgdaa
namespace Go.Proofs.Ytigfoophimjgdaa
set_option maxRecDepth 20000
set_option linter.unusedSimpArgs false
set_option linter.unusedVariables false
open Go.RowKit Go.Sort
set_option maxRecDepth 20000 in
set_option maxHeartbeats 8000000 in
theorem lives23_any (w : World) : Calls Try.prog 23 #[] w fun E w' => E = .returned (.bool true) ∧ Below w.heap.size w w' := by
  have HMIX := Lib.hid (show Try.prog.follows .mixedOrders = true by kernel_rfl)
  go_enter Try.func23, Try.ntmps23
  have hM0 := Mem.start w
  (go_step; go_step; refine wp_region_lit ?_)
  refine wl_pure (v := .bool false) (fun _ => rfl) rfl ?_
  simp only [Act.put, List.setIfInBounds_toArray, List.set_cons_zero, List.set_cons_succ]
  refine wpList_nil ?_
  (go_step; go_step; go_step; refine wp_region_lit ?_)
  refine wl_call hM0 (args := #[]) (v := pv4 base4) (fun W => run_call_fn W (enters_of Try.func26 rfl rfl) rfl (by simp [Act.eval])) (base4_any w) rfl fun W1 hM1 => ?_
  simp only [Act.put, List.setIfInBounds_toArray, List.set_cons_zero, List.set_cons_succ]
  refine wl_new hM1 (f := fun b => .pointer (some ⟨b, 0, none⟩)) (ob := .cells z16 30 (0, 0)) (fun W => run_alloc_of rfl (al_Pt W)) rfl fun b1 W2 hM2 => ?_
  simp only [Act.put, List.setIfInBounds_toArray, List.set_cons_zero, List.set_cons_succ]
  refine wl_set hM2 0 (cs := ((pc4 base4))) rfl rfl rfl rfl rowPt rfl (one_p4 _) rfl rfl fun W3 hM3 => ?_
  simp only [List.set_cons_zero, List.set_cons_succ] at hM3
  refine wpList_nil ?_
  (go_step; go_step; go_step; refine wp_region_inw 31 HMIX.out (by decide) (by kernel_rfl) (by kernel_rfl) ?_)
  refine inw_callV (args := #[.int .u64 1]) (v := numV 1) (fun W => run_call_fn W (enters_of Try.func65 rfl rfl) rfl (by simp [Act.eval])) (fun W _ => (fun W => small_any 1 W (by decide)) W) rfl rfl ?_; simp only [Act.put, List.setIfInBounds_toArray, List.set_cons_zero, List.set_cons_succ]
  refine inw_row hM3 0 (v := pv4 base4) rfl rfl rfl rfl rowPt rfl rfl ?_; simp only [Act.put, List.setIfInBounds_toArray, List.set_cons_zero, List.set_cons_succ]
  obtain ⟨R1, oR1, KR1⟩ := times_ex ok4_base 1 (by decide +kernel)
  refine inw_callV (args := #[numV 1, pv4 base4]) (v := pv4 R1) (fun W => run_call_fn W (enters_of Try.func19 rfl rfl) rfl (by simp [Act.eval])) (fun W _ => KR1.out W) rfl rfl ?_; simp only [Act.put, List.setIfInBounds_toArray, List.set_cons_zero, List.set_cons_succ]
  refine inw_row hM3 0 (v := pv4 base4) rfl rfl rfl rfl rowPt rfl rfl ?_; simp only [Act.put, List.setIfInBounds_toArray, List.set_cons_zero, List.set_cons_succ]
  refine inw_callV (args := #[pv4 R1, pv4 base4]) (v := .bool true) (fun W => run_call_fn W (enters_of Try.func15 rfl rfl) rfl (by simp [Act.eval])) (fun W _ => same_yes oR1 ok4_base (times_one baseE on_base) W) rfl rfl ?_; simp only [Act.put, List.setIfInBounds_toArray, List.set_cons_zero, List.set_cons_succ]
  refine inw_pure (v := .bool true) (fun _ => rfl) rfl rfl ?_; simp only [Act.put, List.setIfInBounds_toArray, List.set_cons_zero, List.set_cons_succ]
  refine inw_callV (args := #[.int .u64 0]) (v := numV 0) (fun W => run_call_fn W (enters_of Try.func65 rfl rfl) rfl (by simp [Act.eval])) (fun W _ => (fun W => small_any 0 W (by decide)) W) rfl rfl ?_; simp only [Act.put, List.setIfInBounds_toArray, List.set_cons_zero, List.set_cons_succ]
  obtain ⟨R2, oR2, KR2⟩ := base_ex 0 (by decide +kernel)
  refine inw_callV (args := #[numV 0]) (v := pv4 R2) (fun W => run_call_fn W (enters_of Try.func25 rfl rfl) rfl (by simp [Act.eval])) (fun W _ => KR2.out W) rfl rfl ?_; simp only [Act.put, List.setIfInBounds_toArray, List.set_cons_zero, List.set_cons_succ]
  refine inw_callV (args := #[]) (v := pv4 zero4) (fun W => run_call_fn W (enters_of Try.func40 rfl rfl) rfl (by simp [Act.eval])) (fun W _ => zero4_any W) rfl rfl ?_; simp only [Act.put, List.setIfInBounds_toArray, List.set_cons_zero, List.set_cons_succ]
  refine inw_callV (args := #[pv4 R2, pv4 zero4]) (v := .bool true) (fun W => run_call_fn W (enters_of Try.func15 rfl rfl) rfl (by simp [Act.eval])) (fun W _ => same_yes oR2 ok4_zero (by rw [timesE]) W) rfl rfl ?_; simp only [Act.put, List.setIfInBounds_toArray, List.set_cons_zero, List.set_cons_succ]
  refine inw_pure (v := .bool true) (fun _ => rfl) rfl rfl ?_; simp only [Act.put, List.setIfInBounds_toArray, List.set_cons_zero, List.set_cons_succ]
  refine inw_pure (v := .bool true) (fun _ => rfl) rfl rfl ?_; simp only [Act.put, List.setIfInBounds_toArray, List.set_cons_zero, List.set_cons_succ]
  refine inw_row hM3 0 (v := pv4 base4) rfl rfl rfl rfl rowPt rfl rfl ?_; simp only [Act.put, List.setIfInBounds_toArray, List.set_cons_zero, List.set_cons_succ]
  refine inw_callV (args := #[]) (v := pv4 zero4) (fun W => run_call_fn W (enters_of Try.func40 rfl rfl) rfl (by simp [Act.eval])) (fun W _ => zero4_any W) rfl rfl ?_; simp only [Act.put, List.setIfInBounds_toArray, List.set_cons_zero, List.set_cons_succ]
  refine inw_callV (args := #[pv4 base4, pv4 zero4]) (v := .bool false) (fun W => run_call_fn W (enters_of Try.func15 rfl rfl) rfl (by simp [Act.eval])) (fun W _ => same_no ok4_base ok4_zero base_not W) rfl rfl ?_; simp only [Act.put, List.setIfInBounds_toArray, List.set_cons_zero, List.set_cons_succ]
  refine inw_pure (v := .bool true) (fun W => run_not_of W rfl rfl rfl) rfl rfl ?_; simp only [Act.put, List.setIfInBounds_toArray, List.set_cons_zero, List.set_cons_succ]
  refine inw_pure (v := .bool true) (fun _ => rfl) rfl rfl ?_; simp only [Act.put, List.setIfInBounds_toArray, List.set_cons_zero, List.set_cons_succ]
  refine inw_pure (v := .bool true) (fun _ => rfl) rfl rfl ?_; simp only [Act.put, List.setIfInBounds_toArray, List.set_cons_zero, List.set_cons_succ]
  refine inw_row hM3 0 (v := pv4 base4) rfl rfl rfl rfl rowPt rfl rfl ?_; simp only [Act.put, List.setIfInBounds_toArray, List.set_cons_zero, List.set_cons_succ]
  refine inw_callV (args := #[pv4 base4]) (v := .bool true) (fun W => run_call_fn W (enters_of Try.func28 rfl rfl) rfl (by simp [Act.eval])) (fun W _ => mmain_any ok4_base true (decide_eq_true ell_base) W) rfl rfl ?_; simp only [Act.put, List.setIfInBounds_toArray, List.set_cons_zero, List.set_cons_succ]
  refine inw_pure (v := .bool true) (fun _ => rfl) rfl rfl ?_; simp only [Act.put, List.setIfInBounds_toArray, List.set_cons_zero, List.set_cons_succ]
  refine inw_pure (v := .bool true) (fun _ => rfl) rfl rfl ?_; simp only [Act.put, List.setIfInBounds_toArray, List.set_cons_zero, List.set_cons_succ]
  refine inw_callV (args := #[]) (v := pv4 zero4) (fun W => run_call_fn W (enters_of Try.func40 rfl rfl) rfl (by simp [Act.eval])) (fun W _ => zero4_any W) rfl rfl ?_; simp only [Act.put, List.setIfInBounds_toArray, List.set_cons_zero, List.set_cons_succ]
  refine inw_callV (args := #[pv4 zero4]) (v := .bool true) (fun W => run_call_fn W (enters_of Try.func27 rfl rfl) rfl (by simp [Act.eval])) (fun W _ => msmall_any ok4_zero true (decide_eq_true (times_zero 8)) W) rfl rfl ?_; simp only [Act.put, List.setIfInBounds_toArray, List.set_cons_zero, List.set_cons_succ]
  refine inw_pure (v := .bool true) (fun _ => rfl) rfl rfl ?_; simp only [Act.put, List.setIfInBounds_toArray, List.set_cons_zero, List.set_cons_succ]
  refine inw_pure (v := .bool true) (fun _ => rfl) rfl rfl ?_; simp only [Act.put, List.setIfInBounds_toArray, List.set_cons_zero, List.set_cons_succ]
  refine inw_row hM3 0 (v := pv4 base4) rfl rfl rfl rfl rowPt rfl rfl ?_; simp only [Act.put, List.setIfInBounds_toArray, List.set_cons_zero, List.set_cons_succ]
  refine inw_callV (args := #[pv4 base4]) (v := .bool false) (fun W => run_call_fn W (enters_of Try.func27 rfl rfl) rfl (by simp [Act.eval])) (fun W _ => msmall_any ok4_base false (decide_eq_false (base_ne 8 (by decide) (by decide))) W) rfl rfl ?_; simp only [Act.put, List.setIfInBounds_toArray, List.set_cons_zero, List.set_cons_succ]
  refine inw_pure (v := .bool true) (fun W => run_not_of W rfl rfl rfl) rfl rfl ?_; simp only [Act.put, List.setIfInBounds_toArray, List.set_cons_zero, List.set_cons_succ]
  refine inw_pure (v := .bool true) (fun _ => rfl) rfl rfl ?_; simp only [Act.put, List.setIfInBounds_toArray, List.set_cons_zero, List.set_cons_succ]
  refine inw_pure (v := .bool true) (fun _ => rfl) rfl rfl ?_; simp only [Act.put, List.setIfInBounds_toArray, List.set_cons_zero, List.set_cons_succ]
  refine inw_fin fun d os => ?_
  refine given_nil fun hap => ?_
  have hM4 := hM3.calls (below_regrown W3 d os)
  clear hap 
  generalize grow (redrawn W3 d) os = W4 at hM4 ⊢
  refine wpAny_done (by kernel_rfl) ?_ _
  (go_step; go_step; go_step; refine bodyPost_ret (v := .bool true) (results_slot Try.results23 rfl) rfl ⟨?_, hM4.below⟩)
  exact rfl
theorem bin_quo32 (a q : Nat) (hq : a / 4 = q) (h : a < 4294967296) (x y : Operand) (W : World) : (do eqGuard .quo 22 x y (.int .u32 (a : Int)) (.int .u32 4); binOp .quo 22 (.int .u32 (a : Int)) (.int .u32 4) : Sem Value).run Try.prog W = .ok (.int .u32 (q : Int)) W := by
  have e : ((a : Int).tdiv 4) = (q : Int) := by rw [Int.tdiv_eq_ediv_of_nonneg (by omega)]; omega
  have e2 : IntKind.u32.wrap (q : Int) = (q : Int) := IntWalk.u32_in _ (by omega)
  have e3 : (a : Int) / 4 = (q : Int) := by omega
  clear hq
  go_simp
theorem bin_rem32 (a q : Nat) (hq : a % 4 = q) (x y : Operand) (W : World) : (do eqGuard .rem 22 x y (.int .u32 (a : Int)) (.int .u32 4); binOp .rem 22 (.int .u32 (a : Int)) (.int .u32 4) : Sem Value).run Try.prog W = .ok (.int .u32 (q : Int)) W := by
  have e : ((a : Int).tmod 4) = (q : Int) := by rw [Int.tmod_eq_emod_of_nonneg (by omega)]; omega
  have e2 : IntKind.u32.wrap (q : Int) = (q : Int) := IntWalk.u32_in _ (by omega)
  have e3 : (a : Int) % 4 = (q : Int) := by omega
  clear hq
  go_simp
theorem cv_u8 (m : Nat) (h : m < 256) (W : World) : (convert 22 5 (.int .u32 (m : Int))).run Try.prog W = .ok (.int .u8 (m : Int)) W := by
  have e : IntKind.u8.wrap (m : Int) = (m : Int) := IntWalk.u8_in _ (by omega)
  go_simp
theorem is_times {a : N4} {b : N3} {p q r s : Pt} (ha : Ok4 a r) (hb : Ok3 b s) (h : r = s) (w : World) : Calls Try.prog 18 #[pv4 a, pv3 b] w fun E w' => E = .returned (.bool true) ∧ Below w.heap.size w w' := is_eq ha hb h w
set_option maxRecDepth 20000 in
set_option maxHeartbeats 8000000 in
theorem multTells_walk (k l : Nat) (t0 : Int) (w : World) (hk : k < B64 ^ 4) (hl : l < B64 ^ 4) (wt : (Lit.int .u32 t0).wf = true) : Calls Try.prog 5 #[numV k, numV l, .int .u32 t0] w fun e w' => e = .returned (.bool true) ∧ Below w.heap.size w w' := by
  obtain ⟨t, rfl, ht⟩ := u32_nat t0 wt
  clear wt
  obtain ⟨kq, hkqe⟩ : ∃ x, t / 4 = x := ⟨_, rfl⟩
  obtain ⟨km, hkme⟩ : ∃ x, t % 4 = x := ⟨_, rfl⟩
  have hkq : kq < 4294967296 := by omega
  have hkm : km < 256 := by omega
  obtain ⟨akq, bkq, hakq, hbkq, Kbkq⟩ := both_ex kq hkq
  have Kbkq := Lib.hid Kbkq
  obtain ⟨akm, bkm, pkm, hakm, hbkm, Kbkm⟩ := low_any km
  have Kbkm := Lib.hid Kbkm
  obtain ⟨pkq, epkq⟩ : ∃ p, p = timesE kq baseE := ⟨_, rfl⟩
  rw [← epkq] at hakq hbkq
  have HMIX := Lib.hid (show Try.prog.follows .mixedOrders = true by kernel_rfl)
  go_enter Try.func5, Try.ntmps5
  have hM0 := Mem.start w
  (go_step; go_step; refine wp_region_lit ?_)
  refine wl_new hM0 (f := fun b => .pointer (some ⟨b, 0, none⟩)) (ob := .cells (elR k) 24 (0, 0)) (fun W => run_box_of rfl rfl (bx_Nu k W)) rfl fun b1 W1 hM1 => ?_
  simp only [Act.put, List.setIfInBounds_toArray, List.set_cons_zero, List.set_cons_succ]
  refine wl_new hM1 (f := fun b => .pointer (some ⟨b, 0, none⟩)) (ob := .cells (elR l) 24 (0, 0)) (fun W => run_box_of rfl rfl (bx_Nu l W)) rfl fun b2 W2 hM2 => ?_
  simp only [Act.put, List.setIfInBounds_toArray, List.set_cons_zero, List.set_cons_succ]
  refine wl_pure (v := .bool false) (fun _ => rfl) rfl ?_
  simp only [Act.put, List.setIfInBounds_toArray, List.set_cons_zero, List.set_cons_succ]
  refine wpList_nil ?_
  (go_step; go_step; go_step; refine wp_region_lit ?_)
  refine wl_pure (v := .int .u32 (t : Int)) (fun _ => rfl) rfl ?_
  simp only [Act.put, List.setIfInBounds_toArray, List.set_cons_zero, List.set_cons_succ]
  refine wl_pure (v := .int .u32 (kq : Int)) (fun W => run_bin_of rfl rfl rfl (bin_quo32 t kq hkqe ht _ _ W)) rfl ?_
  simp only [Act.put, List.setIfInBounds_toArray, List.set_cons_zero, List.set_cons_succ]
  refine wl_call hM2 (args := #[.int .u32 (kq : Int)]) (v := .tuple #[pv4 akq, pv3 bkq]) (fun W => run_call_fn W (enters_of Try.func7 rfl rfl) rfl (by simp [Act.eval])) (Kbkq.out W2) rfl fun W3 hM3 => ?_
  simp only [Act.put, List.setIfInBounds_toArray, List.set_cons_zero, List.set_cons_succ]
  refine wl_pure (v := .tuple #[pv4 akq, pv3 bkq]) (fun _ => rfl) rfl ?_
  simp only [Act.put, List.setIfInBounds_toArray, List.set_cons_zero, List.set_cons_succ]
  refine wl_pure (v := pv4 akq) (fun _ => rfl) rfl ?_
  simp only [Act.put, List.setIfInBounds_toArray, List.set_cons_zero, List.set_cons_succ]
  refine wl_pure (v := pv3 bkq) (fun _ => rfl) rfl ?_
  simp only [Act.put, List.setIfInBounds_toArray, List.set_cons_zero, List.set_cons_succ]
  refine wl_new hM3 (f := fun b => .pointer (some ⟨b, 0, none⟩)) (ob := .cells z16 30 (0, 0)) (fun W => run_alloc_of rfl (al_Pt W)) rfl fun b3 W4 hM4 => ?_
  simp only [Act.put, List.setIfInBounds_toArray, List.set_cons_zero, List.set_cons_succ]
  refine wl_new hM4 (f := fun b => .pointer (some ⟨b, 0, none⟩)) (ob := .cells z12 32 (0, 0)) (fun W => run_alloc_of rfl (al_Rp W)) rfl fun b4 W5 hM5 => ?_
  simp only [Act.put, List.setIfInBounds_toArray, List.set_cons_zero, List.set_cons_succ]
  refine wl_set hM5 1 (cs := ((pc4 akq))) rfl rfl rfl rfl rowPt rfl (one_p4 _) rfl rfl fun W6 hM6 => ?_
  simp only [List.set_cons_zero, List.set_cons_succ] at hM6
  refine wl_set hM6 0 (cs := ((rpL bkq.1 bkq.2.1 bkq.2.2).toArray)) rfl rfl rfl rfl rowRp rfl (one_rp _ _ _) rfl rfl fun W7 hM7 => ?_
  simp only [List.set_cons_zero, List.set_cons_succ] at hM7
  refine wpList_nil ?_
  (go_step; go_step; go_step; refine wp_region_lit ?_)
  refine wl_pure (v := .int .u32 (t : Int)) (fun _ => rfl) rfl ?_
  simp only [Act.put, List.setIfInBounds_toArray, List.set_cons_zero, List.set_cons_succ]
  refine wl_pure (v := .int .u32 (km : Int)) (fun W => run_bin_of rfl rfl rfl (bin_rem32 t km hkme _ _ W)) rfl ?_
  simp only [Act.put, List.setIfInBounds_toArray, List.set_cons_zero, List.set_cons_succ]
  refine wl_pure (v := .int .u8 (km : Int)) (fun W => run_cv_of rfl rfl (cv_u8 km hkm W)) rfl ?_
  simp only [Act.put, List.setIfInBounds_toArray, List.set_cons_zero, List.set_cons_succ]
  refine wl_call hM7 (args := #[.int .u8 (km : Int)]) (v := .tuple #[pv4 akm, pv3 bkm]) (fun W => run_call_fn W (enters_of Try.func8 rfl rfl) rfl (by simp [Act.eval])) (Kbkm.out W7) rfl fun W8 hM8 => ?_
  simp only [Act.put, List.setIfInBounds_toArray, List.set_cons_zero, List.set_cons_succ]
  refine wl_pure (v := .tuple #[pv4 akm, pv3 bkm]) (fun _ => rfl) rfl ?_
  simp only [Act.put, List.setIfInBounds_toArray, List.set_cons_zero, List.set_cons_succ]
  refine wl_pure (v := pv4 akm) (fun _ => rfl) rfl ?_
  simp only [Act.put, List.setIfInBounds_toArray, List.set_cons_zero, List.set_cons_succ]
  refine wl_pure (v := pv3 bkm) (fun _ => rfl) rfl ?_
  simp only [Act.put, List.setIfInBounds_toArray, List.set_cons_zero, List.set_cons_succ]
  refine wl_new hM8 (f := fun b => .pointer (some ⟨b, 0, none⟩)) (ob := .cells z16 30 (0, 0)) (fun W => run_alloc_of rfl (al_Pt W)) rfl fun b5 W9 hM9 => ?_
  simp only [Act.put, List.setIfInBounds_toArray, List.set_cons_zero, List.set_cons_succ]
  refine wl_new hM9 (f := fun b => .pointer (some ⟨b, 0, none⟩)) (ob := .cells z12 32 (0, 0)) (fun W => run_alloc_of rfl (al_Rp W)) rfl fun b6 W10 hM10 => ?_
  simp only [Act.put, List.setIfInBounds_toArray, List.set_cons_zero, List.set_cons_succ]
  refine wl_set hM10 1 (cs := ((pc4 akm))) rfl rfl rfl rfl rowPt rfl (one_p4 _) rfl rfl fun W11 hM11 => ?_
  simp only [List.set_cons_zero, List.set_cons_succ] at hM11
  refine wl_set hM11 0 (cs := ((rpL bkm.1 bkm.2.1 bkm.2.2).toArray)) rfl rfl rfl rfl rowRp rfl (one_rp _ _ _) rfl rfl fun W12 hM12 => ?_
  simp only [List.set_cons_zero, List.set_cons_succ] at hM12
  refine wpList_nil ?_
  (go_step; go_step; go_step; refine wp_region_inw 8 HMIX.out (by decide) (by kernel_rfl) (by kernel_rfl) ?_)
  refine inw_row hM12 3 (v := pv4 akq) rfl rfl rfl rfl rowPt rfl rfl ?_; simp only [Act.put, List.setIfInBounds_toArray, List.set_cons_zero, List.set_cons_succ]
  refine inw_row hM12 1 (v := pv4 akm) rfl rfl rfl rfl rowPt rfl rfl ?_; simp only [Act.put, List.setIfInBounds_toArray, List.set_cons_zero, List.set_cons_succ]
  refine inw_slice (n := 2) (L := (pl4 akq ++ pl4 akm).toArray) (T := 30) (fun W => run_slice_of rfl (by simp [Act.eval]) (bsP2 akq akm W)) rfl rfl ?_; simp only [List.nil_append, List.cons_append]
  obtain ⟨r1, er1⟩ : ∃ x, x = (add4 (add4 zero4 akq) akm) := ⟨_, rfl⟩
  have or1 := (ok4_add (ok4_add ok4_zero hakq) hakm)
  rw [← er1] at or1
  have Kr1 := Lib.hid (addl2 hakq hakm)
  simp only [← er1] at Kr1
  refine inw_callS 2 26 (v := pv4 r1) rfl rfl (fun _ => rfl) (fun b W => run_call_fn W (enters_of Try.func9 rfl rfl) rfl (by simp [Act.eval, Act.put])) (fun b W h => Kr1.out b W h) ?_; simp only [Act.put, List.setIfInBounds_toArray, List.set_cons_zero, List.set_cons_succ]
  refine inw_row hM12 2 (v := pv3 bkq) rfl rfl rfl rfl rowRp rfl rfl ?_; simp only [Act.put, List.setIfInBounds_toArray, List.set_cons_zero, List.set_cons_succ]
  refine inw_row hM12 0 (v := pv3 bkm) rfl rfl rfl rfl rowRp rfl rfl ?_; simp only [Act.put, List.setIfInBounds_toArray, List.set_cons_zero, List.set_cons_succ]
  refine inw_callV (args := #[]) (v := numV dN) (fun W => run_call_fn W (enters_of Try.func11 rfl rfl) rfl (by simp [Act.eval])) (fun W _ => rD_any W) rfl rfl ?_; simp only [Act.put, List.setIfInBounds_toArray, List.set_cons_zero, List.set_cons_succ]
  obtain ⟨q2, eq2⟩ : ∃ x, x = add3 bkq bkm := ⟨_, rfl⟩
  have oq2 := ok3_add hbkq hbkm
  rw [← eq2] at oq2
  have Kq2 := Lib.hid (fun W => rptadd3 hbkq hbkm W)
  simp only [← eq2] at Kq2
  refine inw_callV (args := #[pv3 bkq, pv3 bkm, numV dN]) (v := pv3 q2) (fun W => run_call_fn W (enters_of Try.func10 rfl rfl) rfl (by simp [Act.eval])) (fun W _ => Kq2.out W) rfl rfl ?_; simp only [Act.put, List.setIfInBounds_toArray, List.set_cons_zero, List.set_cons_succ]
  refine inw_fin fun d os => ?_
  refine given_mk (t := 26) rfl fun s2 => ?_
  refine given_nil fun hap => ?_
  simp only [Act.put, List.setIfInBounds_toArray, List.set_cons_zero, List.set_cons_succ] at hap ⊢
  have hM13 := hM12.calls (below_regrown W12 d os)
  clear hap 
  generalize grow (redrawn W12 d) os = W13 at hM13 ⊢
  change wpAny _ _ _ _ 2 _ _ _
  refine any_set (n := 8) (by kernel_rfl) rfl hM13 3 (cs := ((pc4 r1))) rfl rfl rfl rfl rowPt rfl (one_p4 _) rfl rfl fun W14 hM14 => ?_
  simp only [List.set_cons_zero, List.set_cons_succ] at hM14
  refine any_set (n := 9) (by kernel_rfl) rfl hM14 2 (cs := ((rpL q2.1 q2.2.1 q2.2.2).toArray)) rfl rfl rfl rfl rowRp rfl (one_rp _ _ _) rfl rfl fun W15 hM15 => ?_
  simp only [List.set_cons_zero, List.set_cons_succ] at hM15
  refine wpAny_done (by kernel_rfl) ?_ _
  (go_step; go_step; go_step; refine wp_region_inw 22 HMIX.out (by decide) (by kernel_rfl) (by kernel_rfl) ?_)
  refine inw_row hM15 5 (v := numV k) rfl rfl rfl rfl rowNu rfl rfl ?_; simp only [Act.put, List.setIfInBounds_toArray, List.set_cons_zero, List.set_cons_succ]
  refine inw_row hM15 3 (v := pv4 r1) rfl rfl rfl rfl rowPt rfl rfl ?_; simp only [Act.put, List.setIfInBounds_toArray, List.set_cons_zero, List.set_cons_succ]
  obtain ⟨R1, oR1, KR1⟩ := times_ex or1 k hk
  refine inw_callV (args := #[numV k, pv4 r1]) (v := pv4 R1) (fun W => run_call_fn W (enters_of Try.func19 rfl rfl) rfl (by simp [Act.eval])) (fun W _ => KR1.out W) rfl rfl ?_; simp only [Act.put, List.setIfInBounds_toArray, List.set_cons_zero, List.set_cons_succ]
  refine inw_row hM15 5 (v := numV k) rfl rfl rfl rfl rowNu rfl rfl ?_; simp only [Act.put, List.setIfInBounds_toArray, List.set_cons_zero, List.set_cons_succ]
  refine inw_row hM15 2 (v := pv3 q2) rfl rfl rfl rfl rowRp rfl rfl ?_; simp only [Act.put, List.setIfInBounds_toArray, List.set_cons_zero, List.set_cons_succ]
  obtain ⟨Q2, oQ2, KQ2⟩ := rtimes_ex oq2 k hk
  refine inw_callV (args := #[numV k, pv3 q2]) (v := pv3 Q2) (fun W => run_call_fn W (enters_of Try.func20 rfl rfl) rfl (by simp [Act.eval])) (fun W _ => KQ2.out W) rfl rfl ?_; simp only [Act.put, List.setIfInBounds_toArray, List.set_cons_zero, List.set_cons_succ]
  refine inw_callV (args := #[pv4 R1, pv3 Q2]) (v := .bool true) (fun W => run_call_fn W (enters_of Try.func18 rfl rfl) rfl (by simp [Act.eval])) (fun W _ => is_eq oR1 oQ2 (by rw [zz2 _ _ hakq.on hakm.on]) W) rfl rfl ?_; simp only [Act.put, List.setIfInBounds_toArray, List.set_cons_zero, List.set_cons_succ]
  refine inw_pure (v := .bool true) (fun _ => rfl) rfl rfl ?_; simp only [Act.put, List.setIfInBounds_toArray, List.set_cons_zero, List.set_cons_succ]
  refine inw_row hM15 5 (v := numV k) rfl rfl rfl rfl rowNu rfl rfl ?_; simp only [Act.put, List.setIfInBounds_toArray, List.set_cons_zero, List.set_cons_succ]
  refine inw_row hM15 3 (v := pv4 r1) rfl rfl rfl rfl rowPt rfl rfl ?_; simp only [Act.put, List.setIfInBounds_toArray, List.set_cons_zero, List.set_cons_succ]
  refine inw_row hM15 4 (v := numV l) rfl rfl rfl rfl rowNu rfl rfl ?_; simp only [Act.put, List.setIfInBounds_toArray, List.set_cons_zero, List.set_cons_succ]
  obtain ⟨R3, oR3, KR3⟩ := both_ex4 or1 k l hk hl
  refine inw_callV (args := #[numV k, pv4 r1, numV l]) (v := pv4 R3) (fun W => run_call_fn W (enters_of Try.func21 rfl rfl) rfl (by simp [Act.eval])) (fun W _ => KR3.out W) rfl rfl ?_; simp only [Act.put, List.setIfInBounds_toArray, List.set_cons_zero, List.set_cons_succ]
  refine inw_row hM15 5 (v := numV k) rfl rfl rfl rfl rowNu rfl rfl ?_; simp only [Act.put, List.setIfInBounds_toArray, List.set_cons_zero, List.set_cons_succ]
  refine inw_row hM15 2 (v := pv3 q2) rfl rfl rfl rfl rowRp rfl rfl ?_; simp only [Act.put, List.setIfInBounds_toArray, List.set_cons_zero, List.set_cons_succ]
  refine inw_row hM15 4 (v := numV l) rfl rfl rfl rfl rowNu rfl rfl ?_; simp only [Act.put, List.setIfInBounds_toArray, List.set_cons_zero, List.set_cons_succ]
  obtain ⟨Q4, oQ4, KQ4⟩ := rboth_ex oq2 k l hk hl
  refine inw_callV (args := #[numV k, pv3 q2, numV l]) (v := pv3 Q4) (fun W => run_call_fn W (enters_of Try.func22 rfl rfl) rfl (by simp [Act.eval])) (fun W _ => KQ4.out W) rfl rfl ?_; simp only [Act.put, List.setIfInBounds_toArray, List.set_cons_zero, List.set_cons_succ]
  refine inw_callV (args := #[pv4 R3, pv3 Q4]) (v := .bool true) (fun W => run_call_fn W (enters_of Try.func18 rfl rfl) rfl (by simp [Act.eval])) (fun W _ => is_eq oR3 oQ4 (by rw [zz2 _ _ hakq.on hakm.on]) W) rfl rfl ?_; simp only [Act.put, List.setIfInBounds_toArray, List.set_cons_zero, List.set_cons_succ]
  refine inw_pure (v := .bool true) (fun _ => rfl) rfl rfl ?_; simp only [Act.put, List.setIfInBounds_toArray, List.set_cons_zero, List.set_cons_succ]
  refine inw_pure (v := .bool true) (fun _ => rfl) rfl rfl ?_; simp only [Act.put, List.setIfInBounds_toArray, List.set_cons_zero, List.set_cons_succ]
  refine inw_callV (args := #[]) (v := .bool true) (fun W => run_call_fn W (enters_of Try.func23 rfl rfl) rfl (by simp [Act.eval])) (fun W _ => lives23_any W) rfl rfl ?_; simp only [Act.put, List.setIfInBounds_toArray, List.set_cons_zero, List.set_cons_succ]
  refine inw_pure (v := .bool true) (fun _ => rfl) rfl rfl ?_; simp only [Act.put, List.setIfInBounds_toArray, List.set_cons_zero, List.set_cons_succ]
  refine inw_pure (v := .bool true) (fun _ => rfl) rfl rfl ?_; simp only [Act.put, List.setIfInBounds_toArray, List.set_cons_zero, List.set_cons_succ]
  refine inw_fin fun d os => ?_
  refine given_nil fun hap => ?_
  have hM16 := hM15.calls (below_regrown W15 d os)
  clear hap 
  generalize grow (redrawn W15 d) os = W16 at hM16 ⊢
  refine wpAny_done (by kernel_rfl) ?_ _
  (go_step; go_step; go_step; refine bodyPost_ret (v := .bool true) (results_slot Try.results5 rfl) rfl ⟨?_, hM16.below⟩)
  exact rfl
end Go.Proofs.Ytigfoophimjgdaa
namespace Go.Proofs.Ytigfoophimjgdaa
set_option maxRecDepth 20000
set_option linter.unusedSimpArgs false
set_option linter.unusedVariables false
open Go.ChangeShapes Go.WideShapes Go.ChangeAt Go.RowKit Go.WideMaps
theorem Try.arr4 : ArrKey Try.prog 24 23 4 := ⟨Try.underlying24, by kernel_rfl, by kernel_rfl, by kernel_rfl⟩
theorem trod_u64 {H : Type} (enc : TypeId × Value → H) (W : World) (base : Nat) (sp : Nat → Bool) (held : Bool) (m : Nat) (n : Int) (hw : (Lit.int .u64 n).wf = true) :
    DataW.trod enc Try.prog W base sp held (m + 1) 23 [.int .u64 n] = some (.lit (.int .u64 n), []) := by
  rw [DataW.trod_step]
  unfold DataW.trodStep
  simp only [Try.underlying23]
  simp [hw]
theorem open_num {H : Type} {enc : TypeId × Value → H} {W : World} {b0 base : Nat} {sp : Nat → Bool} {held : Bool} {v : Value} {d : DataW H} {ps : List MemPlace}
    (hval : Value.okWide Try.prog W .any b0 24 v) (hd : DataW.Trod enc Try.prog W base sp held 24 v d ps) :
    ∃ n : Nat, n < B64 ^ 4 ∧ v = numV n ∧ ps = [] ∧ ∀ W' b' sp', DataW.Trod enc Try.prog W' b' sp' held 24 v d [] := by
  obtain ⟨xs, rfl, hn⟩ := okWide_arr Try.arr4 hval
  obtain ⟨x0, x1, x2, x3, rfl⟩ : ∃ x0 x1 x2 x3, xs = #[x0, x1, x2, x3] := by
    obtain ⟨l⟩ := xs
    match l, hn with
    | [a, b, c, d], _ => exact ⟨a, b, c, d, rfl⟩
  obtain ⟨fuel, hf⟩ := hd
  cases fuel with
  | zero => simp [DataW.trod] at hf
  | succ m =>
    rw [DataW.trod_step] at hf
    unfold DataW.trodStep at hf
    simp only [Try.arr4.hu, Value.cells, Try.arr4.one, Try.arr4.size] at hf
    simp only [List.length_cons, List.length_nil, if_true, List.range_succ, List.range_zero, List.nil_append, List.cons_append, List.mapM_cons, List.mapM_nil, Nat.mul_one] at hf
    rcases h0 : DataW.trod enc Try.prog W base sp held m 23 [x0] with _ | y0
    · simp [h0] at hf
    rcases h1 : DataW.trod enc Try.prog W base sp held m 23 [x1] with _ | y1
    · simp [h0, h1] at hf
    rcases h2 : DataW.trod enc Try.prog W base sp held m 23 [x2] with _ | y2
    · simp [h0, h1, h2] at hf
    rcases h3 : DataW.trod enc Try.prog W base sp held m 23 [x3] with _ | y3
    · simp [h0, h1, h2, h3] at hf
    simp [h0, h1, h2, h3] at hf
    obtain ⟨n0, e0, rfl, w0⟩ := DataW.trod_int Try.underlying23 h0
    obtain ⟨n1, e1, rfl, w1⟩ := DataW.trod_int Try.underlying23 h1
    obtain ⟨n2, e2, rfl, w2⟩ := DataW.trod_int Try.underlying23 h2
    obtain ⟨n3, e3, rfl, w3⟩ := DataW.trod_int Try.underlying23 h3
    simp only [List.cons.injEq, and_true] at e0 e1 e2 e3
    subst e0 e1 e2 e3
    obtain ⟨rfl, rfl⟩ := hf
    have wb : ∀ n : Int, (Lit.int .u64 n).wf = true → 0 ≤ n ∧ n < 18446744073709551616 := fun n h => by
      simp [Lit.wf] at h
      have e1 : IntKind.u64.min = 0 := by decide
      have e2 : IntKind.u64.max = 18446744073709551615 := by decide
      omega
    have b0 := wb n0 w0
    have b1 := wb n1 w1
    have b2 := wb n2 w2
    have b3 := wb n3 w3
    have hp : ∀ k : Nat, (if k = 0 then n0.toNat else if k = 1 then n1.toNat else if k = 2 then n2.toNat else if k = 3 then n3.toNat else 0) < B64 := fun k => by
      unfold B64
      split
      · omega
      · split
        · omega
        · split
          · omega
          · split <;> omega
    refine ⟨valW (fun k => if k = 0 then n0.toNat else if k = 1 then n1.toNat else if k = 2 then n2.toNat else if k = 3 then n3.toNat else 0) 4, ?_, ?_, rfl, fun W' b' sp' => ⟨2, ?_⟩⟩
    · exact valW_lt _ hp 4
    · rw [← rowQ_num _ _ hp rfl]
      unfold rowQ
      simp only [if_true, Nat.one_ne_zero, if_false]
      rw [Int.toNat_of_nonneg b0.1]
      simp [Int.toNat_of_nonneg b1.1, Int.toNat_of_nonneg b2.1, Int.toNat_of_nonneg b3.1]
    · rw [DataW.trod_step]
      unfold DataW.trodStep
      simp only [Try.arr4.hu, Value.cells, Try.arr4.one, Try.arr4.size]
      simp only [List.length_cons, List.length_nil, if_true, List.range_succ, List.range_zero, List.nil_append, List.cons_append, List.mapM_cons, List.mapM_nil, Nat.mul_one]
      have t0 := trod_u64 enc W' b' sp' held 0 n0 w0
      have t1 := trod_u64 enc W' b' sp' held 0 n1 w1
      have t2 := trod_u64 enc W' b' sp' held 0 n2 w2
      have t3 := trod_u64 enc W' b' sp' held 0 n3 w3
      simp [t0, t1, t2, t3]
end Go.Proofs.Ytigfoophimjgdaa
