/- The reference's points (layer 20): its functions' contracts. -/
import Derived.Test.YtigfoophimjgdaaM16
namespace Go.Proofs.Ytigfoophimjgdaa
set_option maxRecDepth 20000
set_option linter.unusedSimpArgs false
set_option linter.unusedVariables false
open Go.RowKit Go.Sort
theorem amod (a b n : Nat) : (a % n + b % n) % n = (a + b) % n := (Nat.add_mod a b n).symm
theorem bX_lt : bX < PN := base_is.2.2.2.1
theorem bY_lt : bY < PN := base_is.2.2.2.2
theorem IV_pm (a c : Nat) (h : pm PN 256 P2 a 1 % PN = c) : IV a = c := pow_is a P2 c p2_lt h
theorem rD_num : (0 + PN - 121665) % PN * IV 121666 % PN = dN := by
  rw [IV_pm 121666 37095705934669439343138083508754565189542113879843219016388785533085940283556 (by decide +kernel)]
  decide +kernel
set_option maxRecDepth 20000 in
set_option maxHeartbeats 8000000 in
theorem rD_any  (w : World) : Calls Try.prog 11 #[] w fun E w' => E = .returned (numV dN) ∧ Below w.heap.size w w' := by
  have HMIX := Lib.hid (show Try.prog.follows .mixedOrders = true by kernel_rfl)
  go_enter Try.func11, Try.ntmps11
  have hM0 := Mem.start w
  (go_step; go_step; refine wp_region_lit ?_)
  refine wl_new hM0 (f := fun b => .pointer (some ⟨b, 0, none⟩)) (ob := .cells z4 24 (0, 0)) (fun W => run_alloc_of rfl (al_Nu W)) rfl fun b1 W1 hM1 => ?_
  simp only [Act.put, List.setIfInBounds_toArray, List.set_cons_zero, List.set_cons_succ]
  refine wpList_nil ?_
  (go_step; go_step; go_step; refine wp_region_lit ?_)
  refine wl_call hM1 (args := #[.int .u64 0]) (v := numV 0) (fun W => run_call_fn W (enters_of Try.func35 rfl rfl) rfl (by simp [Act.eval])) (rsmall' 0 (by decide) W1) rfl fun W2 hM2 => ?_
  simp only [Act.put, List.setIfInBounds_toArray, List.set_cons_zero, List.set_cons_succ]
  refine wl_call hM2 (args := #[.int .u64 121665]) (v := numV 121665) (fun W => run_call_fn W (enters_of Try.func35 rfl rfl) rfl (by simp [Act.eval])) (rsmall' 121665 (by decide) W2) rfl fun W3 hM3 => ?_
  simp only [Act.put, List.setIfInBounds_toArray, List.set_cons_zero, List.set_cons_succ]
  obtain ⟨v1, ev1⟩ : ∃ x, x = (0 + PN - 121665) % PN := ⟨_, rfl⟩
  have pv1 : v1 < PN := by rw [ev1]; exact Nat.mod_lt _ PN_pos
  have Kv1 := fun W => rsub' 0 121665 W (by decide +kernel) (by decide +kernel)
  simp only [← ev1] at Kv1
  refine wl_call hM3 (args := #[numV 0, numV 121665]) (v := numV v1) (fun W => run_call_fn W (enters_of Try.func36 rfl rfl) rfl (by simp [Act.eval])) (Kv1 W3) rfl fun W4 hM4 => ?_
  simp only [Act.put, List.setIfInBounds_toArray, List.set_cons_zero, List.set_cons_succ]
  refine wl_call hM4 (args := #[.int .u64 121666]) (v := numV 121666) (fun W => run_call_fn W (enters_of Try.func35 rfl rfl) rfl (by simp [Act.eval])) (rsmall' 121666 (by decide) W4) rfl fun W5 hM5 => ?_
  simp only [Act.put, List.setIfInBounds_toArray, List.set_cons_zero, List.set_cons_succ]
  obtain ⟨v2, ev2⟩ : ∃ x, x = IV 121666 := ⟨_, rfl⟩
  have pv2 : v2 < PN := by rw [ev2]; exact IV_lt _
  have Kv2 := fun W => rinv' 121666 W (by decide +kernel)
  simp only [← ev2] at Kv2
  refine wl_call hM5 (args := #[numV 121666]) (v := numV v2) (fun W => run_call_fn W (enters_of Try.func45 rfl rfl) rfl (by simp [Act.eval])) (Kv2 W5) rfl fun W6 hM6 => ?_
  simp only [Act.put, List.setIfInBounds_toArray, List.set_cons_zero, List.set_cons_succ]
  obtain ⟨v3, ev3⟩ : ∃ x, x = v1 * v2 % PN := ⟨_, rfl⟩
  have pv3 : v3 < PN := by rw [ev3]; exact Nat.mod_lt _ PN_pos
  have Kv3 := fun W => rmul' v1 v2 W pv1 pv2
  simp only [← ev3] at Kv3
  refine wl_call hM6 (args := #[numV v1, numV v2]) (v := numV v3) (fun W => run_call_fn W (enters_of Try.func43 rfl rfl) rfl (by simp [Act.eval])) (Kv3 W6) rfl fun W7 hM7 => ?_
  simp only [Act.put, List.setIfInBounds_toArray, List.set_cons_zero, List.set_cons_succ]
  refine wl_set hM7 0 (cs := (elR v3)) rfl rfl rfl rfl rowNu rfl (one_el v3) rfl rfl fun W8 hM8 => ?_
  simp only [List.set_cons_zero, List.set_cons_succ] at hM8
  refine wpList_nil ?_
  (go_step; go_step; go_step; refine bodyPost_ret (v := numV v3) (results_arr Try.results11 rfl (hM8.load 0 rfl rowNu)) rfl ⟨?_, hM8.below⟩)
  exact by rw [ev3, ev2, ev1, rD_num]
set_option maxRecDepth 20000 in
set_option maxHeartbeats 8000000 in
theorem rzero_any  (w : World) : Calls Try.prog 38 #[] w fun E w' => E = .returned (rpV 0 1 1) ∧ Below w.heap.size w w' := by
  have HMIX := Lib.hid (show Try.prog.follows .mixedOrders = true by kernel_rfl)
  go_enter Try.func38, Try.ntmps38
  have hM0 := Mem.start w
  (go_step; go_step; refine wp_region_lit ?_)
  refine wl_new hM0 (f := fun b => .pointer (some ⟨b, 0, none⟩)) (ob := .cells z12 32 (0, 0)) (fun W => run_alloc_of rfl (al_Rp W)) rfl fun b1 W1 hM1 => ?_
  simp only [Act.put, List.setIfInBounds_toArray, List.set_cons_zero, List.set_cons_succ]
  refine wpList_nil ?_
  (go_step; go_step; go_step; refine wp_region_lit ?_)
  refine wl_call hM1 (args := #[.int .u64 1]) (v := numV 1) (fun W => run_call_fn W (enters_of Try.func35 rfl rfl) rfl (by simp [Act.eval])) (rsmall' 1 (by decide) W1) rfl fun W2 hM2 => ?_
  simp only [Act.put, List.setIfInBounds_toArray, List.set_cons_zero, List.set_cons_succ]
  refine wl_call hM2 (args := #[.int .u64 1]) (v := numV 1) (fun W => run_call_fn W (enters_of Try.func35 rfl rfl) rfl (by simp [Act.eval])) (rsmall' 1 (by decide) W2) rfl fun W3 hM3 => ?_
  simp only [Act.put, List.setIfInBounds_toArray, List.set_cons_zero, List.set_cons_succ]
  refine wl_pure (v := rpV 0 1 1) (fun W => run_build_of rfl (by simp [Act.eval]) (bdR0 1 1 W)) rfl ?_
  simp only [Act.put, List.setIfInBounds_toArray, List.set_cons_zero, List.set_cons_succ]
  refine wl_set hM3 0 (cs := ((rpL 0 1 1).toArray)) rfl rfl rfl rfl rowRp rfl (one_rp 0 1 1) rfl rfl fun W4 hM4 => ?_
  simp only [List.set_cons_zero, List.set_cons_succ] at hM4
  refine wpList_nil ?_
  (go_step; go_step; go_step; refine bodyPost_ret (v := rpV 0 1 1) (results_arr Try.results38 rfl (hM4.load 0 rfl rowRp)) rfl ⟨?_, hM4.below⟩)
  exact rfl
set_option maxRecDepth 20000 in
set_option maxHeartbeats 8000000 in
theorem rmake_any (X Y : Nat) (w : World) : Calls Try.prog 39 #[numV X, numV Y] w fun E w' => E = .returned (rpV X Y 1) ∧ Below w.heap.size w w' := by
  have HMIX := Lib.hid (show Try.prog.follows .mixedOrders = true by kernel_rfl)
  go_enter Try.func39, Try.ntmps39
  have hM0 := Mem.start w
  (go_step; go_step; refine wp_region_lit ?_)
  refine wl_new hM0 (f := fun b => .pointer (some ⟨b, 0, none⟩)) (ob := .cells (elR X) 24 (0, 0)) (fun W => run_box_of rfl rfl (bx_Nu X W)) rfl fun b1 W1 hM1 => ?_
  simp only [Act.put, List.setIfInBounds_toArray, List.set_cons_zero, List.set_cons_succ]
  refine wl_new hM1 (f := fun b => .pointer (some ⟨b, 0, none⟩)) (ob := .cells (elR Y) 24 (0, 0)) (fun W => run_box_of rfl rfl (bx_Nu Y W)) rfl fun b2 W2 hM2 => ?_
  simp only [Act.put, List.setIfInBounds_toArray, List.set_cons_zero, List.set_cons_succ]
  refine wl_new hM2 (f := fun b => .pointer (some ⟨b, 0, none⟩)) (ob := .cells z12 32 (0, 0)) (fun W => run_alloc_of rfl (al_Rp W)) rfl fun b3 W3 hM3 => ?_
  simp only [Act.put, List.setIfInBounds_toArray, List.set_cons_zero, List.set_cons_succ]
  refine wpList_nil ?_
  (go_step; go_step; go_step; refine wp_region_inw 4 HMIX.out (by decide) (by kernel_rfl) (by kernel_rfl) ?_)
  refine inw_row hM3 2 (v := numV X) rfl rfl rfl rfl rowNu rfl rfl ?_; simp only [Act.put, List.setIfInBounds_toArray, List.set_cons_zero, List.set_cons_succ]
  refine inw_row hM3 1 (v := numV Y) rfl rfl rfl rfl rowNu rfl rfl ?_; simp only [Act.put, List.setIfInBounds_toArray, List.set_cons_zero, List.set_cons_succ]
  refine inw_callV (args := #[.int .u64 1]) (v := numV 1) (fun W => run_call_fn W (enters_of Try.func35 rfl rfl) rfl (by simp [Act.eval])) (fun W _ => rsmall' 1 (by decide) W) rfl rfl ?_; simp only [Act.put, List.setIfInBounds_toArray, List.set_cons_zero, List.set_cons_succ]
  refine inw_pure (v := rpV X Y 1) (fun W => run_build_of rfl (by simp [Act.eval]) (bdR X Y 1 W)) rfl rfl ?_; simp only [Act.put, List.setIfInBounds_toArray, List.set_cons_zero, List.set_cons_succ]
  refine inw_fin fun d os => ?_
  refine given_nil fun hap => ?_
  have hM4 := hM3.calls (below_regrown W3 d os)
  clear hap 
  generalize grow (redrawn W3 d) os = W4 at hM4 ⊢
  change wpAny _ _ _ _ 1 _ _ _
  refine any_set (n := 4) (by kernel_rfl) rfl hM4 0 (cs := ((rpL X Y 1).toArray)) rfl rfl rfl rfl rowRp rfl (one_rp X Y 1) rfl rfl fun W5 hM5 => ?_
  simp only [List.set_cons_zero, List.set_cons_succ] at hM5
  refine wpAny_done (by kernel_rfl) ?_ _
  (go_step; go_step; go_step; refine bodyPost_ret (v := rpV X Y 1) (results_arr Try.results39 rfl (hM5.load 0 rfl rowRp)) rfl ⟨?_, hM5.below⟩)
  exact rfl
set_option maxRecDepth 20000 in
set_option maxHeartbeats 8000000 in
theorem rxy_any (X Y Z : Nat) (hX : X < PN) (hY : Y < PN) (hZ : Z < PN) (w : World) : Calls Try.prog 32 #[rpV X Y Z] w fun E w' => E = .returned (.tuple #[numV (X * IV Z % PN), numV (Y * IV Z % PN)]) ∧ Below w.heap.size w w' := by
  have HMIX := Lib.hid (show Try.prog.follows .mixedOrders = true by kernel_rfl)
  go_enter Try.func32, Try.ntmps32
  have hM0 := Mem.start w
  (go_step; go_step; refine wp_region_lit ?_)
  refine wl_new hM0 (f := fun b => .pointer (some ⟨b, 0, none⟩)) (ob := .cells ((rpL X Y Z).toArray) 32 (0, 0)) (fun W => run_box_of rfl rfl (bx_Rp X Y Z W)) rfl fun b1 W1 hM1 => ?_
  simp only [Act.put, List.setIfInBounds_toArray, List.set_cons_zero, List.set_cons_succ]
  refine wl_new hM1 (f := fun b => .pointer (some ⟨b, 0, none⟩)) (ob := .cells z4 24 (0, 0)) (fun W => run_alloc_of rfl (al_Nu W)) rfl fun b2 W2 hM2 => ?_
  simp only [Act.put, List.setIfInBounds_toArray, List.set_cons_zero, List.set_cons_succ]
  refine wl_new hM2 (f := fun b => .pointer (some ⟨b, 0, none⟩)) (ob := .cells z4 24 (0, 0)) (fun W => run_alloc_of rfl (al_Nu W)) rfl fun b3 W3 hM3 => ?_
  simp only [Act.put, List.setIfInBounds_toArray, List.set_cons_zero, List.set_cons_succ]
  refine wpList_nil ?_
  (go_step; go_step; go_step; refine wp_region_lit ?_)
  refine wl_pure (v := .pointer (some ⟨b1, 8, none⟩)) (fun W => run_field_of rfl rfl (fa_R2 b1 W)) rfl ?_
  simp only [Act.put, List.setIfInBounds_toArray, List.set_cons_zero, List.set_cons_succ]
  refine wl_part hM3 2 (v := numV Z) (sub := elR Z) rfl rfl rfl rfl rfl rowNu rfl ?_
  simp only [Act.put, List.setIfInBounds_toArray, List.set_cons_zero, List.set_cons_succ]
  obtain ⟨v1, ev1⟩ : ∃ x, x = IV Z := ⟨_, rfl⟩
  have pv1 : v1 < PN := by rw [ev1]; exact IV_lt _
  have Kv1 := fun W => rinv' Z W hZ
  simp only [← ev1] at Kv1
  refine wl_call hM3 (args := #[numV Z]) (v := numV v1) (fun W => run_call_fn W (enters_of Try.func45 rfl rfl) rfl (by simp [Act.eval])) (Kv1 W3) rfl fun W4 hM4 => ?_
  simp only [Act.put, List.setIfInBounds_toArray, List.set_cons_zero, List.set_cons_succ]
  refine wl_new hM4 (f := fun b => .pointer (some ⟨b, 0, none⟩)) (ob := .cells z4 24 (0, 0)) (fun W => run_alloc_of rfl (al_Nu W)) rfl fun b4 W5 hM5 => ?_
  simp only [Act.put, List.setIfInBounds_toArray, List.set_cons_zero, List.set_cons_succ]
  refine wl_set hM5 0 (cs := (elR v1)) rfl rfl rfl rfl rowNu rfl (one_el v1) rfl rfl fun W6 hM6 => ?_
  simp only [List.set_cons_zero, List.set_cons_succ] at hM6
  refine wpList_nil ?_
  (go_step; go_step; go_step; refine wp_region_inw 8 HMIX.out (by decide) (by kernel_rfl) (by kernel_rfl) ?_)
  refine inw_pure (v := .pointer (some ⟨b1, 0, none⟩)) (fun W => run_field_of rfl rfl (fa_R0 b1 W)) rfl rfl ?_; simp only [Act.put, List.setIfInBounds_toArray, List.set_cons_zero, List.set_cons_succ]
  refine inw_part hM6 3 (v := numV X) (sub := elR X) rfl rfl rfl rfl rfl rowNu rfl rfl ?_; simp only [Act.put, List.setIfInBounds_toArray, List.set_cons_zero, List.set_cons_succ]
  refine inw_row hM6 0 (v := numV v1) rfl rfl rfl rfl rowNu rfl rfl ?_; simp only [Act.put, List.setIfInBounds_toArray, List.set_cons_zero, List.set_cons_succ]
  obtain ⟨v2, ev2⟩ : ∃ x, x = X * v1 % PN := ⟨_, rfl⟩
  have pv2 : v2 < PN := by rw [ev2]; exact Nat.mod_lt _ PN_pos
  have Kv2 := fun W => rmul' X v1 W hX pv1
  simp only [← ev2] at Kv2
  refine inw_callV (args := #[numV X, numV v1]) (v := numV v2) (fun W => run_call_fn W (enters_of Try.func43 rfl rfl) rfl (by simp [Act.eval])) (fun W _ => Kv2 W) rfl rfl ?_; simp only [Act.put, List.setIfInBounds_toArray, List.set_cons_zero, List.set_cons_succ]
  refine inw_pure (v := .pointer (some ⟨b1, 4, none⟩)) (fun W => run_field_of rfl rfl (fa_R1 b1 W)) rfl rfl ?_; simp only [Act.put, List.setIfInBounds_toArray, List.set_cons_zero, List.set_cons_succ]
  refine inw_part hM6 3 (v := numV Y) (sub := elR Y) rfl rfl rfl rfl rfl rowNu rfl rfl ?_; simp only [Act.put, List.setIfInBounds_toArray, List.set_cons_zero, List.set_cons_succ]
  refine inw_row hM6 0 (v := numV v1) rfl rfl rfl rfl rowNu rfl rfl ?_; simp only [Act.put, List.setIfInBounds_toArray, List.set_cons_zero, List.set_cons_succ]
  obtain ⟨v3, ev3⟩ : ∃ x, x = Y * v1 % PN := ⟨_, rfl⟩
  have pv3 : v3 < PN := by rw [ev3]; exact Nat.mod_lt _ PN_pos
  have Kv3 := fun W => rmul' Y v1 W hY pv1
  simp only [← ev3] at Kv3
  refine inw_callV (args := #[numV Y, numV v1]) (v := numV v3) (fun W => run_call_fn W (enters_of Try.func43 rfl rfl) rfl (by simp [Act.eval])) (fun W _ => Kv3 W) rfl rfl ?_; simp only [Act.put, List.setIfInBounds_toArray, List.set_cons_zero, List.set_cons_succ]
  refine inw_fin fun d os => ?_
  refine given_nil fun hap => ?_
  have hM7 := hM6.calls (below_regrown W6 d os)
  clear hap 
  generalize grow (redrawn W6 d) os = W7 at hM7 ⊢
  change wpAny _ _ _ _ 2 _ _ _
  refine any_set (n := 8) (by kernel_rfl) rfl hM7 2 (cs := (elR v2)) rfl rfl rfl rfl rowNu rfl (one_el v2) rfl rfl fun W8 hM8 => ?_
  simp only [List.set_cons_zero, List.set_cons_succ] at hM8
  refine any_set (n := 9) (by kernel_rfl) rfl hM8 1 (cs := (elR v3)) rfl rfl rfl rfl rowNu rfl (one_el v3) rfl rfl fun W9 hM9 => ?_
  simp only [List.set_cons_zero, List.set_cons_succ] at hM9
  refine wpAny_done (by kernel_rfl) ?_ _
  (go_step; go_step; go_step; refine bodyPost_ret (v := .tuple #[numV v2, numV v3]) (results_arr2 Try.results32 rfl rfl (hM9.load 2 rfl rowNu) (hM9.load 1 rfl rowNu)) rfl ⟨?_, hM9.below⟩)
  exact by rw [ev3, ev2, ev1]
/-- x x of the points with that y. -/
def sqR (Y : Nat) : Nat := (Y * Y % PN + PN - 1) % PN * IV ((dN * (Y * Y % PN) % PN + 1) % PN) % PN
theorem sqR_lt (Y : Nat) : sqR Y < PN := Nat.mod_lt _ PN_pos
set_option maxRecDepth 20000 in
set_option maxHeartbeats 8000000 in
theorem rsquare_any (Y : Nat) (w : World) (hY : Y < PN) : Calls Try.prog 63 #[numV Y] w fun E w' => E = .returned (numV (sqR Y)) ∧ Below w.heap.size w w' := by
  have HMIX := Lib.hid (show Try.prog.follows .mixedOrders = true by kernel_rfl)
  go_enter Try.func63, Try.ntmps63
  have hM0 := Mem.start w
  (go_step; go_step; refine wp_region_lit ?_)
  refine wl_new hM0 (f := fun b => .pointer (some ⟨b, 0, none⟩)) (ob := .cells (elR Y) 24 (0, 0)) (fun W => run_box_of rfl rfl (bx_Nu Y W)) rfl fun b1 W1 hM1 => ?_
  simp only [Act.put, List.setIfInBounds_toArray, List.set_cons_zero, List.set_cons_succ]
  refine wl_new hM1 (f := fun b => .pointer (some ⟨b, 0, none⟩)) (ob := .cells z4 24 (0, 0)) (fun W => run_alloc_of rfl (al_Nu W)) rfl fun b2 W2 hM2 => ?_
  simp only [Act.put, List.setIfInBounds_toArray, List.set_cons_zero, List.set_cons_succ]
  refine wpList_nil ?_
  (go_step; go_step; go_step; refine wp_region_lit ?_)
  refine wl_row hM2 1 (v := numV Y) rfl rfl rfl rfl rowNu rfl ?_
  simp only [Act.put, List.setIfInBounds_toArray, List.set_cons_zero, List.set_cons_succ]
  refine wl_row hM2 1 (v := numV Y) rfl rfl rfl rfl rowNu rfl ?_
  simp only [Act.put, List.setIfInBounds_toArray, List.set_cons_zero, List.set_cons_succ]
  obtain ⟨v1, ev1⟩ : ∃ x, x = Y * Y % PN := ⟨_, rfl⟩
  have pv1 : v1 < PN := by rw [ev1]; exact Nat.mod_lt _ PN_pos
  have Kv1 := fun W => rmul' Y Y W hY hY
  simp only [← ev1] at Kv1
  refine wl_call hM2 (args := #[numV Y, numV Y]) (v := numV v1) (fun W => run_call_fn W (enters_of Try.func43 rfl rfl) rfl (by simp [Act.eval])) (Kv1 W2) rfl fun W3 hM3 => ?_
  simp only [Act.put, List.setIfInBounds_toArray, List.set_cons_zero, List.set_cons_succ]
  refine wl_new hM3 (f := fun b => .pointer (some ⟨b, 0, none⟩)) (ob := .cells z4 24 (0, 0)) (fun W => run_alloc_of rfl (al_Nu W)) rfl fun b3 W4 hM4 => ?_
  simp only [Act.put, List.setIfInBounds_toArray, List.set_cons_zero, List.set_cons_succ]
  refine wl_set hM4 0 (cs := (elR v1)) rfl rfl rfl rfl rowNu rfl (one_el v1) rfl rfl fun W5 hM5 => ?_
  simp only [List.set_cons_zero, List.set_cons_succ] at hM5
  refine wpList_nil ?_
  (go_step; go_step; go_step; refine wp_region_inw 10 HMIX.out (by decide) (by kernel_rfl) (by kernel_rfl) ?_)
  refine inw_row hM5 0 (v := numV v1) rfl rfl rfl rfl rowNu rfl rfl ?_; simp only [Act.put, List.setIfInBounds_toArray, List.set_cons_zero, List.set_cons_succ]
  refine inw_callV (args := #[.int .u64 1]) (v := numV 1) (fun W => run_call_fn W (enters_of Try.func35 rfl rfl) rfl (by simp [Act.eval])) (fun W _ => rsmall' 1 (by decide) W) rfl rfl ?_; simp only [Act.put, List.setIfInBounds_toArray, List.set_cons_zero, List.set_cons_succ]
  obtain ⟨v2, ev2⟩ : ∃ x, x = (v1 + PN - 1) % PN := ⟨_, rfl⟩
  have pv2 : v2 < PN := by rw [ev2]; exact Nat.mod_lt _ PN_pos
  have Kv2 := fun W => rsub' v1 1 W pv1 (by decide +kernel)
  simp only [← ev2] at Kv2
  refine inw_callV (args := #[numV v1, numV 1]) (v := numV v2) (fun W => run_call_fn W (enters_of Try.func36 rfl rfl) rfl (by simp [Act.eval])) (fun W _ => Kv2 W) rfl rfl ?_; simp only [Act.put, List.setIfInBounds_toArray, List.set_cons_zero, List.set_cons_succ]
  refine inw_callV (args := #[]) (v := numV dN) (fun W => run_call_fn W (enters_of Try.func11 rfl rfl) rfl (by simp [Act.eval])) (fun W _ => rD_any W) rfl rfl ?_; simp only [Act.put, List.setIfInBounds_toArray, List.set_cons_zero, List.set_cons_succ]
  refine inw_row hM5 0 (v := numV v1) rfl rfl rfl rfl rowNu rfl rfl ?_; simp only [Act.put, List.setIfInBounds_toArray, List.set_cons_zero, List.set_cons_succ]
  obtain ⟨v3, ev3⟩ : ∃ x, x = dN * v1 % PN := ⟨_, rfl⟩
  have pv3 : v3 < PN := by rw [ev3]; exact Nat.mod_lt _ PN_pos
  have Kv3 := fun W => rmul' dN v1 W d_is.2 pv1
  simp only [← ev3] at Kv3
  refine inw_callV (args := #[numV dN, numV v1]) (v := numV v3) (fun W => run_call_fn W (enters_of Try.func43 rfl rfl) rfl (by simp [Act.eval])) (fun W _ => Kv3 W) rfl rfl ?_; simp only [Act.put, List.setIfInBounds_toArray, List.set_cons_zero, List.set_cons_succ]
  refine inw_callV (args := #[.int .u64 1]) (v := numV 1) (fun W => run_call_fn W (enters_of Try.func35 rfl rfl) rfl (by simp [Act.eval])) (fun W _ => rsmall' 1 (by decide) W) rfl rfl ?_; simp only [Act.put, List.setIfInBounds_toArray, List.set_cons_zero, List.set_cons_succ]
  obtain ⟨v4, ev4⟩ : ∃ x, x = (v3 + 1) % PN := ⟨_, rfl⟩
  have pv4 : v4 < PN := by rw [ev4]; exact Nat.mod_lt _ PN_pos
  have Kv4 := fun W => radd' v3 1 W pv3 (by decide +kernel)
  simp only [← ev4] at Kv4
  refine inw_callV (args := #[numV v3, numV 1]) (v := numV v4) (fun W => run_call_fn W (enters_of Try.func44 rfl rfl) rfl (by simp [Act.eval])) (fun W _ => Kv4 W) rfl rfl ?_; simp only [Act.put, List.setIfInBounds_toArray, List.set_cons_zero, List.set_cons_succ]
  obtain ⟨v5, ev5⟩ : ∃ x, x = IV v4 := ⟨_, rfl⟩
  have pv5 : v5 < PN := by rw [ev5]; exact IV_lt _
  have Kv5 := fun W => rinv' v4 W pv4
  simp only [← ev5] at Kv5
  refine inw_callV (args := #[numV v4]) (v := numV v5) (fun W => run_call_fn W (enters_of Try.func45 rfl rfl) rfl (by simp [Act.eval])) (fun W _ => Kv5 W) rfl rfl ?_; simp only [Act.put, List.setIfInBounds_toArray, List.set_cons_zero, List.set_cons_succ]
  obtain ⟨v6, ev6⟩ : ∃ x, x = v2 * v5 % PN := ⟨_, rfl⟩
  have pv6 : v6 < PN := by rw [ev6]; exact Nat.mod_lt _ PN_pos
  have Kv6 := fun W => rmul' v2 v5 W pv2 pv5
  simp only [← ev6] at Kv6
  refine inw_callV (args := #[numV v2, numV v5]) (v := numV v6) (fun W => run_call_fn W (enters_of Try.func43 rfl rfl) rfl (by simp [Act.eval])) (fun W _ => Kv6 W) rfl rfl ?_; simp only [Act.put, List.setIfInBounds_toArray, List.set_cons_zero, List.set_cons_succ]
  refine inw_fin fun d os => ?_
  refine given_nil fun hap => ?_
  have hM6 := hM5.calls (below_regrown W5 d os)
  clear hap 
  generalize grow (redrawn W5 d) os = W6 at hM6 ⊢
  change wpAny _ _ _ _ 1 _ _ _
  refine any_set (n := 10) (by kernel_rfl) rfl hM6 1 (cs := (elR v6)) rfl rfl rfl rfl rowNu rfl (one_el v6) rfl rfl fun W7 hM7 => ?_
  simp only [List.set_cons_zero, List.set_cons_succ] at hM7
  refine wpAny_done (by kernel_rfl) ?_ _
  (go_step; go_step; go_step; refine bodyPost_ret (v := numV v6) (results_arr Try.results63 rfl (hM7.load 1 rfl rowNu)) rfl ⟨?_, hM7.below⟩)
  exact by unfold sqR; rw [ev6, ev5, ev4, ev3, ev2, ev1]
set_option maxRecDepth 20000 in
set_option maxHeartbeats 8000000 in
theorem rptadd_any (X1 Y1 Z1 X2 Y2 Z2 : Nat) (hX1 : X1 < PN) (hY1 : Y1 < PN) (hZ1 : Z1 < PN) (hX2 : X2 < PN) (hY2 : Y2 < PN) (hZ2 : Z2 < PN) (w : World) : Calls Try.prog 10 #[rpV X1 Y1 Z1, rpV X2 Y2 Z2, numV dN] w fun E w' => E = .returned (rpV (addX X1 Y1 Z1 X2 Y2 Z2) (addY X1 Y1 Z1 X2 Y2 Z2) (addZ X1 Y1 Z1 X2 Y2 Z2)) ∧ Below w.heap.size w w' := by
  unfold addX addY addZ
  have HMIX := Lib.hid (show Try.prog.follows .mixedOrders = true by kernel_rfl)
  go_enter Try.func10, Try.ntmps10
  have hM0 := Mem.start w
  (go_step; go_step; refine wp_region_lit ?_)
  refine wl_new hM0 (f := fun b => .pointer (some ⟨b, 0, none⟩)) (ob := .cells ((rpL X1 Y1 Z1).toArray) 32 (0, 0)) (fun W => run_box_of rfl rfl (bx_Rp X1 Y1 Z1 W)) rfl fun b1 W1 hM1 => ?_
  simp only [Act.put, List.setIfInBounds_toArray, List.set_cons_zero, List.set_cons_succ]
  refine wl_new hM1 (f := fun b => .pointer (some ⟨b, 0, none⟩)) (ob := .cells ((rpL X2 Y2 Z2).toArray) 32 (0, 0)) (fun W => run_box_of rfl rfl (bx_Rp X2 Y2 Z2 W)) rfl fun b2 W2 hM2 => ?_
  simp only [Act.put, List.setIfInBounds_toArray, List.set_cons_zero, List.set_cons_succ]
  refine wl_new hM2 (f := fun b => .pointer (some ⟨b, 0, none⟩)) (ob := .cells (elR dN) 24 (0, 0)) (fun W => run_box_of rfl rfl (bx_Nu dN W)) rfl fun b3 W3 hM3 => ?_
  simp only [Act.put, List.setIfInBounds_toArray, List.set_cons_zero, List.set_cons_succ]
  refine wl_new hM3 (f := fun b => .pointer (some ⟨b, 0, none⟩)) (ob := .cells z12 32 (0, 0)) (fun W => run_alloc_of rfl (al_Rp W)) rfl fun b4 W4 hM4 => ?_
  simp only [Act.put, List.setIfInBounds_toArray, List.set_cons_zero, List.set_cons_succ]
  refine wpList_nil ?_
  (go_step; go_step; go_step; refine wp_region_lit ?_)
  refine wl_pure (v := .pointer (some ⟨b1, 8, none⟩)) (fun W => run_field_of rfl rfl (fa_R2 b1 W)) rfl ?_
  simp only [Act.put, List.setIfInBounds_toArray, List.set_cons_zero, List.set_cons_succ]
  refine wl_part hM4 3 (v := numV Z1) (sub := elR Z1) rfl rfl rfl rfl rfl rowNu rfl ?_
  simp only [Act.put, List.setIfInBounds_toArray, List.set_cons_zero, List.set_cons_succ]
  refine wl_pure (v := .pointer (some ⟨b2, 8, none⟩)) (fun W => run_field_of rfl rfl (fa_R2 b2 W)) rfl ?_
  simp only [Act.put, List.setIfInBounds_toArray, List.set_cons_zero, List.set_cons_succ]
  refine wl_part hM4 2 (v := numV Z2) (sub := elR Z2) rfl rfl rfl rfl rfl rowNu rfl ?_
  simp only [Act.put, List.setIfInBounds_toArray, List.set_cons_zero, List.set_cons_succ]
  obtain ⟨v1, ev1⟩ : ∃ x, x = Z1 * Z2 % PN := ⟨_, rfl⟩
  have pv1 : v1 < PN := by rw [ev1]; exact Nat.mod_lt _ PN_pos
  have Kv1 := fun W => rmul' Z1 Z2 W hZ1 hZ2
  simp only [← ev1] at Kv1
  refine wl_call hM4 (args := #[numV Z1, numV Z2]) (v := numV v1) (fun W => run_call_fn W (enters_of Try.func43 rfl rfl) rfl (by simp [Act.eval])) (Kv1 W4) rfl fun W5 hM5 => ?_
  simp only [Act.put, List.setIfInBounds_toArray, List.set_cons_zero, List.set_cons_succ]
  refine wl_new hM5 (f := fun b => .pointer (some ⟨b, 0, none⟩)) (ob := .cells z4 24 (0, 0)) (fun W => run_alloc_of rfl (al_Nu W)) rfl fun b5 W6 hM6 => ?_
  simp only [Act.put, List.setIfInBounds_toArray, List.set_cons_zero, List.set_cons_succ]
  refine wl_set hM6 0 (cs := (elR v1)) rfl rfl rfl rfl rowNu rfl (one_el v1) rfl rfl fun W7 hM7 => ?_
  simp only [List.set_cons_zero, List.set_cons_succ] at hM7
  refine wpList_nil ?_
  (go_step; go_step; go_step; refine wp_region_lit ?_)
  refine wl_row hM7 0 (v := numV v1) rfl rfl rfl rfl rowNu rfl ?_
  simp only [Act.put, List.setIfInBounds_toArray, List.set_cons_zero, List.set_cons_succ]
  refine wl_row hM7 0 (v := numV v1) rfl rfl rfl rfl rowNu rfl ?_
  simp only [Act.put, List.setIfInBounds_toArray, List.set_cons_zero, List.set_cons_succ]
  obtain ⟨v2, ev2⟩ : ∃ x, x = v1 * v1 % PN := ⟨_, rfl⟩
  have pv2 : v2 < PN := by rw [ev2]; exact Nat.mod_lt _ PN_pos
  have Kv2 := fun W => rmul' v1 v1 W pv1 pv1
  simp only [← ev2] at Kv2
  refine wl_call hM7 (args := #[numV v1, numV v1]) (v := numV v2) (fun W => run_call_fn W (enters_of Try.func43 rfl rfl) rfl (by simp [Act.eval])) (Kv2 W7) rfl fun W8 hM8 => ?_
  simp only [Act.put, List.setIfInBounds_toArray, List.set_cons_zero, List.set_cons_succ]
  refine wl_new hM8 (f := fun b => .pointer (some ⟨b, 0, none⟩)) (ob := .cells z4 24 (0, 0)) (fun W => run_alloc_of rfl (al_Nu W)) rfl fun b6 W9 hM9 => ?_
  simp only [Act.put, List.setIfInBounds_toArray, List.set_cons_zero, List.set_cons_succ]
  refine wl_set hM9 0 (cs := (elR v2)) rfl rfl rfl rfl rowNu rfl (one_el v2) rfl rfl fun W10 hM10 => ?_
  simp only [List.set_cons_zero, List.set_cons_succ] at hM10
  refine wpList_nil ?_
  (go_step; go_step; go_step; refine wp_region_inw 12 HMIX.out (by decide) (by kernel_rfl) (by kernel_rfl) ?_)
  refine inw_pure (v := .pointer (some ⟨b1, 0, none⟩)) (fun W => run_field_of rfl rfl (fa_R0 b1 W)) rfl rfl ?_; simp only [Act.put, List.setIfInBounds_toArray, List.set_cons_zero, List.set_cons_succ]
  refine inw_part hM10 5 (v := numV X1) (sub := elR X1) rfl rfl rfl rfl rfl rowNu rfl rfl ?_; simp only [Act.put, List.setIfInBounds_toArray, List.set_cons_zero, List.set_cons_succ]
  refine inw_pure (v := .pointer (some ⟨b2, 0, none⟩)) (fun W => run_field_of rfl rfl (fa_R0 b2 W)) rfl rfl ?_; simp only [Act.put, List.setIfInBounds_toArray, List.set_cons_zero, List.set_cons_succ]
  refine inw_part hM10 4 (v := numV X2) (sub := elR X2) rfl rfl rfl rfl rfl rowNu rfl rfl ?_; simp only [Act.put, List.setIfInBounds_toArray, List.set_cons_zero, List.set_cons_succ]
  obtain ⟨v3, ev3⟩ : ∃ x, x = X1 * X2 % PN := ⟨_, rfl⟩
  have pv3 : v3 < PN := by rw [ev3]; exact Nat.mod_lt _ PN_pos
  have Kv3 := fun W => rmul' X1 X2 W hX1 hX2
  simp only [← ev3] at Kv3
  refine inw_callV (args := #[numV X1, numV X2]) (v := numV v3) (fun W => run_call_fn W (enters_of Try.func43 rfl rfl) rfl (by simp [Act.eval])) (fun W _ => Kv3 W) rfl rfl ?_; simp only [Act.put, List.setIfInBounds_toArray, List.set_cons_zero, List.set_cons_succ]
  refine inw_pure (v := .pointer (some ⟨b1, 4, none⟩)) (fun W => run_field_of rfl rfl (fa_R1 b1 W)) rfl rfl ?_; simp only [Act.put, List.setIfInBounds_toArray, List.set_cons_zero, List.set_cons_succ]
  refine inw_part hM10 5 (v := numV Y1) (sub := elR Y1) rfl rfl rfl rfl rfl rowNu rfl rfl ?_; simp only [Act.put, List.setIfInBounds_toArray, List.set_cons_zero, List.set_cons_succ]
  refine inw_pure (v := .pointer (some ⟨b2, 4, none⟩)) (fun W => run_field_of rfl rfl (fa_R1 b2 W)) rfl rfl ?_; simp only [Act.put, List.setIfInBounds_toArray, List.set_cons_zero, List.set_cons_succ]
  refine inw_part hM10 4 (v := numV Y2) (sub := elR Y2) rfl rfl rfl rfl rfl rowNu rfl rfl ?_; simp only [Act.put, List.setIfInBounds_toArray, List.set_cons_zero, List.set_cons_succ]
  obtain ⟨v4, ev4⟩ : ∃ x, x = Y1 * Y2 % PN := ⟨_, rfl⟩
  have pv4 : v4 < PN := by rw [ev4]; exact Nat.mod_lt _ PN_pos
  have Kv4 := fun W => rmul' Y1 Y2 W hY1 hY2
  simp only [← ev4] at Kv4
  refine inw_callV (args := #[numV Y1, numV Y2]) (v := numV v4) (fun W => run_call_fn W (enters_of Try.func43 rfl rfl) rfl (by simp [Act.eval])) (fun W _ => Kv4 W) rfl rfl ?_; simp only [Act.put, List.setIfInBounds_toArray, List.set_cons_zero, List.set_cons_succ]
  refine inw_new (.cells z4 24 (0, 0)) rfl rfl (fun A W => run_alloc_of rfl (al_Nu W)) ?_; simp only [List.nil_append, List.cons_append]
  refine inw_new (.cells z4 24 (0, 0)) rfl rfl (fun A W => run_alloc_of rfl (al_Nu W)) ?_; simp only [List.nil_append, List.cons_append]
  refine inw_fin fun d os => ?_
  refine given_new (t := 9) rfl fun b7 lb7 gb7 => ?_
  refine given_new (t := 10) rfl fun b8 lb8 gb8 => ?_
  refine given_nil fun hap => ?_
  simp only [Act.put, List.setIfInBounds_toArray, List.set_cons_zero, List.set_cons_succ] at hap ⊢
  have nb7b8 : b7 ≠ b8 := hap.ne 10 11 rfl rfl rfl rfl rfl rfl rfl
  have hM11 := hM10.news2 (below_regrown W10 d os) lb7 gb7 lb8 gb8 nb7b8
  clear hap lb7 gb7 lb8 gb8 nb7b8
  generalize grow (redrawn W10 d) os = W11 at hM11 ⊢
  change wpAny _ _ _ _ 2 _ _ _
  refine any_set (n := 12) (by kernel_rfl) rfl hM11 0 (cs := (elR v3)) rfl rfl rfl rfl rowNu rfl (one_el v3) rfl rfl fun W12 hM12 => ?_
  simp only [List.set_cons_zero, List.set_cons_succ] at hM12
  refine any_set (n := 13) (by kernel_rfl) rfl hM12 1 (cs := (elR v4)) rfl rfl rfl rfl rowNu rfl (one_el v4) rfl rfl fun W13 hM13 => ?_
  simp only [List.set_cons_zero, List.set_cons_succ] at hM13
  refine wpAny_done (by kernel_rfl) ?_ _
  (go_step; go_step; go_step; refine wp_region_inw 6 HMIX.out (by decide) (by kernel_rfl) (by kernel_rfl) ?_)
  refine inw_row hM13 5 (v := numV dN) rfl rfl rfl rfl rowNu rfl rfl ?_; simp only [Act.put, List.setIfInBounds_toArray, List.set_cons_zero, List.set_cons_succ]
  refine inw_row hM13 0 (v := numV v3) rfl rfl rfl rfl rowNu rfl rfl ?_; simp only [Act.put, List.setIfInBounds_toArray, List.set_cons_zero, List.set_cons_succ]
  refine inw_row hM13 1 (v := numV v4) rfl rfl rfl rfl rowNu rfl rfl ?_; simp only [Act.put, List.setIfInBounds_toArray, List.set_cons_zero, List.set_cons_succ]
  obtain ⟨v5, ev5⟩ : ∃ x, x = v3 * v4 % PN := ⟨_, rfl⟩
  have pv5 : v5 < PN := by rw [ev5]; exact Nat.mod_lt _ PN_pos
  have Kv5 := fun W => rmul' v3 v4 W pv3 pv4
  simp only [← ev5] at Kv5
  refine inw_callV (args := #[numV v3, numV v4]) (v := numV v5) (fun W => run_call_fn W (enters_of Try.func43 rfl rfl) rfl (by simp [Act.eval])) (fun W _ => Kv5 W) rfl rfl ?_; simp only [Act.put, List.setIfInBounds_toArray, List.set_cons_zero, List.set_cons_succ]
  obtain ⟨v6, ev6⟩ : ∃ x, x = dN * v5 % PN := ⟨_, rfl⟩
  have pv6 : v6 < PN := by rw [ev6]; exact Nat.mod_lt _ PN_pos
  have Kv6 := fun W => rmul' dN v5 W d_is.2 pv5
  simp only [← ev6] at Kv6
  refine inw_callV (args := #[numV dN, numV v5]) (v := numV v6) (fun W => run_call_fn W (enters_of Try.func43 rfl rfl) rfl (by simp [Act.eval])) (fun W _ => Kv6 W) rfl rfl ?_; simp only [Act.put, List.setIfInBounds_toArray, List.set_cons_zero, List.set_cons_succ]
  refine inw_new (.cells z4 24 (0, 0)) rfl rfl (fun A W => run_alloc_of rfl (al_Nu W)) ?_; simp only [List.nil_append, List.cons_append]
  refine inw_fin fun d os => ?_
  refine given_new (t := 11) rfl fun b9 lb9 gb9 => ?_
  refine given_nil fun hap => ?_
  simp only [Act.put, List.setIfInBounds_toArray, List.set_cons_zero, List.set_cons_succ] at hap ⊢
  have hM14 := hM13.news1 (below_regrown W13 d os) lb9 gb9 
  clear hap lb9 gb9
  generalize grow (redrawn W13 d) os = W14 at hM14 ⊢
  change wpAny _ _ _ _ 1 _ _ _
  refine any_set (n := 6) (by kernel_rfl) rfl hM14 0 (cs := (elR v6)) rfl rfl rfl rfl rowNu rfl (one_el v6) rfl rfl fun W15 hM15 => ?_
  simp only [List.set_cons_zero, List.set_cons_succ] at hM15
  refine wpAny_done (by kernel_rfl) ?_ _
  (go_step; go_step; go_step; refine wp_region_inw 12 HMIX.out (by decide) (by kernel_rfl) (by kernel_rfl) ?_)
  refine inw_pure (v := .pointer (some ⟨b1, 0, none⟩)) (fun W => run_field_of rfl rfl (fa_R0 b1 W)) rfl rfl ?_; simp only [Act.put, List.setIfInBounds_toArray, List.set_cons_zero, List.set_cons_succ]
  refine inw_part hM15 8 (v := numV X1) (sub := elR X1) rfl rfl rfl rfl rfl rowNu rfl rfl ?_; simp only [Act.put, List.setIfInBounds_toArray, List.set_cons_zero, List.set_cons_succ]
  refine inw_pure (v := .pointer (some ⟨b2, 4, none⟩)) (fun W => run_field_of rfl rfl (fa_R1 b2 W)) rfl rfl ?_; simp only [Act.put, List.setIfInBounds_toArray, List.set_cons_zero, List.set_cons_succ]
  refine inw_part hM15 7 (v := numV Y2) (sub := elR Y2) rfl rfl rfl rfl rfl rowNu rfl rfl ?_; simp only [Act.put, List.setIfInBounds_toArray, List.set_cons_zero, List.set_cons_succ]
  obtain ⟨v7, ev7⟩ : ∃ x, x = X1 * Y2 % PN := ⟨_, rfl⟩
  have pv7 : v7 < PN := by rw [ev7]; exact Nat.mod_lt _ PN_pos
  have Kv7 := fun W => rmul' X1 Y2 W hX1 hY2
  simp only [← ev7] at Kv7
  refine inw_callV (args := #[numV X1, numV Y2]) (v := numV v7) (fun W => run_call_fn W (enters_of Try.func43 rfl rfl) rfl (by simp [Act.eval])) (fun W _ => Kv7 W) rfl rfl ?_; simp only [Act.put, List.setIfInBounds_toArray, List.set_cons_zero, List.set_cons_succ]
  refine inw_pure (v := .pointer (some ⟨b1, 4, none⟩)) (fun W => run_field_of rfl rfl (fa_R1 b1 W)) rfl rfl ?_; simp only [Act.put, List.setIfInBounds_toArray, List.set_cons_zero, List.set_cons_succ]
  refine inw_part hM15 8 (v := numV Y1) (sub := elR Y1) rfl rfl rfl rfl rfl rowNu rfl rfl ?_; simp only [Act.put, List.setIfInBounds_toArray, List.set_cons_zero, List.set_cons_succ]
  refine inw_pure (v := .pointer (some ⟨b2, 0, none⟩)) (fun W => run_field_of rfl rfl (fa_R0 b2 W)) rfl rfl ?_; simp only [Act.put, List.setIfInBounds_toArray, List.set_cons_zero, List.set_cons_succ]
  refine inw_part hM15 7 (v := numV X2) (sub := elR X2) rfl rfl rfl rfl rfl rowNu rfl rfl ?_; simp only [Act.put, List.setIfInBounds_toArray, List.set_cons_zero, List.set_cons_succ]
  obtain ⟨v8, ev8⟩ : ∃ x, x = Y1 * X2 % PN := ⟨_, rfl⟩
  have pv8 : v8 < PN := by rw [ev8]; exact Nat.mod_lt _ PN_pos
  have Kv8 := fun W => rmul' Y1 X2 W hY1 hX2
  simp only [← ev8] at Kv8
  refine inw_callV (args := #[numV Y1, numV X2]) (v := numV v8) (fun W => run_call_fn W (enters_of Try.func43 rfl rfl) rfl (by simp [Act.eval])) (fun W _ => Kv8 W) rfl rfl ?_; simp only [Act.put, List.setIfInBounds_toArray, List.set_cons_zero, List.set_cons_succ]
  obtain ⟨v9, ev9⟩ : ∃ x, x = (v7 + v8) % PN := ⟨_, rfl⟩
  have pv9 : v9 < PN := by rw [ev9]; exact Nat.mod_lt _ PN_pos
  have Kv9 := fun W => radd' v7 v8 W pv7 pv8
  simp only [← ev9] at Kv9
  refine inw_callV (args := #[numV v7, numV v8]) (v := numV v9) (fun W => run_call_fn W (enters_of Try.func44 rfl rfl) rfl (by simp [Act.eval])) (fun W _ => Kv9 W) rfl rfl ?_; simp only [Act.put, List.setIfInBounds_toArray, List.set_cons_zero, List.set_cons_succ]
  refine inw_new (.cells z4 24 (0, 0)) rfl rfl (fun A W => run_alloc_of rfl (al_Nu W)) ?_; simp only [List.nil_append, List.cons_append]
  refine inw_fin fun d os => ?_
  refine given_new (t := 12) rfl fun b10 lb10 gb10 => ?_
  refine given_nil fun hap => ?_
  simp only [Act.put, List.setIfInBounds_toArray, List.set_cons_zero, List.set_cons_succ] at hap ⊢
  have hM16 := hM15.news1 (below_regrown W15 d os) lb10 gb10 
  clear hap lb10 gb10
  generalize grow (redrawn W15 d) os = W16 at hM16 ⊢
  change wpAny _ _ _ _ 1 _ _ _
  refine any_set (n := 12) (by kernel_rfl) rfl hM16 0 (cs := (elR v9)) rfl rfl rfl rfl rowNu rfl (one_el v9) rfl rfl fun W17 hM17 => ?_
  simp only [List.set_cons_zero, List.set_cons_succ] at hM17
  refine wpAny_done (by kernel_rfl) ?_ _
  (go_step; go_step; go_step; refine wp_region_inw 8 HMIX.out (by decide) (by kernel_rfl) (by kernel_rfl) ?_)
  refine inw_row hM17 4 (v := numV v2) rfl rfl rfl rfl rowNu rfl rfl ?_; simp only [Act.put, List.setIfInBounds_toArray, List.set_cons_zero, List.set_cons_succ]
  refine inw_row hM17 1 (v := numV v6) rfl rfl rfl rfl rowNu rfl rfl ?_; simp only [Act.put, List.setIfInBounds_toArray, List.set_cons_zero, List.set_cons_succ]
  obtain ⟨v10, ev10⟩ : ∃ x, x = (v2 + PN - v6) % PN := ⟨_, rfl⟩
  have pv10 : v10 < PN := by rw [ev10]; exact Nat.mod_lt _ PN_pos
  have Kv10 := fun W => rsub' v2 v6 W pv2 pv6
  simp only [← ev10] at Kv10
  refine inw_callV (args := #[numV v2, numV v6]) (v := numV v10) (fun W => run_call_fn W (enters_of Try.func36 rfl rfl) rfl (by simp [Act.eval])) (fun W _ => Kv10 W) rfl rfl ?_; simp only [Act.put, List.setIfInBounds_toArray, List.set_cons_zero, List.set_cons_succ]
  refine inw_row hM17 4 (v := numV v2) rfl rfl rfl rfl rowNu rfl rfl ?_; simp only [Act.put, List.setIfInBounds_toArray, List.set_cons_zero, List.set_cons_succ]
  refine inw_row hM17 1 (v := numV v6) rfl rfl rfl rfl rowNu rfl rfl ?_; simp only [Act.put, List.setIfInBounds_toArray, List.set_cons_zero, List.set_cons_succ]
  obtain ⟨v11, ev11⟩ : ∃ x, x = (v2 + v6) % PN := ⟨_, rfl⟩
  have pv11 : v11 < PN := by rw [ev11]; exact Nat.mod_lt _ PN_pos
  have Kv11 := fun W => radd' v2 v6 W pv2 pv6
  simp only [← ev11] at Kv11
  refine inw_callV (args := #[numV v2, numV v6]) (v := numV v11) (fun W => run_call_fn W (enters_of Try.func44 rfl rfl) rfl (by simp [Act.eval])) (fun W _ => Kv11 W) rfl rfl ?_; simp only [Act.put, List.setIfInBounds_toArray, List.set_cons_zero, List.set_cons_succ]
  refine inw_new (.cells z4 24 (0, 0)) rfl rfl (fun A W => run_alloc_of rfl (al_Nu W)) ?_; simp only [List.nil_append, List.cons_append]
  refine inw_new (.cells z4 24 (0, 0)) rfl rfl (fun A W => run_alloc_of rfl (al_Nu W)) ?_; simp only [List.nil_append, List.cons_append]
  refine inw_fin fun d os => ?_
  refine given_new (t := 13) rfl fun b11 lb11 gb11 => ?_
  refine given_new (t := 14) rfl fun b12 lb12 gb12 => ?_
  refine given_nil fun hap => ?_
  simp only [Act.put, List.setIfInBounds_toArray, List.set_cons_zero, List.set_cons_succ] at hap ⊢
  have nb11b12 : b11 ≠ b12 := hap.ne 6 7 rfl rfl rfl rfl rfl rfl rfl
  have hM18 := hM17.news2 (below_regrown W17 d os) lb11 gb11 lb12 gb12 nb11b12
  clear hap lb11 gb11 lb12 gb12 nb11b12
  generalize grow (redrawn W17 d) os = W18 at hM18 ⊢
  change wpAny _ _ _ _ 2 _ _ _
  refine any_set (n := 8) (by kernel_rfl) rfl hM18 0 (cs := (elR v10)) rfl rfl rfl rfl rowNu rfl (one_el v10) rfl rfl fun W19 hM19 => ?_
  simp only [List.set_cons_zero, List.set_cons_succ] at hM19
  refine any_set (n := 9) (by kernel_rfl) rfl hM19 1 (cs := (elR v11)) rfl rfl rfl rfl rowNu rfl (one_el v11) rfl rfl fun W20 hM20 => ?_
  simp only [List.set_cons_zero, List.set_cons_succ] at hM20
  refine wpAny_done (by kernel_rfl) ?_ _
  (go_step; go_step; go_step; refine wp_region_inw 16 HMIX.out (by decide) (by kernel_rfl) (by kernel_rfl) ?_)
  refine inw_row hM20 7 (v := numV v1) rfl rfl rfl rfl rowNu rfl rfl ?_; simp only [Act.put, List.setIfInBounds_toArray, List.set_cons_zero, List.set_cons_succ]
  refine inw_row hM20 2 (v := numV v9) rfl rfl rfl rfl rowNu rfl rfl ?_; simp only [Act.put, List.setIfInBounds_toArray, List.set_cons_zero, List.set_cons_succ]
  obtain ⟨v12, ev12⟩ : ∃ x, x = v1 * v9 % PN := ⟨_, rfl⟩
  have pv12 : v12 < PN := by rw [ev12]; exact Nat.mod_lt _ PN_pos
  have Kv12 := fun W => rmul' v1 v9 W pv1 pv9
  simp only [← ev12] at Kv12
  refine inw_callV (args := #[numV v1, numV v9]) (v := numV v12) (fun W => run_call_fn W (enters_of Try.func43 rfl rfl) rfl (by simp [Act.eval])) (fun W _ => Kv12 W) rfl rfl ?_; simp only [Act.put, List.setIfInBounds_toArray, List.set_cons_zero, List.set_cons_succ]
  refine inw_row hM20 0 (v := numV v10) rfl rfl rfl rfl rowNu rfl rfl ?_; simp only [Act.put, List.setIfInBounds_toArray, List.set_cons_zero, List.set_cons_succ]
  obtain ⟨v13, ev13⟩ : ∃ x, x = v12 * v10 % PN := ⟨_, rfl⟩
  have pv13 : v13 < PN := by rw [ev13]; exact Nat.mod_lt _ PN_pos
  have Kv13 := fun W => rmul' v12 v10 W pv12 pv10
  simp only [← ev13] at Kv13
  refine inw_callV (args := #[numV v12, numV v10]) (v := numV v13) (fun W => run_call_fn W (enters_of Try.func43 rfl rfl) rfl (by simp [Act.eval])) (fun W _ => Kv13 W) rfl rfl ?_; simp only [Act.put, List.setIfInBounds_toArray, List.set_cons_zero, List.set_cons_succ]
  refine inw_row hM20 7 (v := numV v1) rfl rfl rfl rfl rowNu rfl rfl ?_; simp only [Act.put, List.setIfInBounds_toArray, List.set_cons_zero, List.set_cons_succ]
  refine inw_row hM20 5 (v := numV v4) rfl rfl rfl rfl rowNu rfl rfl ?_; simp only [Act.put, List.setIfInBounds_toArray, List.set_cons_zero, List.set_cons_succ]
  refine inw_row hM20 4 (v := numV v3) rfl rfl rfl rfl rowNu rfl rfl ?_; simp only [Act.put, List.setIfInBounds_toArray, List.set_cons_zero, List.set_cons_succ]
  obtain ⟨v14, ev14⟩ : ∃ x, x = (v4 + v3) % PN := ⟨_, rfl⟩
  have pv14 : v14 < PN := by rw [ev14]; exact Nat.mod_lt _ PN_pos
  have Kv14 := fun W => radd' v4 v3 W pv4 pv3
  simp only [← ev14] at Kv14
  refine inw_callV (args := #[numV v4, numV v3]) (v := numV v14) (fun W => run_call_fn W (enters_of Try.func44 rfl rfl) rfl (by simp [Act.eval])) (fun W _ => Kv14 W) rfl rfl ?_; simp only [Act.put, List.setIfInBounds_toArray, List.set_cons_zero, List.set_cons_succ]
  obtain ⟨v15, ev15⟩ : ∃ x, x = v1 * v14 % PN := ⟨_, rfl⟩
  have pv15 : v15 < PN := by rw [ev15]; exact Nat.mod_lt _ PN_pos
  have Kv15 := fun W => rmul' v1 v14 W pv1 pv14
  simp only [← ev15] at Kv15
  refine inw_callV (args := #[numV v1, numV v14]) (v := numV v15) (fun W => run_call_fn W (enters_of Try.func43 rfl rfl) rfl (by simp [Act.eval])) (fun W _ => Kv15 W) rfl rfl ?_; simp only [Act.put, List.setIfInBounds_toArray, List.set_cons_zero, List.set_cons_succ]
  refine inw_row hM20 1 (v := numV v11) rfl rfl rfl rfl rowNu rfl rfl ?_; simp only [Act.put, List.setIfInBounds_toArray, List.set_cons_zero, List.set_cons_succ]
  obtain ⟨v16, ev16⟩ : ∃ x, x = v15 * v11 % PN := ⟨_, rfl⟩
  have pv16 : v16 < PN := by rw [ev16]; exact Nat.mod_lt _ PN_pos
  have Kv16 := fun W => rmul' v15 v11 W pv15 pv11
  simp only [← ev16] at Kv16
  refine inw_callV (args := #[numV v15, numV v11]) (v := numV v16) (fun W => run_call_fn W (enters_of Try.func43 rfl rfl) rfl (by simp [Act.eval])) (fun W _ => Kv16 W) rfl rfl ?_; simp only [Act.put, List.setIfInBounds_toArray, List.set_cons_zero, List.set_cons_succ]
  refine inw_row hM20 0 (v := numV v10) rfl rfl rfl rfl rowNu rfl rfl ?_; simp only [Act.put, List.setIfInBounds_toArray, List.set_cons_zero, List.set_cons_succ]
  refine inw_row hM20 1 (v := numV v11) rfl rfl rfl rfl rowNu rfl rfl ?_; simp only [Act.put, List.setIfInBounds_toArray, List.set_cons_zero, List.set_cons_succ]
  obtain ⟨v17, ev17⟩ : ∃ x, x = v10 * v11 % PN := ⟨_, rfl⟩
  have pv17 : v17 < PN := by rw [ev17]; exact Nat.mod_lt _ PN_pos
  have Kv17 := fun W => rmul' v10 v11 W pv10 pv11
  simp only [← ev17] at Kv17
  refine inw_callV (args := #[numV v10, numV v11]) (v := numV v17) (fun W => run_call_fn W (enters_of Try.func43 rfl rfl) rfl (by simp [Act.eval])) (fun W _ => Kv17 W) rfl rfl ?_; simp only [Act.put, List.setIfInBounds_toArray, List.set_cons_zero, List.set_cons_succ]
  refine inw_pure (v := rpV v13 v16 v17) (fun W => run_build_of rfl (by simp [Act.eval]) (bdR v13 v16 v17 W)) rfl rfl ?_; simp only [Act.put, List.setIfInBounds_toArray, List.set_cons_zero, List.set_cons_succ]
  refine inw_fin fun d os => ?_
  refine given_nil fun hap => ?_
  have hM21 := hM20.calls (below_regrown W20 d os)
  clear hap 
  generalize grow (redrawn W20 d) os = W21 at hM21 ⊢
  change wpAny _ _ _ _ 1 _ _ _
  refine any_set (n := 16) (by kernel_rfl) rfl hM21 8 (cs := ((rpL v13 v16 v17).toArray)) rfl rfl rfl rfl rowRp rfl (one_rp v13 v16 v17) rfl rfl fun W22 hM22 => ?_
  simp only [List.set_cons_zero, List.set_cons_succ] at hM22
  refine wpAny_done (by kernel_rfl) ?_ _
  (go_step; go_step; go_step; refine bodyPost_ret (v := rpV v13 v16 v17) (results_arr Try.results10 rfl (hM22.load 8 rfl rowRp)) rfl ⟨?_, hM22.below⟩)
  exact by rw [ev17, ev16, ev15, ev14, ev13, ev12, ev11, ev10, ev9, ev8, ev7, ev6, ev5, ev4, ev3, ev2, ev1]; simp only [amod]
end Go.Proofs.Ytigfoophimjgdaa
