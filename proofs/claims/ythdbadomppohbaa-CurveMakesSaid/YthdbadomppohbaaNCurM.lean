/- The law CurveMakes (layer 20): it returns true. -/
import Derived.Test.YthdbadomppohbaaMCl
namespace Go.Proofs.Ythdbadomppohbaa
set_option maxRecDepth 20000
set_option linter.unusedSimpArgs false
set_option linter.unusedVariables false
open Go.RowKit Go.Sort
theorem ris_yes (X Y : Nat) (hX : X < PN) (hY : Y < PN) (h : On (fz X, fz Y)) (w : World) : Calls Try.prog 9 #[numV X, numV Y] w fun E w' => E = .returned (.bool true) ∧ Below w.heap.size w w' := by
  have hc := ris_any X Y hX hY w
  rw [(isB_on X Y).2 h] at hc
  exact hc
theorem ris_no (X Y : Nat) (hX : X < PN) (hY : Y < PN) (h : ¬ On (fz X, fz Y)) (w : World) : Calls Try.prog 9 #[numV X, numV Y] w fun E w' => E = .returned (.bool false) ∧ Below w.heap.size w w' := by
  have hc := ris_any X Y hX hY w
  rw [Bool.eq_false_iff.2 (fun e => h ((isB_on X Y).1 e))] at hc
  exact hc
set_option maxRecDepth 20000 in
set_option maxHeartbeats 8000000 in
theorem makes_yes (A B : Nat) (k0 : Int) (w : World) (hA : A < B64 ^ 4) (hB : B < B64 ^ 4) (wk : (Lit.int .u32 k0).wf = true) (hOn' : On (fz (A % PN), fz (B % PN))) : Calls Try.prog 3 #[numV A, numV B, .int .u32 k0] w fun e w' => e = .returned (.bool true) ∧ Below w.heap.size w w' := by
  obtain ⟨k, rfl, hk⟩ := u32_nat k0 wk
  clear wk
  obtain ⟨X, eX⟩ : ∃ x, x = A % PN := ⟨_, rfl⟩
  obtain ⟨Y, eY⟩ : ∃ x, x = B % PN := ⟨_, rfl⟩
  have hX : X < PN := by rw [eX]; exact md _
  have hY : Y < PN := by rw [eY]; exact md _
  have hmA := fun w => rmod_any A w hA
  have hmB := fun w => rmod_any B w hB
  have heA := fun w => el_any A w hA
  have heB := fun w => el_any B w hB
  simp only [← eX, ← eY] at hmA hmB heA heB
  have hOn := hOn'
  rw [← eX, ← eY] at hOn
  clear eX eY hOn'
  obtain ⟨ak, bk, hak, hbk, Kbk⟩ := both_ex k hk
  have Kbk := Lib.hid Kbk
  obtain ⟨pk, epk⟩ : ∃ p, p = timesE k baseE := ⟨_, rfl⟩
  rw [← epk] at hak hbk
  have HMIX := Lib.hid (show Try.prog.follows .mixedOrders = true by kernel_rfl)
  go_enter Try.func3, Try.ntmps3
  have hM0 := Mem.start w
  (first | (refine wp_region_lit ?_) | (go_step; (first | (refine wp_region_lit ?_) | (go_step; (first | (refine wp_region_lit ?_) | (go_step; (first | (refine wp_region_lit ?_) | (go_step; (first | (refine wp_region_lit ?_) | (go_step; (first | (refine wp_region_lit ?_) | (go_step; (first | (refine wp_region_lit ?_) | (go_step; (refine wp_region_lit ?_)))))))))))))))
  refine wl_new hM0 (f := fun b => .pointer (some ⟨b, 0, none⟩)) (ob := .cells (elR A) 23 (0, 0)) (fun W => run_box_of rfl rfl (bx_Nu A W)) rfl fun b1 W1 hM1 => ?_
  simp only [Act.put, List.setIfInBounds_toArray, List.set_cons_zero, List.set_cons_succ]
  refine wl_new hM1 (f := fun b => .pointer (some ⟨b, 0, none⟩)) (ob := .cells (elR B) 23 (0, 0)) (fun W => run_box_of rfl rfl (bx_Nu B W)) rfl fun b2 W2 hM2 => ?_
  simp only [Act.put, List.setIfInBounds_toArray, List.set_cons_zero, List.set_cons_succ]
  refine wl_pure (v := .bool false) (fun _ => rfl) rfl ?_
  simp only [Act.put, List.setIfInBounds_toArray, List.set_cons_zero, List.set_cons_succ]
  refine wpList_nil ?_
  (first | (refine wp_region_inw 6 HMIX.out (by decide) (by kernel_rfl) (by kernel_rfl) ?_) | (go_step; (first | (refine wp_region_inw 6 HMIX.out (by decide) (by kernel_rfl) (by kernel_rfl) ?_) | (go_step; (first | (refine wp_region_inw 6 HMIX.out (by decide) (by kernel_rfl) (by kernel_rfl) ?_) | (go_step; (first | (refine wp_region_inw 6 HMIX.out (by decide) (by kernel_rfl) (by kernel_rfl) ?_) | (go_step; (first | (refine wp_region_inw 6 HMIX.out (by decide) (by kernel_rfl) (by kernel_rfl) ?_) | (go_step; (first | (refine wp_region_inw 6 HMIX.out (by decide) (by kernel_rfl) (by kernel_rfl) ?_) | (go_step; (first | (refine wp_region_inw 6 HMIX.out (by decide) (by kernel_rfl) (by kernel_rfl) ?_) | (go_step; (refine wp_region_inw 6 HMIX.out (by decide) (by kernel_rfl) (by kernel_rfl) ?_)))))))))))))))
  refine inw_row hM2 1 (v := numV A) rfl rfl rfl rfl rowNu rfl rfl ?_; simp only [Act.put, List.setIfInBounds_toArray, List.set_cons_zero, List.set_cons_succ]
  refine inw_callV (args := #[numV A]) (v := numV X) (fun W => run_call_fn W (enters_of Try.func6 rfl rfl) rfl (by simp [Act.eval])) (fun W _ => hmA W) rfl rfl ?_; simp only [Act.put, List.setIfInBounds_toArray, List.set_cons_zero, List.set_cons_succ]
  refine inw_row hM2 0 (v := numV B) rfl rfl rfl rfl rowNu rfl rfl ?_; simp only [Act.put, List.setIfInBounds_toArray, List.set_cons_zero, List.set_cons_succ]
  refine inw_callV (args := #[numV B]) (v := numV Y) (fun W => run_call_fn W (enters_of Try.func6 rfl rfl) rfl (by simp [Act.eval])) (fun W _ => hmB W) rfl rfl ?_; simp only [Act.put, List.setIfInBounds_toArray, List.set_cons_zero, List.set_cons_succ]
  refine inw_new (.cells z4 23 (0, 0)) rfl rfl (fun A W => run_alloc_of rfl (al_Nu W)) ?_; simp only [List.nil_append, List.cons_append]
  refine inw_new (.cells z4 23 (0, 0)) rfl rfl (fun A W => run_alloc_of rfl (al_Nu W)) ?_; simp only [List.nil_append, List.cons_append]
  refine inw_fin fun d os => ?_
  refine given_new (t := 7) rfl fun b3 lb3 gb3 => ?_
  refine given_new (t := 8) rfl fun b4 lb4 gb4 => ?_
  refine given_nil fun hap => ?_
  simp only [Act.put, List.setIfInBounds_toArray, List.set_cons_zero, List.set_cons_succ] at hap ⊢
  have nb3b4 : b3 ≠ b4 := hap.ne 4 5 rfl rfl rfl rfl rfl rfl rfl
  have hM3 := hM2.news2 (below_regrown W2 d os) lb3 gb3 lb4 gb4 nb3b4
  clear hap lb3 gb3 lb4 gb4 nb3b4
  generalize grow (redrawn W2 d) os = W3 at hM3 ⊢
  change wpAny _ _ _ _ 2 _ _ _
  refine any_set (n := 6) (by kernel_rfl) rfl hM3 0 (cs := (elR X)) rfl rfl rfl rfl rowNu rfl (one_el X) rfl rfl fun W4 hM4 => ?_
  simp only [List.set_cons_zero, List.set_cons_succ] at hM4
  refine any_set (n := 7) (by kernel_rfl) rfl hM4 1 (cs := (elR Y)) rfl rfl rfl rfl rowNu rfl (one_el Y) rfl rfl fun W5 hM5 => ?_
  simp only [List.set_cons_zero, List.set_cons_succ] at hM5
  refine wpAny_done (by kernel_rfl) ?_ _
  (first | (refine wp_region_inz 9 7 rfl rfl (steady_extract rfl) (by kernel_rfl) (by decide) HMIX.out (by decide) (by kernel_rfl) (by kernel_rfl) ?_) | (go_step; (first | (refine wp_region_inz 9 7 rfl rfl (steady_extract rfl) (by kernel_rfl) (by decide) HMIX.out (by decide) (by kernel_rfl) (by kernel_rfl) ?_) | (go_step; (first | (refine wp_region_inz 9 7 rfl rfl (steady_extract rfl) (by kernel_rfl) (by decide) HMIX.out (by decide) (by kernel_rfl) (by kernel_rfl) ?_) | (go_step; (first | (refine wp_region_inz 9 7 rfl rfl (steady_extract rfl) (by kernel_rfl) (by decide) HMIX.out (by decide) (by kernel_rfl) (by kernel_rfl) ?_) | (go_step; (first | (refine wp_region_inz 9 7 rfl rfl (steady_extract rfl) (by kernel_rfl) (by decide) HMIX.out (by decide) (by kernel_rfl) (by kernel_rfl) ?_) | (go_step; (first | (refine wp_region_inz 9 7 rfl rfl (steady_extract rfl) (by kernel_rfl) (by decide) HMIX.out (by decide) (by kernel_rfl) (by kernel_rfl) ?_) | (go_step; (first | (refine wp_region_inz 9 7 rfl rfl (steady_extract rfl) (by kernel_rfl) (by decide) HMIX.out (by decide) (by kernel_rfl) (by kernel_rfl) ?_) | (go_step; (refine wp_region_inz 9 7 rfl rfl (steady_extract rfl) (by kernel_rfl) (by decide) HMIX.out (by decide) (by kernel_rfl) (by kernel_rfl) ?_)))))))))))))))
  refine inw_row hM5 3 (v := numV A) rfl rfl rfl rfl rowNu rfl rfl ?_; simp only [Act.put, List.setIfInBounds_toArray, List.set_cons_zero, List.set_cons_succ]
  refine inw_callV (args := #[numV A]) (v := numV X) (fun W => run_call_fn W (enters_of Try.func8 rfl rfl) rfl (by simp [Act.eval])) (fun W _ => heA W) rfl rfl ?_; simp only [Act.put, List.setIfInBounds_toArray, List.set_cons_zero, List.set_cons_succ]
  refine inw_row hM5 2 (v := numV B) rfl rfl rfl rfl rowNu rfl rfl ?_; simp only [Act.put, List.setIfInBounds_toArray, List.set_cons_zero, List.set_cons_succ]
  refine inw_callV (args := #[numV B]) (v := numV Y) (fun W => run_call_fn W (enters_of Try.func8 rfl rfl) rfl (by simp [Act.eval])) (fun W _ => heB W) rfl rfl ?_; simp only [Act.put, List.setIfInBounds_toArray, List.set_cons_zero, List.set_cons_succ]
  refine inw_callV (args := #[numV X, numV Y]) (v := .tuple #[pv4 (X, Y, 1, X * Y % PN), .int .i64 0]) (fun W => run_call_fn W (enters_of Try.func7 rfl rfl) rfl (by simp [Act.eval])) (fun W _ => make_yes X Y hX hY hOn W) rfl rfl ?_; simp only [Act.put, List.setIfInBounds_toArray, List.set_cons_zero, List.set_cons_succ]
  refine inw_pure (v := .tuple #[pv4 (X, Y, 1, X * Y % PN), .int .i64 0]) (fun _ => rfl) rfl rfl ?_; simp only [Act.put, List.setIfInBounds_toArray, List.set_cons_zero, List.set_cons_succ]
  refine inw_pure (v := pv4 ((X, Y, 1, X * Y % PN))) (fun _ => rfl) rfl rfl ?_; simp only [Act.put, List.setIfInBounds_toArray, List.set_cons_zero, List.set_cons_succ]
  refine inw_pure (v := .int .i64 0) (fun _ => rfl) rfl rfl ?_; simp only [Act.put, List.setIfInBounds_toArray, List.set_cons_zero, List.set_cons_succ]
  refine inw_new (.cells z16 31 (0, 0)) rfl rfl (fun A W => run_alloc_of rfl (al_Pt W)) ?_; simp only [List.nil_append, List.cons_append]
  refine inw_fin fun d os => ?_
  refine given_new (t := 9) rfl fun b5 lb5 gb5 => ?_
  refine given_nil fun hap => ?_
  simp only [Act.put, List.setIfInBounds_toArray, List.set_cons_zero, List.set_cons_succ] at hap ⊢
  have hM6 := hM5.news1 (below_regrown W5 d os) lb5 gb5 
  clear hap lb5 gb5
  generalize grow (redrawn W5 d) os = W6 at hM6 ⊢
  change wpAny _ _ _ _ 2 _ _ _
  refine any_set (n := 9) (by kernel_rfl) rfl hM6 0 (cs := ((pc4 ((X, Y, 1, X * Y % PN))))) rfl rfl rfl rfl rowPt rfl (one_p4 _) rfl rfl fun W7 hM7 => ?_
  simp only [List.set_cons_zero, List.set_cons_succ] at hM7
  refine any_pure (n := 10) (v := .int .i64 0) (by kernel_rfl) rfl (fun _ => rfl) rfl rfl ?_
  simp only [Act.put, List.setIfInBounds_toArray, List.set_cons_zero, List.set_cons_succ]
  refine wpAny_done (by kernel_rfl) ?_ _
  refine NoPanic.normal ?_
  (first | (refine wp_region_inw 32 HMIX.out (by decide) (by kernel_rfl) (by kernel_rfl) ?_) | (go_step; (first | (refine wp_region_inw 32 HMIX.out (by decide) (by kernel_rfl) (by kernel_rfl) ?_) | (go_step; (first | (refine wp_region_inw 32 HMIX.out (by decide) (by kernel_rfl) (by kernel_rfl) ?_) | (go_step; (first | (refine wp_region_inw 32 HMIX.out (by decide) (by kernel_rfl) (by kernel_rfl) ?_) | (go_step; (first | (refine wp_region_inw 32 HMIX.out (by decide) (by kernel_rfl) (by kernel_rfl) ?_) | (go_step; (first | (refine wp_region_inw 32 HMIX.out (by decide) (by kernel_rfl) (by kernel_rfl) ?_) | (go_step; (first | (refine wp_region_inw 32 HMIX.out (by decide) (by kernel_rfl) (by kernel_rfl) ?_) | (go_step; (refine wp_region_inw 32 HMIX.out (by decide) (by kernel_rfl) (by kernel_rfl) ?_)))))))))))))))
  refine inw_pure (v := .int .i64 0) (fun _ => rfl) rfl rfl ?_; simp only [Act.put, List.setIfInBounds_toArray, List.set_cons_zero, List.set_cons_succ]
  refine inw_pure (v := .bool true) (fun W => run_eqint_of W rfl rfl rfl rfl) rfl rfl ?_; simp only [Act.put, List.setIfInBounds_toArray, List.set_cons_zero, List.set_cons_succ]
  refine inw_row hM7 1 (v := numV X) rfl rfl rfl rfl rowNu rfl rfl ?_; simp only [Act.put, List.setIfInBounds_toArray, List.set_cons_zero, List.set_cons_succ]
  refine inw_row hM7 2 (v := numV Y) rfl rfl rfl rfl rowNu rfl rfl ?_; simp only [Act.put, List.setIfInBounds_toArray, List.set_cons_zero, List.set_cons_succ]
  refine inw_callV (args := #[numV X, numV Y]) (v := .bool true) (fun W => run_call_fn W (enters_of Try.func9 rfl rfl) rfl (by simp [Act.eval])) (fun W _ => ris_yes X Y hX hY hOn W) rfl rfl ?_; simp only [Act.put, List.setIfInBounds_toArray, List.set_cons_zero, List.set_cons_succ]
  refine inw_pure (v := .bool false) (fun W => run_bin_of rfl rfl rfl (bin_neq_b true true _ _ W)) rfl rfl ?_; simp only [Act.put, List.setIfInBounds_toArray, List.set_cons_zero, List.set_cons_succ]
  refine inw_pure (v := .bool false) (fun _ => rfl) rfl rfl ?_; simp only [Act.put, List.setIfInBounds_toArray, List.set_cons_zero, List.set_cons_succ]
  refine inw_pure (v := .int .i64 0) (fun _ => rfl) rfl rfl ?_; simp only [Act.put, List.setIfInBounds_toArray, List.set_cons_zero, List.set_cons_succ]
  refine inw_pure (v := .bool false) (fun W => run_neint_of W rfl rfl rfl rfl) rfl rfl ?_; simp only [Act.put, List.setIfInBounds_toArray, List.set_cons_zero, List.set_cons_succ]
  refine inw_pure (v := .bool false) (fun _ => rfl) rfl rfl ?_; simp only [Act.put, List.setIfInBounds_toArray, List.set_cons_zero, List.set_cons_succ]
  refine inw_skip rfl rfl ?_; simp only [Act.put, List.setIfInBounds_toArray, List.set_cons_zero, List.set_cons_succ]
  refine inw_skip rfl rfl ?_; simp only [Act.put, List.setIfInBounds_toArray, List.set_cons_zero, List.set_cons_succ]
  refine inw_skip rfl rfl ?_; simp only [Act.put, List.setIfInBounds_toArray, List.set_cons_zero, List.set_cons_succ]
  refine inw_skip rfl rfl ?_; simp only [Act.put, List.setIfInBounds_toArray, List.set_cons_zero, List.set_cons_succ]
  refine inw_skip rfl rfl ?_; simp only [Act.put, List.setIfInBounds_toArray, List.set_cons_zero, List.set_cons_succ]
  refine inw_skip rfl rfl ?_; simp only [Act.put, List.setIfInBounds_toArray, List.set_cons_zero, List.set_cons_succ]
  refine inw_skip rfl rfl ?_; simp only [Act.put, List.setIfInBounds_toArray, List.set_cons_zero, List.set_cons_succ]
  refine inw_skip rfl rfl ?_; simp only [Act.put, List.setIfInBounds_toArray, List.set_cons_zero, List.set_cons_succ]
  refine inw_pure (v := .bool false) (fun _ => rfl) rfl rfl ?_; simp only [Act.put, List.setIfInBounds_toArray, List.set_cons_zero, List.set_cons_succ]
  refine inw_pure (v := .bool false) (fun _ => rfl) rfl rfl ?_; simp only [Act.put, List.setIfInBounds_toArray, List.set_cons_zero, List.set_cons_succ]
  refine inw_pure (v := .bool false) (fun _ => rfl) rfl rfl ?_; simp only [Act.put, List.setIfInBounds_toArray, List.set_cons_zero, List.set_cons_succ]
  refine inw_pure (v := .int .i64 0) (fun _ => rfl) rfl rfl ?_; simp only [Act.put, List.setIfInBounds_toArray, List.set_cons_zero, List.set_cons_succ]
  refine inw_pure (v := .bool true) (fun W => run_eqint_of W rfl rfl rfl rfl) rfl rfl ?_; simp only [Act.put, List.setIfInBounds_toArray, List.set_cons_zero, List.set_cons_succ]
  refine inw_pure (v := .bool true) (fun _ => rfl) rfl rfl ?_; simp only [Act.put, List.setIfInBounds_toArray, List.set_cons_zero, List.set_cons_succ]
  refine inw_row hM7 0 (v := pv4 ((X, Y, 1, X * Y % PN))) rfl rfl rfl rfl rowPt rfl rfl ?_; simp only [Act.put, List.setIfInBounds_toArray, List.set_cons_zero, List.set_cons_succ]
  refine inw_row hM7 1 (v := numV X) rfl rfl rfl rfl rowNu rfl rfl ?_; simp only [Act.put, List.setIfInBounds_toArray, List.set_cons_zero, List.set_cons_succ]
  refine inw_row hM7 2 (v := numV Y) rfl rfl rfl rfl rowNu rfl rfl ?_; simp only [Act.put, List.setIfInBounds_toArray, List.set_cons_zero, List.set_cons_succ]
  refine inw_callV (args := #[numV X, numV Y]) (v := pv3 ((X, Y, 1))) (fun W => run_call_fn W (enters_of Try.func13 rfl rfl) rfl (by simp [Act.eval])) (fun W _ => rmake_any X Y W) rfl rfl ?_; simp only [Act.put, List.setIfInBounds_toArray, List.set_cons_zero, List.set_cons_succ]
  refine inw_callV (args := #[pv4 ((X, Y, 1, X * Y % PN)), pv3 ((X, Y, 1))]) (v := .bool true) (fun W => run_call_fn W (enters_of Try.func12 rfl rfl) rfl (by simp [Act.eval])) (fun W _ => is_eq (ok4_at X Y (fz X, fz Y) hX hY hOn rfl rfl) (ok3_at X Y hX hY hOn) rfl W) rfl rfl ?_; simp only [Act.put, List.setIfInBounds_toArray, List.set_cons_zero, List.set_cons_succ]
  refine inw_pure (v := .bool false) (fun W => run_not_of W rfl rfl rfl) rfl rfl ?_; simp only [Act.put, List.setIfInBounds_toArray, List.set_cons_zero, List.set_cons_succ]
  refine inw_pure (v := .bool false) (fun _ => rfl) rfl rfl ?_; simp only [Act.put, List.setIfInBounds_toArray, List.set_cons_zero, List.set_cons_succ]
  refine inw_pure (v := .bool false) (fun _ => rfl) rfl rfl ?_; simp only [Act.put, List.setIfInBounds_toArray, List.set_cons_zero, List.set_cons_succ]
  refine inw_fin fun d os => ?_
  refine given_nil fun hap => ?_
  have hM8 := hM7.calls (below_regrown W7 d os)
  clear hap 
  generalize grow (redrawn W7 d) os = W8 at hM8 ⊢
  refine wpAny_done (by kernel_rfl) ?_ _
  (first | (refine wp_region_lit ?_) | (go_step; (first | (refine wp_region_lit ?_) | (go_step; (first | (refine wp_region_lit ?_) | (go_step; (first | (refine wp_region_lit ?_) | (go_step; (first | (refine wp_region_lit ?_) | (go_step; (first | (refine wp_region_lit ?_) | (go_step; (first | (refine wp_region_lit ?_) | (go_step; (refine wp_region_lit ?_)))))))))))))))
  refine wl_pure (v := .int .u32 (k : Int)) (fun _ => rfl) rfl ?_
  simp only [Act.put, List.setIfInBounds_toArray, List.set_cons_zero, List.set_cons_succ]
  refine wl_call hM8 (args := #[.int .u32 (k : Int)]) (v := .tuple #[pv4 ak, pv3 bk]) (fun W => run_call_fn W (enters_of Try.func14 rfl rfl) rfl (by simp [Act.eval])) (Kbk.out W8) rfl fun W9 hM9 => ?_
  simp only [Act.put, List.setIfInBounds_toArray, List.set_cons_zero, List.set_cons_succ]
  refine wl_pure (v := .tuple #[pv4 ak, pv3 bk]) (fun _ => rfl) rfl ?_
  simp only [Act.put, List.setIfInBounds_toArray, List.set_cons_zero, List.set_cons_succ]
  refine wl_pure (v := pv4 ak) (fun _ => rfl) rfl ?_
  simp only [Act.put, List.setIfInBounds_toArray, List.set_cons_zero, List.set_cons_succ]
  refine wl_pure (v := pv3 bk) (fun _ => rfl) rfl ?_
  simp only [Act.put, List.setIfInBounds_toArray, List.set_cons_zero, List.set_cons_succ]
  refine wl_new hM9 (f := fun b => .pointer (some ⟨b, 0, none⟩)) (ob := .cells z16 31 (0, 0)) (fun W => run_alloc_of rfl (al_Pt W)) rfl fun b6 W10 hM10 => ?_
  simp only [Act.put, List.setIfInBounds_toArray, List.set_cons_zero, List.set_cons_succ]
  refine wl_new hM10 (f := fun b => .pointer (some ⟨b, 0, none⟩)) (ob := .cells z12 41 (0, 0)) (fun W => run_alloc_of rfl (al_Rp W)) rfl fun b7 W11 hM11 => ?_
  simp only [Act.put, List.setIfInBounds_toArray, List.set_cons_zero, List.set_cons_succ]
  refine wl_set hM11 1 (cs := ((pc4 ak))) rfl rfl rfl rfl rowPt rfl (one_p4 _) rfl rfl fun W12 hM12 => ?_
  simp only [List.set_cons_zero, List.set_cons_succ] at hM12
  refine wl_set hM12 0 (cs := ((rpL bk.1 bk.2.1 bk.2.2).toArray)) rfl rfl rfl rfl rowRp rfl (one_rp _ _ _) rfl rfl fun W13 hM13 => ?_
  simp only [List.set_cons_zero, List.set_cons_succ] at hM13
  refine wpList_nil ?_
  (first | (refine wp_region_lit ?_) | (go_step; (first | (refine wp_region_lit ?_) | (go_step; (first | (refine wp_region_lit ?_) | (go_step; (first | (refine wp_region_lit ?_) | (go_step; (first | (refine wp_region_lit ?_) | (go_step; (first | (refine wp_region_lit ?_) | (go_step; (first | (refine wp_region_lit ?_) | (go_step; (refine wp_region_lit ?_)))))))))))))))
  refine wl_row hM13 1 (v := pv4 ak) rfl rfl rfl rfl rowPt rfl ?_
  simp only [Act.put, List.setIfInBounds_toArray, List.set_cons_zero, List.set_cons_succ]
  refine wl_row hM13 0 (v := pv3 bk) rfl rfl rfl rfl rowRp rfl ?_
  simp only [Act.put, List.setIfInBounds_toArray, List.set_cons_zero, List.set_cons_succ]
  refine wl_call hM13 (args := #[pv4 ak, pv3 bk]) (v := .bool true) (fun W => run_call_fn W (enters_of Try.func12 rfl rfl) rfl (by simp [Act.eval])) (is_eq hak hbk rfl W13) rfl fun W14 hM14 => ?_
  simp only [Act.put, List.setIfInBounds_toArray, List.set_cons_zero, List.set_cons_succ]
  refine wl_pure (v := .bool true) (fun _ => rfl) rfl ?_
  simp only [Act.put, List.setIfInBounds_toArray, List.set_cons_zero, List.set_cons_succ]
  refine wl_call hM14 (args := #[]) (v := pv4 base4) (fun W => run_call_fn W (enters_of Try.func15 rfl rfl) rfl (by simp [Act.eval])) (base4_any W14) rfl fun W15 hM15 => ?_
  simp only [Act.put, List.setIfInBounds_toArray, List.set_cons_zero, List.set_cons_succ]
  refine wl_call hM15 (args := #[]) (v := pv3 ((bX, bY, 1))) (fun W => run_call_fn W (enters_of Try.func16 rfl rfl) rfl (by simp [Act.eval])) (rbase_any W15) rfl fun W16 hM16 => ?_
  simp only [Act.put, List.setIfInBounds_toArray, List.set_cons_zero, List.set_cons_succ]
  refine wl_call hM16 (args := #[pv4 base4, pv3 ((bX, bY, 1))]) (v := .bool true) (fun W => run_call_fn W (enters_of Try.func12 rfl rfl) rfl (by simp [Act.eval])) (is_eq ok4_base ok3_base rfl W16) rfl fun W17 hM17 => ?_
  simp only [Act.put, List.setIfInBounds_toArray, List.set_cons_zero, List.set_cons_succ]
  refine wl_pure (v := .bool true) (fun _ => rfl) rfl ?_
  simp only [Act.put, List.setIfInBounds_toArray, List.set_cons_zero, List.set_cons_succ]
  refine wl_pure (v := .bool true) (fun _ => rfl) rfl ?_
  simp only [Act.put, List.setIfInBounds_toArray, List.set_cons_zero, List.set_cons_succ]
  refine wl_call hM17 (args := #[]) (v := pv4 zero4) (fun W => run_call_fn W (enters_of Try.func11 rfl rfl) rfl (by simp [Act.eval])) (zero4_any W17) rfl fun W18 hM18 => ?_
  simp only [Act.put, List.setIfInBounds_toArray, List.set_cons_zero, List.set_cons_succ]
  refine wl_call hM18 (args := #[]) (v := pv3 ((0, 1, 1))) (fun W => run_call_fn W (enters_of Try.func17 rfl rfl) rfl (by simp [Act.eval])) (rzero_any W18) rfl fun W19 hM19 => ?_
  simp only [Act.put, List.setIfInBounds_toArray, List.set_cons_zero, List.set_cons_succ]
  refine wl_call hM19 (args := #[pv4 zero4, pv3 ((0, 1, 1))]) (v := .bool true) (fun W => run_call_fn W (enters_of Try.func12 rfl rfl) rfl (by simp [Act.eval])) (is_eq ok4_zero ok3_zero rfl W19) rfl fun W20 hM20 => ?_
  simp only [Act.put, List.setIfInBounds_toArray, List.set_cons_zero, List.set_cons_succ]
  refine wl_pure (v := .bool true) (fun _ => rfl) rfl ?_
  simp only [Act.put, List.setIfInBounds_toArray, List.set_cons_zero, List.set_cons_succ]
  refine wl_pure (v := .bool true) (fun _ => rfl) rfl ?_
  simp only [Act.put, List.setIfInBounds_toArray, List.set_cons_zero, List.set_cons_succ]
  refine wl_pure (v := .agg z16) (fun W => run_build_of rfl (by simp [Act.eval]) (bdP0 W)) rfl ?_
  simp only [Act.put, List.setIfInBounds_toArray, List.set_cons_zero, List.set_cons_succ]
  refine wl_call hM20 (args := #[]) (v := pv3 ((0, 1, 1))) (fun W => run_call_fn W (enters_of Try.func17 rfl rfl) rfl (by simp [Act.eval])) (rzero_any W20) rfl fun W21 hM21 => ?_
  simp only [Act.put, List.setIfInBounds_toArray, List.set_cons_zero, List.set_cons_succ]
  refine wl_call hM21 (args := #[.agg z16, pv3 ((0, 1, 1))]) (v := .bool true) (fun W => run_call_fn W (enters_of Try.func12 rfl rfl) rfl (by simp [Act.eval])) (is_zero ok3_zero W21) rfl fun W22 hM22 => ?_
  simp only [Act.put, List.setIfInBounds_toArray, List.set_cons_zero, List.set_cons_succ]
  refine wl_pure (v := .bool true) (fun _ => rfl) rfl ?_
  simp only [Act.put, List.setIfInBounds_toArray, List.set_cons_zero, List.set_cons_succ]
  refine wl_pure (v := .bool true) (fun _ => rfl) rfl ?_
  simp only [Act.put, List.setIfInBounds_toArray, List.set_cons_zero, List.set_cons_succ]
  refine wl_call hM22 (args := #[]) (v := numV dN) (fun W => run_call_fn W (enters_of Try.func19 rfl rfl) rfl (by simp [Act.eval])) (curD_any W22) rfl fun W23 hM23 => ?_
  simp only [Act.put, List.setIfInBounds_toArray, List.set_cons_zero, List.set_cons_succ]
  refine wl_call hM23 (args := #[numV dN]) (v := numV dN) (fun W => run_call_fn W (enters_of Try.func18 rfl rfl) rfl (by simp [Act.eval])) (pnum_any dN W23) rfl fun W24 hM24 => ?_
  simp only [Act.put, List.setIfInBounds_toArray, List.set_cons_zero, List.set_cons_succ]
  refine wl_call hM24 (args := #[]) (v := numV dN) (fun W => run_call_fn W (enters_of Try.func20 rfl rfl) rfl (by simp [Act.eval])) (rD_any W24) rfl fun W25 hM25 => ?_
  simp only [Act.put, List.setIfInBounds_toArray, List.set_cons_zero, List.set_cons_succ]
  refine wl_pure (v := .bool true) (fun W => run_bin_of rfl rfl rfl (bin_eql_nu_self dN _ _ W d_is.2)) rfl ?_
  simp only [Act.put, List.setIfInBounds_toArray, List.set_cons_zero, List.set_cons_succ]
  refine wl_pure (v := .bool true) (fun _ => rfl) rfl ?_
  simp only [Act.put, List.setIfInBounds_toArray, List.set_cons_zero, List.set_cons_succ]
  refine wl_pure (v := .bool true) (fun _ => rfl) rfl ?_
  simp only [Act.put, List.setIfInBounds_toArray, List.set_cons_zero, List.set_cons_succ]
  refine wl_call hM25 (args := #[]) (v := .bool true) (fun W => run_call_fn W (enters_of Try.func21 rfl rfl) rfl (by simp [Act.eval])) (lives_any W25) rfl fun W26 hM26 => ?_
  simp only [Act.put, List.setIfInBounds_toArray, List.set_cons_zero, List.set_cons_succ]
  refine wl_pure (v := .bool true) (fun _ => rfl) rfl ?_
  simp only [Act.put, List.setIfInBounds_toArray, List.set_cons_zero, List.set_cons_succ]
  refine wl_pure (v := .bool true) (fun _ => rfl) rfl ?_
  simp only [Act.put, List.setIfInBounds_toArray, List.set_cons_zero, List.set_cons_succ]
  refine wpList_nil ?_
  (first | (refine bodyPost_ret (v := .bool true) (results_slot Try.results3 rfl) rfl ⟨?_, hM26.below⟩) | (go_step; (first | (refine bodyPost_ret (v := .bool true) (results_slot Try.results3 rfl) rfl ⟨?_, hM26.below⟩) | (go_step; (first | (refine bodyPost_ret (v := .bool true) (results_slot Try.results3 rfl) rfl ⟨?_, hM26.below⟩) | (go_step; (first | (refine bodyPost_ret (v := .bool true) (results_slot Try.results3 rfl) rfl ⟨?_, hM26.below⟩) | (go_step; (first | (refine bodyPost_ret (v := .bool true) (results_slot Try.results3 rfl) rfl ⟨?_, hM26.below⟩) | (go_step; (first | (refine bodyPost_ret (v := .bool true) (results_slot Try.results3 rfl) rfl ⟨?_, hM26.below⟩) | (go_step; (first | (refine bodyPost_ret (v := .bool true) (results_slot Try.results3 rfl) rfl ⟨?_, hM26.below⟩) | (go_step; (refine bodyPost_ret (v := .bool true) (results_slot Try.results3 rfl) rfl ⟨?_, hM26.below⟩)))))))))))))))
  exact rfl
set_option maxRecDepth 20000 in
set_option maxHeartbeats 8000000 in
theorem makes_no (A B : Nat) (k0 : Int) (w : World) (hA : A < B64 ^ 4) (hB : B < B64 ^ 4) (wk : (Lit.int .u32 k0).wf = true) (hOn' : ¬ On (fz (A % PN), fz (B % PN))) : Calls Try.prog 3 #[numV A, numV B, .int .u32 k0] w fun e w' => e = .returned (.bool true) ∧ Below w.heap.size w w' := by
  obtain ⟨k, rfl, hk⟩ := u32_nat k0 wk
  clear wk
  obtain ⟨X, eX⟩ : ∃ x, x = A % PN := ⟨_, rfl⟩
  obtain ⟨Y, eY⟩ : ∃ x, x = B % PN := ⟨_, rfl⟩
  have hX : X < PN := by rw [eX]; exact md _
  have hY : Y < PN := by rw [eY]; exact md _
  have hmA := fun w => rmod_any A w hA
  have hmB := fun w => rmod_any B w hB
  have heA := fun w => el_any A w hA
  have heB := fun w => el_any B w hB
  simp only [← eX, ← eY] at hmA hmB heA heB
  have hOn := hOn'
  rw [← eX, ← eY] at hOn
  clear eX eY hOn'
  obtain ⟨ak, bk, hak, hbk, Kbk⟩ := both_ex k hk
  have Kbk := Lib.hid Kbk
  obtain ⟨pk, epk⟩ : ∃ p, p = timesE k baseE := ⟨_, rfl⟩
  rw [← epk] at hak hbk
  have HMIX := Lib.hid (show Try.prog.follows .mixedOrders = true by kernel_rfl)
  go_enter Try.func3, Try.ntmps3
  have hM0 := Mem.start w
  (first | (refine wp_region_lit ?_) | (go_step; (first | (refine wp_region_lit ?_) | (go_step; (first | (refine wp_region_lit ?_) | (go_step; (first | (refine wp_region_lit ?_) | (go_step; (first | (refine wp_region_lit ?_) | (go_step; (first | (refine wp_region_lit ?_) | (go_step; (first | (refine wp_region_lit ?_) | (go_step; (refine wp_region_lit ?_)))))))))))))))
  refine wl_new hM0 (f := fun b => .pointer (some ⟨b, 0, none⟩)) (ob := .cells (elR A) 23 (0, 0)) (fun W => run_box_of rfl rfl (bx_Nu A W)) rfl fun b1 W1 hM1 => ?_
  simp only [Act.put, List.setIfInBounds_toArray, List.set_cons_zero, List.set_cons_succ]
  refine wl_new hM1 (f := fun b => .pointer (some ⟨b, 0, none⟩)) (ob := .cells (elR B) 23 (0, 0)) (fun W => run_box_of rfl rfl (bx_Nu B W)) rfl fun b2 W2 hM2 => ?_
  simp only [Act.put, List.setIfInBounds_toArray, List.set_cons_zero, List.set_cons_succ]
  refine wl_pure (v := .bool false) (fun _ => rfl) rfl ?_
  simp only [Act.put, List.setIfInBounds_toArray, List.set_cons_zero, List.set_cons_succ]
  refine wpList_nil ?_
  (first | (refine wp_region_inw 6 HMIX.out (by decide) (by kernel_rfl) (by kernel_rfl) ?_) | (go_step; (first | (refine wp_region_inw 6 HMIX.out (by decide) (by kernel_rfl) (by kernel_rfl) ?_) | (go_step; (first | (refine wp_region_inw 6 HMIX.out (by decide) (by kernel_rfl) (by kernel_rfl) ?_) | (go_step; (first | (refine wp_region_inw 6 HMIX.out (by decide) (by kernel_rfl) (by kernel_rfl) ?_) | (go_step; (first | (refine wp_region_inw 6 HMIX.out (by decide) (by kernel_rfl) (by kernel_rfl) ?_) | (go_step; (first | (refine wp_region_inw 6 HMIX.out (by decide) (by kernel_rfl) (by kernel_rfl) ?_) | (go_step; (first | (refine wp_region_inw 6 HMIX.out (by decide) (by kernel_rfl) (by kernel_rfl) ?_) | (go_step; (refine wp_region_inw 6 HMIX.out (by decide) (by kernel_rfl) (by kernel_rfl) ?_)))))))))))))))
  refine inw_row hM2 1 (v := numV A) rfl rfl rfl rfl rowNu rfl rfl ?_; simp only [Act.put, List.setIfInBounds_toArray, List.set_cons_zero, List.set_cons_succ]
  refine inw_callV (args := #[numV A]) (v := numV X) (fun W => run_call_fn W (enters_of Try.func6 rfl rfl) rfl (by simp [Act.eval])) (fun W _ => hmA W) rfl rfl ?_; simp only [Act.put, List.setIfInBounds_toArray, List.set_cons_zero, List.set_cons_succ]
  refine inw_row hM2 0 (v := numV B) rfl rfl rfl rfl rowNu rfl rfl ?_; simp only [Act.put, List.setIfInBounds_toArray, List.set_cons_zero, List.set_cons_succ]
  refine inw_callV (args := #[numV B]) (v := numV Y) (fun W => run_call_fn W (enters_of Try.func6 rfl rfl) rfl (by simp [Act.eval])) (fun W _ => hmB W) rfl rfl ?_; simp only [Act.put, List.setIfInBounds_toArray, List.set_cons_zero, List.set_cons_succ]
  refine inw_new (.cells z4 23 (0, 0)) rfl rfl (fun A W => run_alloc_of rfl (al_Nu W)) ?_; simp only [List.nil_append, List.cons_append]
  refine inw_new (.cells z4 23 (0, 0)) rfl rfl (fun A W => run_alloc_of rfl (al_Nu W)) ?_; simp only [List.nil_append, List.cons_append]
  refine inw_fin fun d os => ?_
  refine given_new (t := 7) rfl fun b3 lb3 gb3 => ?_
  refine given_new (t := 8) rfl fun b4 lb4 gb4 => ?_
  refine given_nil fun hap => ?_
  simp only [Act.put, List.setIfInBounds_toArray, List.set_cons_zero, List.set_cons_succ] at hap ⊢
  have nb3b4 : b3 ≠ b4 := hap.ne 4 5 rfl rfl rfl rfl rfl rfl rfl
  have hM3 := hM2.news2 (below_regrown W2 d os) lb3 gb3 lb4 gb4 nb3b4
  clear hap lb3 gb3 lb4 gb4 nb3b4
  generalize grow (redrawn W2 d) os = W3 at hM3 ⊢
  change wpAny _ _ _ _ 2 _ _ _
  refine any_set (n := 6) (by kernel_rfl) rfl hM3 0 (cs := (elR X)) rfl rfl rfl rfl rowNu rfl (one_el X) rfl rfl fun W4 hM4 => ?_
  simp only [List.set_cons_zero, List.set_cons_succ] at hM4
  refine any_set (n := 7) (by kernel_rfl) rfl hM4 1 (cs := (elR Y)) rfl rfl rfl rfl rowNu rfl (one_el Y) rfl rfl fun W5 hM5 => ?_
  simp only [List.set_cons_zero, List.set_cons_succ] at hM5
  refine wpAny_done (by kernel_rfl) ?_ _
  (first | (refine wp_region_inz 9 7 rfl rfl (steady_extract rfl) (by kernel_rfl) (by decide) HMIX.out (by decide) (by kernel_rfl) (by kernel_rfl) ?_) | (go_step; (first | (refine wp_region_inz 9 7 rfl rfl (steady_extract rfl) (by kernel_rfl) (by decide) HMIX.out (by decide) (by kernel_rfl) (by kernel_rfl) ?_) | (go_step; (first | (refine wp_region_inz 9 7 rfl rfl (steady_extract rfl) (by kernel_rfl) (by decide) HMIX.out (by decide) (by kernel_rfl) (by kernel_rfl) ?_) | (go_step; (first | (refine wp_region_inz 9 7 rfl rfl (steady_extract rfl) (by kernel_rfl) (by decide) HMIX.out (by decide) (by kernel_rfl) (by kernel_rfl) ?_) | (go_step; (first | (refine wp_region_inz 9 7 rfl rfl (steady_extract rfl) (by kernel_rfl) (by decide) HMIX.out (by decide) (by kernel_rfl) (by kernel_rfl) ?_) | (go_step; (first | (refine wp_region_inz 9 7 rfl rfl (steady_extract rfl) (by kernel_rfl) (by decide) HMIX.out (by decide) (by kernel_rfl) (by kernel_rfl) ?_) | (go_step; (first | (refine wp_region_inz 9 7 rfl rfl (steady_extract rfl) (by kernel_rfl) (by decide) HMIX.out (by decide) (by kernel_rfl) (by kernel_rfl) ?_) | (go_step; (refine wp_region_inz 9 7 rfl rfl (steady_extract rfl) (by kernel_rfl) (by decide) HMIX.out (by decide) (by kernel_rfl) (by kernel_rfl) ?_)))))))))))))))
  refine inw_row hM5 3 (v := numV A) rfl rfl rfl rfl rowNu rfl rfl ?_; simp only [Act.put, List.setIfInBounds_toArray, List.set_cons_zero, List.set_cons_succ]
  refine inw_callV (args := #[numV A]) (v := numV X) (fun W => run_call_fn W (enters_of Try.func8 rfl rfl) rfl (by simp [Act.eval])) (fun W _ => heA W) rfl rfl ?_; simp only [Act.put, List.setIfInBounds_toArray, List.set_cons_zero, List.set_cons_succ]
  refine inw_row hM5 2 (v := numV B) rfl rfl rfl rfl rowNu rfl rfl ?_; simp only [Act.put, List.setIfInBounds_toArray, List.set_cons_zero, List.set_cons_succ]
  refine inw_callV (args := #[numV B]) (v := numV Y) (fun W => run_call_fn W (enters_of Try.func8 rfl rfl) rfl (by simp [Act.eval])) (fun W _ => heB W) rfl rfl ?_; simp only [Act.put, List.setIfInBounds_toArray, List.set_cons_zero, List.set_cons_succ]
  refine inw_callV (args := #[numV X, numV Y]) (v := .tuple #[pv4 zero4, .int .i64 22]) (fun W => run_call_fn W (enters_of Try.func7 rfl rfl) rfl (by simp [Act.eval])) (fun W _ => make_no X Y hX hY hOn W) rfl rfl ?_; simp only [Act.put, List.setIfInBounds_toArray, List.set_cons_zero, List.set_cons_succ]
  refine inw_pure (v := .tuple #[pv4 zero4, .int .i64 22]) (fun _ => rfl) rfl rfl ?_; simp only [Act.put, List.setIfInBounds_toArray, List.set_cons_zero, List.set_cons_succ]
  refine inw_pure (v := pv4 zero4) (fun _ => rfl) rfl rfl ?_; simp only [Act.put, List.setIfInBounds_toArray, List.set_cons_zero, List.set_cons_succ]
  refine inw_pure (v := .int .i64 22) (fun _ => rfl) rfl rfl ?_; simp only [Act.put, List.setIfInBounds_toArray, List.set_cons_zero, List.set_cons_succ]
  refine inw_new (.cells z16 31 (0, 0)) rfl rfl (fun A W => run_alloc_of rfl (al_Pt W)) ?_; simp only [List.nil_append, List.cons_append]
  refine inw_fin fun d os => ?_
  refine given_new (t := 9) rfl fun b5 lb5 gb5 => ?_
  refine given_nil fun hap => ?_
  simp only [Act.put, List.setIfInBounds_toArray, List.set_cons_zero, List.set_cons_succ] at hap ⊢
  have hM6 := hM5.news1 (below_regrown W5 d os) lb5 gb5 
  clear hap lb5 gb5
  generalize grow (redrawn W5 d) os = W6 at hM6 ⊢
  change wpAny _ _ _ _ 2 _ _ _
  refine any_set (n := 9) (by kernel_rfl) rfl hM6 0 (cs := ((pc4 zero4))) rfl rfl rfl rfl rowPt rfl (one_p4 _) rfl rfl fun W7 hM7 => ?_
  simp only [List.set_cons_zero, List.set_cons_succ] at hM7
  refine any_pure (n := 10) (v := .int .i64 22) (by kernel_rfl) rfl (fun _ => rfl) rfl rfl ?_
  simp only [Act.put, List.setIfInBounds_toArray, List.set_cons_zero, List.set_cons_succ]
  refine wpAny_done (by kernel_rfl) ?_ _
  refine NoPanic.normal ?_
  (first | (refine wp_region_inw 32 HMIX.out (by decide) (by kernel_rfl) (by kernel_rfl) ?_) | (go_step; (first | (refine wp_region_inw 32 HMIX.out (by decide) (by kernel_rfl) (by kernel_rfl) ?_) | (go_step; (first | (refine wp_region_inw 32 HMIX.out (by decide) (by kernel_rfl) (by kernel_rfl) ?_) | (go_step; (first | (refine wp_region_inw 32 HMIX.out (by decide) (by kernel_rfl) (by kernel_rfl) ?_) | (go_step; (first | (refine wp_region_inw 32 HMIX.out (by decide) (by kernel_rfl) (by kernel_rfl) ?_) | (go_step; (first | (refine wp_region_inw 32 HMIX.out (by decide) (by kernel_rfl) (by kernel_rfl) ?_) | (go_step; (first | (refine wp_region_inw 32 HMIX.out (by decide) (by kernel_rfl) (by kernel_rfl) ?_) | (go_step; (refine wp_region_inw 32 HMIX.out (by decide) (by kernel_rfl) (by kernel_rfl) ?_)))))))))))))))
  refine inw_pure (v := .int .i64 22) (fun _ => rfl) rfl rfl ?_; simp only [Act.put, List.setIfInBounds_toArray, List.set_cons_zero, List.set_cons_succ]
  refine inw_pure (v := .bool false) (fun W => run_eqint_of W rfl rfl rfl rfl) rfl rfl ?_; simp only [Act.put, List.setIfInBounds_toArray, List.set_cons_zero, List.set_cons_succ]
  refine inw_row hM7 1 (v := numV X) rfl rfl rfl rfl rowNu rfl rfl ?_; simp only [Act.put, List.setIfInBounds_toArray, List.set_cons_zero, List.set_cons_succ]
  refine inw_row hM7 2 (v := numV Y) rfl rfl rfl rfl rowNu rfl rfl ?_; simp only [Act.put, List.setIfInBounds_toArray, List.set_cons_zero, List.set_cons_succ]
  refine inw_callV (args := #[numV X, numV Y]) (v := .bool false) (fun W => run_call_fn W (enters_of Try.func9 rfl rfl) rfl (by simp [Act.eval])) (fun W _ => ris_no X Y hX hY hOn W) rfl rfl ?_; simp only [Act.put, List.setIfInBounds_toArray, List.set_cons_zero, List.set_cons_succ]
  refine inw_pure (v := .bool false) (fun W => run_bin_of rfl rfl rfl (bin_neq_b false false _ _ W)) rfl rfl ?_; simp only [Act.put, List.setIfInBounds_toArray, List.set_cons_zero, List.set_cons_succ]
  refine inw_pure (v := .bool false) (fun _ => rfl) rfl rfl ?_; simp only [Act.put, List.setIfInBounds_toArray, List.set_cons_zero, List.set_cons_succ]
  refine inw_pure (v := .int .i64 22) (fun _ => rfl) rfl rfl ?_; simp only [Act.put, List.setIfInBounds_toArray, List.set_cons_zero, List.set_cons_succ]
  refine inw_pure (v := .bool true) (fun W => run_neint_of W rfl rfl rfl rfl) rfl rfl ?_; simp only [Act.put, List.setIfInBounds_toArray, List.set_cons_zero, List.set_cons_succ]
  refine inw_pure (v := .bool true) (fun _ => rfl) rfl rfl ?_; simp only [Act.put, List.setIfInBounds_toArray, List.set_cons_zero, List.set_cons_succ]
  refine inw_pure (v := .int .i64 22) (fun _ => rfl) rfl rfl ?_; simp only [Act.put, List.setIfInBounds_toArray, List.set_cons_zero, List.set_cons_succ]
  refine inw_pure (v := .bool false) (fun W => run_neint_of W rfl rfl rfl rfl) rfl rfl ?_; simp only [Act.put, List.setIfInBounds_toArray, List.set_cons_zero, List.set_cons_succ]
  refine inw_pure (v := .bool false) (fun _ => rfl) rfl rfl ?_; simp only [Act.put, List.setIfInBounds_toArray, List.set_cons_zero, List.set_cons_succ]
  refine inw_row hM7 0 (v := pv4 zero4) rfl rfl rfl rfl rowPt rfl rfl ?_; simp only [Act.put, List.setIfInBounds_toArray, List.set_cons_zero, List.set_cons_succ]
  refine inw_callV (args := #[]) (v := pv4 zero4) (fun W => run_call_fn W (enters_of Try.func11 rfl rfl) rfl (by simp [Act.eval])) (fun W _ => zero4_any W) rfl rfl ?_; simp only [Act.put, List.setIfInBounds_toArray, List.set_cons_zero, List.set_cons_succ]
  refine inw_callV (args := #[pv4 zero4, pv4 zero4]) (v := .bool true) (fun W => run_call_fn W (enters_of Try.func10 rfl rfl) rfl (by simp [Act.eval])) (fun W _ => same_yes ok4_zero ok4_zero rfl W) rfl rfl ?_; simp only [Act.put, List.setIfInBounds_toArray, List.set_cons_zero, List.set_cons_succ]
  refine inw_pure (v := .bool false) (fun W => run_not_of W rfl rfl rfl) rfl rfl ?_; simp only [Act.put, List.setIfInBounds_toArray, List.set_cons_zero, List.set_cons_succ]
  refine inw_pure (v := .bool false) (fun _ => rfl) rfl rfl ?_; simp only [Act.put, List.setIfInBounds_toArray, List.set_cons_zero, List.set_cons_succ]
  refine inw_pure (v := .bool false) (fun _ => rfl) rfl rfl ?_; simp only [Act.put, List.setIfInBounds_toArray, List.set_cons_zero, List.set_cons_succ]
  refine inw_pure (v := .bool false) (fun _ => rfl) rfl rfl ?_; simp only [Act.put, List.setIfInBounds_toArray, List.set_cons_zero, List.set_cons_succ]
  refine inw_pure (v := .bool false) (fun _ => rfl) rfl rfl ?_; simp only [Act.put, List.setIfInBounds_toArray, List.set_cons_zero, List.set_cons_succ]
  refine inw_pure (v := .int .i64 22) (fun _ => rfl) rfl rfl ?_; simp only [Act.put, List.setIfInBounds_toArray, List.set_cons_zero, List.set_cons_succ]
  refine inw_pure (v := .bool false) (fun W => run_eqint_of W rfl rfl rfl rfl) rfl rfl ?_; simp only [Act.put, List.setIfInBounds_toArray, List.set_cons_zero, List.set_cons_succ]
  refine inw_pure (v := .bool false) (fun _ => rfl) rfl rfl ?_; simp only [Act.put, List.setIfInBounds_toArray, List.set_cons_zero, List.set_cons_succ]
  refine inw_skip rfl rfl ?_; simp only [Act.put, List.setIfInBounds_toArray, List.set_cons_zero, List.set_cons_succ]
  refine inw_skip rfl rfl ?_; simp only [Act.put, List.setIfInBounds_toArray, List.set_cons_zero, List.set_cons_succ]
  refine inw_skip rfl rfl ?_; simp only [Act.put, List.setIfInBounds_toArray, List.set_cons_zero, List.set_cons_succ]
  refine inw_skip rfl rfl ?_; simp only [Act.put, List.setIfInBounds_toArray, List.set_cons_zero, List.set_cons_succ]
  refine inw_skip rfl rfl ?_; simp only [Act.put, List.setIfInBounds_toArray, List.set_cons_zero, List.set_cons_succ]
  refine inw_skip rfl rfl ?_; simp only [Act.put, List.setIfInBounds_toArray, List.set_cons_zero, List.set_cons_succ]
  refine inw_pure (v := .bool false) (fun _ => rfl) rfl rfl ?_; simp only [Act.put, List.setIfInBounds_toArray, List.set_cons_zero, List.set_cons_succ]
  refine inw_pure (v := .bool false) (fun _ => rfl) rfl rfl ?_; simp only [Act.put, List.setIfInBounds_toArray, List.set_cons_zero, List.set_cons_succ]
  refine inw_fin fun d os => ?_
  refine given_nil fun hap => ?_
  have hM8 := hM7.calls (below_regrown W7 d os)
  clear hap 
  generalize grow (redrawn W7 d) os = W8 at hM8 ⊢
  refine wpAny_done (by kernel_rfl) ?_ _
  (first | (refine wp_region_lit ?_) | (go_step; (first | (refine wp_region_lit ?_) | (go_step; (first | (refine wp_region_lit ?_) | (go_step; (first | (refine wp_region_lit ?_) | (go_step; (first | (refine wp_region_lit ?_) | (go_step; (first | (refine wp_region_lit ?_) | (go_step; (first | (refine wp_region_lit ?_) | (go_step; (refine wp_region_lit ?_)))))))))))))))
  refine wl_pure (v := .int .u32 (k : Int)) (fun _ => rfl) rfl ?_
  simp only [Act.put, List.setIfInBounds_toArray, List.set_cons_zero, List.set_cons_succ]
  refine wl_call hM8 (args := #[.int .u32 (k : Int)]) (v := .tuple #[pv4 ak, pv3 bk]) (fun W => run_call_fn W (enters_of Try.func14 rfl rfl) rfl (by simp [Act.eval])) (Kbk.out W8) rfl fun W9 hM9 => ?_
  simp only [Act.put, List.setIfInBounds_toArray, List.set_cons_zero, List.set_cons_succ]
  refine wl_pure (v := .tuple #[pv4 ak, pv3 bk]) (fun _ => rfl) rfl ?_
  simp only [Act.put, List.setIfInBounds_toArray, List.set_cons_zero, List.set_cons_succ]
  refine wl_pure (v := pv4 ak) (fun _ => rfl) rfl ?_
  simp only [Act.put, List.setIfInBounds_toArray, List.set_cons_zero, List.set_cons_succ]
  refine wl_pure (v := pv3 bk) (fun _ => rfl) rfl ?_
  simp only [Act.put, List.setIfInBounds_toArray, List.set_cons_zero, List.set_cons_succ]
  refine wl_new hM9 (f := fun b => .pointer (some ⟨b, 0, none⟩)) (ob := .cells z16 31 (0, 0)) (fun W => run_alloc_of rfl (al_Pt W)) rfl fun b6 W10 hM10 => ?_
  simp only [Act.put, List.setIfInBounds_toArray, List.set_cons_zero, List.set_cons_succ]
  refine wl_new hM10 (f := fun b => .pointer (some ⟨b, 0, none⟩)) (ob := .cells z12 41 (0, 0)) (fun W => run_alloc_of rfl (al_Rp W)) rfl fun b7 W11 hM11 => ?_
  simp only [Act.put, List.setIfInBounds_toArray, List.set_cons_zero, List.set_cons_succ]
  refine wl_set hM11 1 (cs := ((pc4 ak))) rfl rfl rfl rfl rowPt rfl (one_p4 _) rfl rfl fun W12 hM12 => ?_
  simp only [List.set_cons_zero, List.set_cons_succ] at hM12
  refine wl_set hM12 0 (cs := ((rpL bk.1 bk.2.1 bk.2.2).toArray)) rfl rfl rfl rfl rowRp rfl (one_rp _ _ _) rfl rfl fun W13 hM13 => ?_
  simp only [List.set_cons_zero, List.set_cons_succ] at hM13
  refine wpList_nil ?_
  (first | (refine wp_region_lit ?_) | (go_step; (first | (refine wp_region_lit ?_) | (go_step; (first | (refine wp_region_lit ?_) | (go_step; (first | (refine wp_region_lit ?_) | (go_step; (first | (refine wp_region_lit ?_) | (go_step; (first | (refine wp_region_lit ?_) | (go_step; (first | (refine wp_region_lit ?_) | (go_step; (refine wp_region_lit ?_)))))))))))))))
  refine wl_row hM13 1 (v := pv4 ak) rfl rfl rfl rfl rowPt rfl ?_
  simp only [Act.put, List.setIfInBounds_toArray, List.set_cons_zero, List.set_cons_succ]
  refine wl_row hM13 0 (v := pv3 bk) rfl rfl rfl rfl rowRp rfl ?_
  simp only [Act.put, List.setIfInBounds_toArray, List.set_cons_zero, List.set_cons_succ]
  refine wl_call hM13 (args := #[pv4 ak, pv3 bk]) (v := .bool true) (fun W => run_call_fn W (enters_of Try.func12 rfl rfl) rfl (by simp [Act.eval])) (is_eq hak hbk rfl W13) rfl fun W14 hM14 => ?_
  simp only [Act.put, List.setIfInBounds_toArray, List.set_cons_zero, List.set_cons_succ]
  refine wl_pure (v := .bool true) (fun _ => rfl) rfl ?_
  simp only [Act.put, List.setIfInBounds_toArray, List.set_cons_zero, List.set_cons_succ]
  refine wl_call hM14 (args := #[]) (v := pv4 base4) (fun W => run_call_fn W (enters_of Try.func15 rfl rfl) rfl (by simp [Act.eval])) (base4_any W14) rfl fun W15 hM15 => ?_
  simp only [Act.put, List.setIfInBounds_toArray, List.set_cons_zero, List.set_cons_succ]
  refine wl_call hM15 (args := #[]) (v := pv3 ((bX, bY, 1))) (fun W => run_call_fn W (enters_of Try.func16 rfl rfl) rfl (by simp [Act.eval])) (rbase_any W15) rfl fun W16 hM16 => ?_
  simp only [Act.put, List.setIfInBounds_toArray, List.set_cons_zero, List.set_cons_succ]
  refine wl_call hM16 (args := #[pv4 base4, pv3 ((bX, bY, 1))]) (v := .bool true) (fun W => run_call_fn W (enters_of Try.func12 rfl rfl) rfl (by simp [Act.eval])) (is_eq ok4_base ok3_base rfl W16) rfl fun W17 hM17 => ?_
  simp only [Act.put, List.setIfInBounds_toArray, List.set_cons_zero, List.set_cons_succ]
  refine wl_pure (v := .bool true) (fun _ => rfl) rfl ?_
  simp only [Act.put, List.setIfInBounds_toArray, List.set_cons_zero, List.set_cons_succ]
  refine wl_pure (v := .bool true) (fun _ => rfl) rfl ?_
  simp only [Act.put, List.setIfInBounds_toArray, List.set_cons_zero, List.set_cons_succ]
  refine wl_call hM17 (args := #[]) (v := pv4 zero4) (fun W => run_call_fn W (enters_of Try.func11 rfl rfl) rfl (by simp [Act.eval])) (zero4_any W17) rfl fun W18 hM18 => ?_
  simp only [Act.put, List.setIfInBounds_toArray, List.set_cons_zero, List.set_cons_succ]
  refine wl_call hM18 (args := #[]) (v := pv3 ((0, 1, 1))) (fun W => run_call_fn W (enters_of Try.func17 rfl rfl) rfl (by simp [Act.eval])) (rzero_any W18) rfl fun W19 hM19 => ?_
  simp only [Act.put, List.setIfInBounds_toArray, List.set_cons_zero, List.set_cons_succ]
  refine wl_call hM19 (args := #[pv4 zero4, pv3 ((0, 1, 1))]) (v := .bool true) (fun W => run_call_fn W (enters_of Try.func12 rfl rfl) rfl (by simp [Act.eval])) (is_eq ok4_zero ok3_zero rfl W19) rfl fun W20 hM20 => ?_
  simp only [Act.put, List.setIfInBounds_toArray, List.set_cons_zero, List.set_cons_succ]
  refine wl_pure (v := .bool true) (fun _ => rfl) rfl ?_
  simp only [Act.put, List.setIfInBounds_toArray, List.set_cons_zero, List.set_cons_succ]
  refine wl_pure (v := .bool true) (fun _ => rfl) rfl ?_
  simp only [Act.put, List.setIfInBounds_toArray, List.set_cons_zero, List.set_cons_succ]
  refine wl_pure (v := .agg z16) (fun W => run_build_of rfl (by simp [Act.eval]) (bdP0 W)) rfl ?_
  simp only [Act.put, List.setIfInBounds_toArray, List.set_cons_zero, List.set_cons_succ]
  refine wl_call hM20 (args := #[]) (v := pv3 ((0, 1, 1))) (fun W => run_call_fn W (enters_of Try.func17 rfl rfl) rfl (by simp [Act.eval])) (rzero_any W20) rfl fun W21 hM21 => ?_
  simp only [Act.put, List.setIfInBounds_toArray, List.set_cons_zero, List.set_cons_succ]
  refine wl_call hM21 (args := #[.agg z16, pv3 ((0, 1, 1))]) (v := .bool true) (fun W => run_call_fn W (enters_of Try.func12 rfl rfl) rfl (by simp [Act.eval])) (is_zero ok3_zero W21) rfl fun W22 hM22 => ?_
  simp only [Act.put, List.setIfInBounds_toArray, List.set_cons_zero, List.set_cons_succ]
  refine wl_pure (v := .bool true) (fun _ => rfl) rfl ?_
  simp only [Act.put, List.setIfInBounds_toArray, List.set_cons_zero, List.set_cons_succ]
  refine wl_pure (v := .bool true) (fun _ => rfl) rfl ?_
  simp only [Act.put, List.setIfInBounds_toArray, List.set_cons_zero, List.set_cons_succ]
  refine wl_call hM22 (args := #[]) (v := numV dN) (fun W => run_call_fn W (enters_of Try.func19 rfl rfl) rfl (by simp [Act.eval])) (curD_any W22) rfl fun W23 hM23 => ?_
  simp only [Act.put, List.setIfInBounds_toArray, List.set_cons_zero, List.set_cons_succ]
  refine wl_call hM23 (args := #[numV dN]) (v := numV dN) (fun W => run_call_fn W (enters_of Try.func18 rfl rfl) rfl (by simp [Act.eval])) (pnum_any dN W23) rfl fun W24 hM24 => ?_
  simp only [Act.put, List.setIfInBounds_toArray, List.set_cons_zero, List.set_cons_succ]
  refine wl_call hM24 (args := #[]) (v := numV dN) (fun W => run_call_fn W (enters_of Try.func20 rfl rfl) rfl (by simp [Act.eval])) (rD_any W24) rfl fun W25 hM25 => ?_
  simp only [Act.put, List.setIfInBounds_toArray, List.set_cons_zero, List.set_cons_succ]
  refine wl_pure (v := .bool true) (fun W => run_bin_of rfl rfl rfl (bin_eql_nu_self dN _ _ W d_is.2)) rfl ?_
  simp only [Act.put, List.setIfInBounds_toArray, List.set_cons_zero, List.set_cons_succ]
  refine wl_pure (v := .bool true) (fun _ => rfl) rfl ?_
  simp only [Act.put, List.setIfInBounds_toArray, List.set_cons_zero, List.set_cons_succ]
  refine wl_pure (v := .bool true) (fun _ => rfl) rfl ?_
  simp only [Act.put, List.setIfInBounds_toArray, List.set_cons_zero, List.set_cons_succ]
  refine wl_call hM25 (args := #[]) (v := .bool true) (fun W => run_call_fn W (enters_of Try.func21 rfl rfl) rfl (by simp [Act.eval])) (lives_any W25) rfl fun W26 hM26 => ?_
  simp only [Act.put, List.setIfInBounds_toArray, List.set_cons_zero, List.set_cons_succ]
  refine wl_pure (v := .bool true) (fun _ => rfl) rfl ?_
  simp only [Act.put, List.setIfInBounds_toArray, List.set_cons_zero, List.set_cons_succ]
  refine wl_pure (v := .bool true) (fun _ => rfl) rfl ?_
  simp only [Act.put, List.setIfInBounds_toArray, List.set_cons_zero, List.set_cons_succ]
  refine wpList_nil ?_
  (first | (refine bodyPost_ret (v := .bool true) (results_slot Try.results3 rfl) rfl ⟨?_, hM26.below⟩) | (go_step; (first | (refine bodyPost_ret (v := .bool true) (results_slot Try.results3 rfl) rfl ⟨?_, hM26.below⟩) | (go_step; (first | (refine bodyPost_ret (v := .bool true) (results_slot Try.results3 rfl) rfl ⟨?_, hM26.below⟩) | (go_step; (first | (refine bodyPost_ret (v := .bool true) (results_slot Try.results3 rfl) rfl ⟨?_, hM26.below⟩) | (go_step; (first | (refine bodyPost_ret (v := .bool true) (results_slot Try.results3 rfl) rfl ⟨?_, hM26.below⟩) | (go_step; (first | (refine bodyPost_ret (v := .bool true) (results_slot Try.results3 rfl) rfl ⟨?_, hM26.below⟩) | (go_step; (first | (refine bodyPost_ret (v := .bool true) (results_slot Try.results3 rfl) rfl ⟨?_, hM26.below⟩) | (go_step; (refine bodyPost_ret (v := .bool true) (results_slot Try.results3 rfl) rfl ⟨?_, hM26.below⟩)))))))))))))))
  exact rfl
theorem curveMakes_walk (A B : Nat) (k0 : Int) (w : World) (hA : A < B64 ^ 4) (hB : B < B64 ^ 4) (wk : (Lit.int .u32 k0).wf = true) : Calls Try.prog 3 #[numV A, numV B, .int .u32 k0] w fun e w' => e = .returned (.bool true) ∧ Below w.heap.size w w' := by
  by_cases h : On (fz (A % PN), fz (B % PN))
  · exact makes_yes A B k0 w hA hB wk h
  · exact makes_no A B k0 w hA hB wk h
end Go.Proofs.Ythdbadomppohbaa
