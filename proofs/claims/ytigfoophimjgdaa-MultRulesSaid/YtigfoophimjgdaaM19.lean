/- The curve's functions on points, and its Add of many (layer 20): their contracts. Which points Make lets be, what the laws' helpers tell of points (layer 20). The laws' helpers Is, Both, Low and lives (layer 20): their contracts. -/
import Derived.Test.YtigfoophimjgdaaM18
import Derived.Test.YtigfoophimjgdaaM14
namespace Go.Proofs.Ytigfoophimjgdaa
set_option maxRecDepth 20000
set_option linter.unusedSimpArgs false
set_option linter.unusedVariables false
open Go.RowKit Go.Sort
theorem one_p4 (a : N4) : (pc4 a).all (·.oneCell') = true := one_pt _ _ _ _
theorem bx_P4 (a : N4) (W : World) : (Instr.box 30 (pv4 a)).run Try.prog W = .ok (.pointer (some ⟨W.heap.size, 0, none⟩)) (W.alloc (.cells (pc4 a) 30 (0, 0))) := bx_Pt _ _ _ _ W
theorem zero4_any (w : World) : Calls Try.prog 40 #[] w fun E w' => E = .returned (pv4 zero4) ∧ Below w.heap.size w w' := zero_any w
theorem base4_any (w : World) : Calls Try.prog 26 #[] w fun E w' => E = .returned (pv4 base4) ∧ Below w.heap.size w w' := base_any w
theorem adderadd4 {a b : N4} {p q : Pt} (ha : Ok4 a p) (hb : Ok4 b q) (w : World) : Calls Try.prog 42 #[numV dN, pv4 a, pv4 b] w fun E w' => E = .returned (pv4 (add4 a b)) ∧ Below w.heap.size w w' :=
  adderadd_any dN _ _ _ _ _ _ _ _ d_is.2 ha.x ha.y ha.z ha.t hb.x hb.y hb.z hb.t ha.pos hb.pos w
theorem double4 {a : N4} {p : Pt} (ha : Ok4 a p) (w : World) : Calls Try.prog 101 #[pv4 a] w fun E w' => E = .returned (pv4 (dbl4 a)) ∧ Below w.heap.size w w' :=
  double_any _ _ _ _ ha.x ha.y ha.z ha.t ha.pos w
theorem negp4 {a : N4} {p : Pt} (ha : Ok4 a p) (w : World) : Calls Try.prog 57 #[pv4 a] w fun E w' => E = .returned (pv4 (neg4 a)) ∧ Below w.heap.size w w' :=
  neg_any _ _ _ _ ha.x ha.y ha.z ha.t ha.pos w
theorem samep4 {a b : N4} {p q : Pt} (ha : Ok4 a p) (hb : Ok4 b q) (w : World) : Calls Try.prog 15 #[pv4 a, pv4 b] w fun E w' => E = .returned (.bool (decide (p = q))) ∧ Below w.heap.size w w' := by
  have h := same_any _ _ _ _ _ _ _ _ ha.x ha.y ha.z ha.t hb.x hb.y hb.z hb.t ha.pos hb.pos w
  rw [same4 ha hb] at h
  exact h
theorem xyp4 {a : N4} {p : Pt} (ha : Ok4 a p) (w : World) : Calls Try.prog 46 #[pv4 a] w fun E w' => E = .returned (.tuple #[numV p.1.val, numV p.2.val]) ∧ Below w.heap.size w w' := by
  have h := xy_any _ _ _ _ ha.x ha.y ha.z ha.t ha.pos w
  rw [(xy_of _ _ _ p ha.z ha.ext.rep).1, (xy_of _ _ _ p ha.z ha.ext.rep).2] at h
  exact h
theorem rxy3 {a : N3} {p : Pt} (ha : Ok3 a p) (w : World) : Calls Try.prog 32 #[pv3 a] w fun E w' => E = .returned (.tuple #[numV p.1.val, numV p.2.val]) ∧ Below w.heap.size w w' := by
  have h := rxy_any _ _ _ ha.is.1 ha.is.2.1 ha.is.2.2 w
  rw [(xy_of _ _ _ p ha.is.2.2 ha.rep).1, (xy_of _ _ _ p ha.is.2.2 ha.rep).2] at h
  exact h
theorem bsP2 (a b : N4) (W : World) : (Instr.buildSlice 71 2 #[(0, pv4 a), (1, pv4 b)]).run Try.prog W = .ok (.slice (some ⟨W.heap.size, 0, none⟩) 2 2) (W.alloc (.cells (pl4 a ++ pl4 b).toArray 30 (0, 0))) := by
  unfold pv4 pc4 pl4 ptL
  go_simp
theorem bsP3 (a b c : N4) (W : World) : (Instr.buildSlice 71 3 #[(0, pv4 a), (1, pv4 b), (2, pv4 c)]).run Try.prog W = .ok (.slice (some ⟨W.heap.size, 0, none⟩) 3 3) (W.alloc (.cells (pl4 a ++ pl4 b ++ pl4 c).toArray 30 (0, 0))) := by
  unfold pv4 pc4 pl4 ptL
  go_simp
set_option maxRecDepth 20000 in
set_option maxHeartbeats 8000000 in
theorem addl0 (w : World) : Calls Try.prog 9 #[.slice none 0 0] w fun E w' => E = .returned (pv4 zero4) ∧ Below w.heap.size w w' := by
  go_enter Try.func9, Try.ntmps9
  have hM0 := Mem.start w
  (go_step; go_step; refine wp_region_lit ?_)
  refine wl_new hM0 (f := fun b => .pointer (some ⟨b, 0, none⟩)) (ob := .cells z16 30 (0, 0)) (fun W => run_alloc_of rfl (al_Pt W)) rfl fun b1 W1 hM1 => ?_
  simp only [Act.put, List.setIfInBounds_toArray, List.set_cons_zero, List.set_cons_succ]
  refine wpList_nil ?_
  (go_step; go_step; go_step; refine wp_region_lit ?_)
  refine wl_call hM1 (args := #[]) (v := pv4 zero4) (fun W => run_call_fn W (enters_of Try.func40 rfl rfl) rfl (by simp [Act.eval])) (zero4_any W1) rfl fun W2 hM2 => ?_
  simp only [Act.put, List.setIfInBounds_toArray, List.set_cons_zero, List.set_cons_succ]
  refine wl_new hM2 (f := fun b => .pointer (some ⟨b, 0, none⟩)) (ob := .cells z16 30 (0, 0)) (fun W => run_alloc_of rfl (al_Pt W)) rfl fun b2 W3 hM3 => ?_
  simp only [Act.put, List.setIfInBounds_toArray, List.set_cons_zero, List.set_cons_succ]
  refine wl_set hM3 0 (cs := ((pc4 zero4))) rfl rfl rfl rfl rowPt rfl (one_p4 _) rfl rfl fun W4 hM4 => ?_
  simp only [List.set_cons_zero, List.set_cons_succ] at hM4
  refine wpList_nil ?_
  (go_step; go_step; go_step; refine wp_region_lit ?_)
  refine wl_call hM4 (args := #[]) (v := numV dN) (fun W => run_call_fn W (enters_of Try.func41 rfl rfl) rfl (by simp [Act.eval])) (newadder_any W4) rfl fun W5 hM5 => ?_
  simp only [Act.put, List.setIfInBounds_toArray, List.set_cons_zero, List.set_cons_succ]
  refine wl_new hM5 (f := fun b => .pointer (some ⟨b, 0, none⟩)) (ob := .cells z4 73 (0, 0)) (fun W => run_alloc_of rfl (al_Ad W)) rfl fun b3 W6 hM6 => ?_
  simp only [Act.put, List.setIfInBounds_toArray, List.set_cons_zero, List.set_cons_succ]
  refine wl_set hM6 0 (cs := (elR dN)) rfl rfl rfl rfl rowAd rfl (one_el dN) rfl rfl fun W7 hM7 => ?_
  simp only [List.set_cons_zero, List.set_cons_succ] at hM7
  refine wpList_nil ?_
  (go_step; go_step; go_step; go_step; refine wp_region_lit ?_)
  refine wl_pure (v := .slice none 0 0) (fun _ => rfl) rfl ?_
  simp only [Act.put, List.setIfInBounds_toArray, List.set_cons_zero, List.set_cons_succ]
  refine wl_pure (v := .int .i64 0) (fun W => by go_simp) rfl ?_
  simp only [Act.put, List.setIfInBounds_toArray, List.set_cons_zero, List.set_cons_succ]
  refine wl_pure (v := .int .i64 0) (fun _ => rfl) rfl ?_
  simp only [Act.put, List.setIfInBounds_toArray, List.set_cons_zero, List.set_cons_succ]
  refine wpList_nil ?_
  (go_step; go_step; go_step; refine wp_loop_rounds 1 ?_)
  rw [rounds_succ]
  (go_step; refine wp_region_lit ?_)
  refine wl_pure (v := .bool false) (fun W => by go_simp) rfl ?_
  simp only [Act.put, List.setIfInBounds_toArray, List.set_cons_zero, List.set_cons_succ]
  refine wpList_nil ?_
  (go_step; go_step; go_step; go_step; go_step; go_step; go_step; go_step; refine wp_region_lit ?_)
  refine wl_row hM7 1 (v := pv4 zero4) rfl rfl rfl rfl rowPt rfl ?_
  simp only [Act.put, List.setIfInBounds_toArray, List.set_cons_zero, List.set_cons_succ]
  refine wl_set hM7 2 (cs := ((pc4 zero4))) rfl rfl rfl rfl rowPt rfl (one_p4 _) rfl rfl fun W8 hM8 => ?_
  simp only [List.set_cons_zero, List.set_cons_succ] at hM8
  refine wpList_nil ?_
  (go_step; go_step; go_step; refine bodyPost_ret (v := pv4 zero4) (results_arr Try.results9 rfl (hM8.load 2 rfl rowPt)) rfl ⟨?_, hM8.below⟩)
  exact rfl
set_option maxRecDepth 20000 in
set_option maxHeartbeats 8000000 in
theorem addl2 {a b : N4} {pa pb : Pt} (ha : Ok4 a pa) (hb : Ok4 b pb) (g : Nat) (w : World) (hg : w.heap[g]? = some (.cells (pl4 a ++ pl4 b).toArray 30 (0, 0))) : Calls Try.prog 9 #[.slice (some ⟨g, 0, none⟩) 2 2] w fun E w' => E = .returned (pv4 (add4 (add4 zero4 a) b)) ∧ Below w.heap.size w w' := by
  go_enter Try.func9, Try.ntmps9
  have hM0 := Mem.start w
  (go_step; go_step; refine wp_region_lit ?_)
  refine wl_new hM0 (f := fun b => .pointer (some ⟨b, 0, none⟩)) (ob := .cells z16 30 (0, 0)) (fun W => run_alloc_of rfl (al_Pt W)) rfl fun b1 W1 hM1 => ?_
  simp only [Act.put, List.setIfInBounds_toArray, List.set_cons_zero, List.set_cons_succ]
  refine wpList_nil ?_
  (go_step; go_step; go_step; refine wp_region_lit ?_)
  refine wl_call hM1 (args := #[]) (v := pv4 zero4) (fun W => run_call_fn W (enters_of Try.func40 rfl rfl) rfl (by simp [Act.eval])) (zero4_any W1) rfl fun W2 hM2 => ?_
  simp only [Act.put, List.setIfInBounds_toArray, List.set_cons_zero, List.set_cons_succ]
  refine wl_new hM2 (f := fun b => .pointer (some ⟨b, 0, none⟩)) (ob := .cells z16 30 (0, 0)) (fun W => run_alloc_of rfl (al_Pt W)) rfl fun b2 W3 hM3 => ?_
  simp only [Act.put, List.setIfInBounds_toArray, List.set_cons_zero, List.set_cons_succ]
  refine wl_set hM3 0 (cs := ((pc4 zero4))) rfl rfl rfl rfl rowPt rfl (one_p4 _) rfl rfl fun W4 hM4 => ?_
  simp only [List.set_cons_zero, List.set_cons_succ] at hM4
  refine wpList_nil ?_
  (go_step; go_step; go_step; refine wp_region_lit ?_)
  refine wl_call hM4 (args := #[]) (v := numV dN) (fun W => run_call_fn W (enters_of Try.func41 rfl rfl) rfl (by simp [Act.eval])) (newadder_any W4) rfl fun W5 hM5 => ?_
  simp only [Act.put, List.setIfInBounds_toArray, List.set_cons_zero, List.set_cons_succ]
  refine wl_new hM5 (f := fun b => .pointer (some ⟨b, 0, none⟩)) (ob := .cells z4 73 (0, 0)) (fun W => run_alloc_of rfl (al_Ad W)) rfl fun b3 W6 hM6 => ?_
  simp only [Act.put, List.setIfInBounds_toArray, List.set_cons_zero, List.set_cons_succ]
  refine wl_set hM6 0 (cs := (elR dN)) rfl rfl rfl rfl rowAd rfl (one_el dN) rfl rfl fun W7 hM7 => ?_
  simp only [List.set_cons_zero, List.set_cons_succ] at hM7
  refine wpList_nil ?_
  (go_step; go_step; go_step; go_step; refine wp_region_lit ?_)
  refine wl_pure (v := .slice (some ⟨g, 0, none⟩) 2 2) (fun _ => rfl) rfl ?_
  simp only [Act.put, List.setIfInBounds_toArray, List.set_cons_zero, List.set_cons_succ]
  refine wl_pure (v := .int .i64 2) (fun W => by go_simp) rfl ?_
  simp only [Act.put, List.setIfInBounds_toArray, List.set_cons_zero, List.set_cons_succ]
  refine wl_pure (v := .int .i64 0) (fun _ => rfl) rfl ?_
  simp only [Act.put, List.setIfInBounds_toArray, List.set_cons_zero, List.set_cons_succ]
  refine wpList_nil ?_
  (go_step; go_step; go_step; refine wp_loop_rounds 3 ?_)
  rw [rounds_succ]
  (go_step; refine wp_region_lit ?_)
  refine wl_pure (v := .bool true) (fun W => by go_simp) rfl ?_
  simp only [Act.put, List.setIfInBounds_toArray, List.set_cons_zero, List.set_cons_succ]
  refine wpList_nil ?_
  (go_step; go_step; go_step; go_step; go_step; go_step; go_step; go_step; go_step; go_step; refine wp_region_lit ?_)
  refine wl_pure (v := .pointer (some ⟨g, 0, none⟩)) (fun W => by go_simp) rfl ?_
  simp only [Act.put, List.setIfInBounds_toArray, List.set_cons_zero, List.set_cons_succ]
  refine wl_far (hM7.old hg) (v := pv4 a) (sub := (pc4 a)) rfl rfl rfl rfl rowPt rfl ?_
  simp only [Act.put, List.setIfInBounds_toArray, List.set_cons_zero, List.set_cons_succ]
  refine wl_new hM7 (f := fun b => .pointer (some ⟨b, 0, none⟩)) (ob := .cells z16 30 (0, 0)) (fun W => run_alloc_of rfl (al_Pt W)) rfl fun b4 W8 hM8 => ?_
  simp only [Act.put, List.setIfInBounds_toArray, List.set_cons_zero, List.set_cons_succ]
  refine wl_set hM8 0 (cs := ((pc4 a))) rfl rfl rfl rfl rowPt rfl (one_p4 _) rfl rfl fun W9 hM9 => ?_
  simp only [List.set_cons_zero, List.set_cons_succ] at hM9
  refine wpList_nil ?_
  (go_step; go_step; refine wp_region_lit ?_)
  refine wl_row hM9 1 (v := numV dN) rfl rfl rfl rfl rowAd rfl ?_
  simp only [Act.put, List.setIfInBounds_toArray, List.set_cons_zero, List.set_cons_succ]
  refine wl_row hM9 2 (v := pv4 zero4) rfl rfl rfl rfl rowPt rfl ?_
  simp only [Act.put, List.setIfInBounds_toArray, List.set_cons_zero, List.set_cons_succ]
  refine wl_row hM9 0 (v := pv4 a) rfl rfl rfl rfl rowPt rfl ?_
  simp only [Act.put, List.setIfInBounds_toArray, List.set_cons_zero, List.set_cons_succ]
  obtain ⟨r1, er1⟩ : ∃ x, x = add4 zero4 a := ⟨_, rfl⟩
  have or1 := ok4_add ok4_zero ha
  rw [← er1] at or1
  have Kr1 := Lib.hid (fun W => adderadd4 ok4_zero ha W)
  simp only [← er1] at Kr1
  refine wl_call hM9 (args := #[numV dN, pv4 zero4, pv4 a]) (v := pv4 r1) (fun W => run_call_fn W (enters_of Try.func42 rfl rfl) rfl (by simp [Act.eval])) (Kr1.out W9) rfl fun W10 hM10 => ?_
  simp only [Act.put, List.setIfInBounds_toArray, List.set_cons_zero, List.set_cons_succ]
  refine wl_set hM10 2 (cs := ((pc4 r1))) rfl rfl rfl rfl rowPt rfl (one_p4 _) rfl rfl fun W11 hM11 => ?_
  simp only [List.set_cons_zero, List.set_cons_succ] at hM11
  refine wpList_nil ?_
  (go_step; go_step; refine wp_region_lit ?_)
  refine wl_pure (v := .int .i64 1) (fun W => by go_simp; decide) rfl ?_
  simp only [Act.put, List.setIfInBounds_toArray, List.set_cons_zero, List.set_cons_succ]
  refine wl_pure (v := .int .i64 1) (fun _ => rfl) rfl ?_
  simp only [Act.put, List.setIfInBounds_toArray, List.set_cons_zero, List.set_cons_succ]
  refine wpList_nil ?_
  go_step
  rw [rounds_succ]
  (go_step; refine wp_region_lit ?_)
  refine wl_pure (v := .bool true) (fun W => by go_simp) rfl ?_
  simp only [Act.put, List.setIfInBounds_toArray, List.set_cons_zero, List.set_cons_succ]
  refine wpList_nil ?_
  (go_step; go_step; go_step; go_step; go_step; go_step; go_step; go_step; go_step; go_step; refine wp_region_lit ?_)
  refine wl_pure (v := .pointer (some ⟨g, 16, none⟩)) (fun W => by go_simp) rfl ?_
  simp only [Act.put, List.setIfInBounds_toArray, List.set_cons_zero, List.set_cons_succ]
  refine wl_far (hM11.old hg) (v := pv4 b) (sub := (pc4 b)) rfl rfl rfl rfl rowPt rfl ?_
  simp only [Act.put, List.setIfInBounds_toArray, List.set_cons_zero, List.set_cons_succ]
  refine wl_new hM11 (f := fun b => .pointer (some ⟨b, 0, none⟩)) (ob := .cells z16 30 (0, 0)) (fun W => run_alloc_of rfl (al_Pt W)) rfl fun b5 W12 hM12 => ?_
  simp only [Act.put, List.setIfInBounds_toArray, List.set_cons_zero, List.set_cons_succ]
  refine wl_set hM12 0 (cs := ((pc4 b))) rfl rfl rfl rfl rowPt rfl (one_p4 _) rfl rfl fun W13 hM13 => ?_
  simp only [List.set_cons_zero, List.set_cons_succ] at hM13
  refine wpList_nil ?_
  (go_step; go_step; refine wp_region_lit ?_)
  refine wl_row hM13 2 (v := numV dN) rfl rfl rfl rfl rowAd rfl ?_
  simp only [Act.put, List.setIfInBounds_toArray, List.set_cons_zero, List.set_cons_succ]
  refine wl_row hM13 3 (v := pv4 r1) rfl rfl rfl rfl rowPt rfl ?_
  simp only [Act.put, List.setIfInBounds_toArray, List.set_cons_zero, List.set_cons_succ]
  refine wl_row hM13 0 (v := pv4 b) rfl rfl rfl rfl rowPt rfl ?_
  simp only [Act.put, List.setIfInBounds_toArray, List.set_cons_zero, List.set_cons_succ]
  obtain ⟨r2, er2⟩ : ∃ x, x = add4 r1 b := ⟨_, rfl⟩
  have or2 := ok4_add or1 hb
  rw [← er2] at or2
  have Kr2 := Lib.hid (fun W => adderadd4 or1 hb W)
  simp only [← er2] at Kr2
  refine wl_call hM13 (args := #[numV dN, pv4 r1, pv4 b]) (v := pv4 r2) (fun W => run_call_fn W (enters_of Try.func42 rfl rfl) rfl (by simp [Act.eval])) (Kr2.out W13) rfl fun W14 hM14 => ?_
  simp only [Act.put, List.setIfInBounds_toArray, List.set_cons_zero, List.set_cons_succ]
  refine wl_set hM14 3 (cs := ((pc4 r2))) rfl rfl rfl rfl rowPt rfl (one_p4 _) rfl rfl fun W15 hM15 => ?_
  simp only [List.set_cons_zero, List.set_cons_succ] at hM15
  refine wpList_nil ?_
  (go_step; go_step; refine wp_region_lit ?_)
  refine wl_pure (v := .int .i64 2) (fun W => by go_simp; decide) rfl ?_
  simp only [Act.put, List.setIfInBounds_toArray, List.set_cons_zero, List.set_cons_succ]
  refine wl_pure (v := .int .i64 2) (fun _ => rfl) rfl ?_
  simp only [Act.put, List.setIfInBounds_toArray, List.set_cons_zero, List.set_cons_succ]
  refine wpList_nil ?_
  go_step
  rw [rounds_succ]
  (go_step; refine wp_region_lit ?_)
  refine wl_pure (v := .bool false) (fun W => by go_simp) rfl ?_
  simp only [Act.put, List.setIfInBounds_toArray, List.set_cons_zero, List.set_cons_succ]
  refine wpList_nil ?_
  (go_step; go_step; go_step; go_step; go_step; go_step; go_step; go_step; refine wp_region_lit ?_)
  refine wl_row hM15 3 (v := pv4 r2) rfl rfl rfl rfl rowPt rfl ?_
  simp only [Act.put, List.setIfInBounds_toArray, List.set_cons_zero, List.set_cons_succ]
  refine wl_set hM15 4 (cs := ((pc4 r2))) rfl rfl rfl rfl rowPt rfl (one_p4 _) rfl rfl fun W16 hM16 => ?_
  simp only [List.set_cons_zero, List.set_cons_succ] at hM16
  refine wpList_nil ?_
  (go_step; go_step; go_step; refine bodyPost_ret (v := pv4 r2) (results_arr Try.results9 rfl (hM16.load 4 rfl rowPt)) rfl ⟨?_, hM16.below⟩)
  exact by rw [er2, er1]
set_option maxRecDepth 20000 in
set_option maxHeartbeats 8000000 in
theorem addl3 {a b c : N4} {pa pb pc : Pt} (ha : Ok4 a pa) (hb : Ok4 b pb) (hc : Ok4 c pc) (g : Nat) (w : World) (hg : w.heap[g]? = some (.cells (pl4 a ++ pl4 b ++ pl4 c).toArray 30 (0, 0))) : Calls Try.prog 9 #[.slice (some ⟨g, 0, none⟩) 3 3] w fun E w' => E = .returned (pv4 (add4 (add4 (add4 zero4 a) b) c)) ∧ Below w.heap.size w w' := by
  go_enter Try.func9, Try.ntmps9
  have hM0 := Mem.start w
  (go_step; go_step; refine wp_region_lit ?_)
  refine wl_new hM0 (f := fun b => .pointer (some ⟨b, 0, none⟩)) (ob := .cells z16 30 (0, 0)) (fun W => run_alloc_of rfl (al_Pt W)) rfl fun b1 W1 hM1 => ?_
  simp only [Act.put, List.setIfInBounds_toArray, List.set_cons_zero, List.set_cons_succ]
  refine wpList_nil ?_
  (go_step; go_step; go_step; refine wp_region_lit ?_)
  refine wl_call hM1 (args := #[]) (v := pv4 zero4) (fun W => run_call_fn W (enters_of Try.func40 rfl rfl) rfl (by simp [Act.eval])) (zero4_any W1) rfl fun W2 hM2 => ?_
  simp only [Act.put, List.setIfInBounds_toArray, List.set_cons_zero, List.set_cons_succ]
  refine wl_new hM2 (f := fun b => .pointer (some ⟨b, 0, none⟩)) (ob := .cells z16 30 (0, 0)) (fun W => run_alloc_of rfl (al_Pt W)) rfl fun b2 W3 hM3 => ?_
  simp only [Act.put, List.setIfInBounds_toArray, List.set_cons_zero, List.set_cons_succ]
  refine wl_set hM3 0 (cs := ((pc4 zero4))) rfl rfl rfl rfl rowPt rfl (one_p4 _) rfl rfl fun W4 hM4 => ?_
  simp only [List.set_cons_zero, List.set_cons_succ] at hM4
  refine wpList_nil ?_
  (go_step; go_step; go_step; refine wp_region_lit ?_)
  refine wl_call hM4 (args := #[]) (v := numV dN) (fun W => run_call_fn W (enters_of Try.func41 rfl rfl) rfl (by simp [Act.eval])) (newadder_any W4) rfl fun W5 hM5 => ?_
  simp only [Act.put, List.setIfInBounds_toArray, List.set_cons_zero, List.set_cons_succ]
  refine wl_new hM5 (f := fun b => .pointer (some ⟨b, 0, none⟩)) (ob := .cells z4 73 (0, 0)) (fun W => run_alloc_of rfl (al_Ad W)) rfl fun b3 W6 hM6 => ?_
  simp only [Act.put, List.setIfInBounds_toArray, List.set_cons_zero, List.set_cons_succ]
  refine wl_set hM6 0 (cs := (elR dN)) rfl rfl rfl rfl rowAd rfl (one_el dN) rfl rfl fun W7 hM7 => ?_
  simp only [List.set_cons_zero, List.set_cons_succ] at hM7
  refine wpList_nil ?_
  (go_step; go_step; go_step; go_step; refine wp_region_lit ?_)
  refine wl_pure (v := .slice (some ⟨g, 0, none⟩) 3 3) (fun _ => rfl) rfl ?_
  simp only [Act.put, List.setIfInBounds_toArray, List.set_cons_zero, List.set_cons_succ]
  refine wl_pure (v := .int .i64 3) (fun W => by go_simp) rfl ?_
  simp only [Act.put, List.setIfInBounds_toArray, List.set_cons_zero, List.set_cons_succ]
  refine wl_pure (v := .int .i64 0) (fun _ => rfl) rfl ?_
  simp only [Act.put, List.setIfInBounds_toArray, List.set_cons_zero, List.set_cons_succ]
  refine wpList_nil ?_
  (go_step; go_step; go_step; refine wp_loop_rounds 4 ?_)
  rw [rounds_succ]
  (go_step; refine wp_region_lit ?_)
  refine wl_pure (v := .bool true) (fun W => by go_simp) rfl ?_
  simp only [Act.put, List.setIfInBounds_toArray, List.set_cons_zero, List.set_cons_succ]
  refine wpList_nil ?_
  (go_step; go_step; go_step; go_step; go_step; go_step; go_step; go_step; go_step; go_step; refine wp_region_lit ?_)
  refine wl_pure (v := .pointer (some ⟨g, 0, none⟩)) (fun W => by go_simp) rfl ?_
  simp only [Act.put, List.setIfInBounds_toArray, List.set_cons_zero, List.set_cons_succ]
  refine wl_far (hM7.old hg) (v := pv4 a) (sub := (pc4 a)) rfl rfl rfl rfl rowPt rfl ?_
  simp only [Act.put, List.setIfInBounds_toArray, List.set_cons_zero, List.set_cons_succ]
  refine wl_new hM7 (f := fun b => .pointer (some ⟨b, 0, none⟩)) (ob := .cells z16 30 (0, 0)) (fun W => run_alloc_of rfl (al_Pt W)) rfl fun b4 W8 hM8 => ?_
  simp only [Act.put, List.setIfInBounds_toArray, List.set_cons_zero, List.set_cons_succ]
  refine wl_set hM8 0 (cs := ((pc4 a))) rfl rfl rfl rfl rowPt rfl (one_p4 _) rfl rfl fun W9 hM9 => ?_
  simp only [List.set_cons_zero, List.set_cons_succ] at hM9
  refine wpList_nil ?_
  (go_step; go_step; refine wp_region_lit ?_)
  refine wl_row hM9 1 (v := numV dN) rfl rfl rfl rfl rowAd rfl ?_
  simp only [Act.put, List.setIfInBounds_toArray, List.set_cons_zero, List.set_cons_succ]
  refine wl_row hM9 2 (v := pv4 zero4) rfl rfl rfl rfl rowPt rfl ?_
  simp only [Act.put, List.setIfInBounds_toArray, List.set_cons_zero, List.set_cons_succ]
  refine wl_row hM9 0 (v := pv4 a) rfl rfl rfl rfl rowPt rfl ?_
  simp only [Act.put, List.setIfInBounds_toArray, List.set_cons_zero, List.set_cons_succ]
  obtain ⟨r1, er1⟩ : ∃ x, x = add4 zero4 a := ⟨_, rfl⟩
  have or1 := ok4_add ok4_zero ha
  rw [← er1] at or1
  have Kr1 := Lib.hid (fun W => adderadd4 ok4_zero ha W)
  simp only [← er1] at Kr1
  refine wl_call hM9 (args := #[numV dN, pv4 zero4, pv4 a]) (v := pv4 r1) (fun W => run_call_fn W (enters_of Try.func42 rfl rfl) rfl (by simp [Act.eval])) (Kr1.out W9) rfl fun W10 hM10 => ?_
  simp only [Act.put, List.setIfInBounds_toArray, List.set_cons_zero, List.set_cons_succ]
  refine wl_set hM10 2 (cs := ((pc4 r1))) rfl rfl rfl rfl rowPt rfl (one_p4 _) rfl rfl fun W11 hM11 => ?_
  simp only [List.set_cons_zero, List.set_cons_succ] at hM11
  refine wpList_nil ?_
  (go_step; go_step; refine wp_region_lit ?_)
  refine wl_pure (v := .int .i64 1) (fun W => by go_simp; decide) rfl ?_
  simp only [Act.put, List.setIfInBounds_toArray, List.set_cons_zero, List.set_cons_succ]
  refine wl_pure (v := .int .i64 1) (fun _ => rfl) rfl ?_
  simp only [Act.put, List.setIfInBounds_toArray, List.set_cons_zero, List.set_cons_succ]
  refine wpList_nil ?_
  go_step
  rw [rounds_succ]
  (go_step; refine wp_region_lit ?_)
  refine wl_pure (v := .bool true) (fun W => by go_simp) rfl ?_
  simp only [Act.put, List.setIfInBounds_toArray, List.set_cons_zero, List.set_cons_succ]
  refine wpList_nil ?_
  (go_step; go_step; go_step; go_step; go_step; go_step; go_step; go_step; go_step; go_step; refine wp_region_lit ?_)
  refine wl_pure (v := .pointer (some ⟨g, 16, none⟩)) (fun W => by go_simp) rfl ?_
  simp only [Act.put, List.setIfInBounds_toArray, List.set_cons_zero, List.set_cons_succ]
  refine wl_far (hM11.old hg) (v := pv4 b) (sub := (pc4 b)) rfl rfl rfl rfl rowPt rfl ?_
  simp only [Act.put, List.setIfInBounds_toArray, List.set_cons_zero, List.set_cons_succ]
  refine wl_new hM11 (f := fun b => .pointer (some ⟨b, 0, none⟩)) (ob := .cells z16 30 (0, 0)) (fun W => run_alloc_of rfl (al_Pt W)) rfl fun b5 W12 hM12 => ?_
  simp only [Act.put, List.setIfInBounds_toArray, List.set_cons_zero, List.set_cons_succ]
  refine wl_set hM12 0 (cs := ((pc4 b))) rfl rfl rfl rfl rowPt rfl (one_p4 _) rfl rfl fun W13 hM13 => ?_
  simp only [List.set_cons_zero, List.set_cons_succ] at hM13
  refine wpList_nil ?_
  (go_step; go_step; refine wp_region_lit ?_)
  refine wl_row hM13 2 (v := numV dN) rfl rfl rfl rfl rowAd rfl ?_
  simp only [Act.put, List.setIfInBounds_toArray, List.set_cons_zero, List.set_cons_succ]
  refine wl_row hM13 3 (v := pv4 r1) rfl rfl rfl rfl rowPt rfl ?_
  simp only [Act.put, List.setIfInBounds_toArray, List.set_cons_zero, List.set_cons_succ]
  refine wl_row hM13 0 (v := pv4 b) rfl rfl rfl rfl rowPt rfl ?_
  simp only [Act.put, List.setIfInBounds_toArray, List.set_cons_zero, List.set_cons_succ]
  obtain ⟨r2, er2⟩ : ∃ x, x = add4 r1 b := ⟨_, rfl⟩
  have or2 := ok4_add or1 hb
  rw [← er2] at or2
  have Kr2 := Lib.hid (fun W => adderadd4 or1 hb W)
  simp only [← er2] at Kr2
  refine wl_call hM13 (args := #[numV dN, pv4 r1, pv4 b]) (v := pv4 r2) (fun W => run_call_fn W (enters_of Try.func42 rfl rfl) rfl (by simp [Act.eval])) (Kr2.out W13) rfl fun W14 hM14 => ?_
  simp only [Act.put, List.setIfInBounds_toArray, List.set_cons_zero, List.set_cons_succ]
  refine wl_set hM14 3 (cs := ((pc4 r2))) rfl rfl rfl rfl rowPt rfl (one_p4 _) rfl rfl fun W15 hM15 => ?_
  simp only [List.set_cons_zero, List.set_cons_succ] at hM15
  refine wpList_nil ?_
  (go_step; go_step; refine wp_region_lit ?_)
  refine wl_pure (v := .int .i64 2) (fun W => by go_simp; decide) rfl ?_
  simp only [Act.put, List.setIfInBounds_toArray, List.set_cons_zero, List.set_cons_succ]
  refine wl_pure (v := .int .i64 2) (fun _ => rfl) rfl ?_
  simp only [Act.put, List.setIfInBounds_toArray, List.set_cons_zero, List.set_cons_succ]
  refine wpList_nil ?_
  go_step
  rw [rounds_succ]
  (go_step; refine wp_region_lit ?_)
  refine wl_pure (v := .bool true) (fun W => by go_simp) rfl ?_
  simp only [Act.put, List.setIfInBounds_toArray, List.set_cons_zero, List.set_cons_succ]
  refine wpList_nil ?_
  (go_step; go_step; go_step; go_step; go_step; go_step; go_step; go_step; go_step; go_step; refine wp_region_lit ?_)
  refine wl_pure (v := .pointer (some ⟨g, 32, none⟩)) (fun W => by go_simp) rfl ?_
  simp only [Act.put, List.setIfInBounds_toArray, List.set_cons_zero, List.set_cons_succ]
  refine wl_far (hM15.old hg) (v := pv4 c) (sub := (pc4 c)) rfl rfl rfl rfl rowPt rfl ?_
  simp only [Act.put, List.setIfInBounds_toArray, List.set_cons_zero, List.set_cons_succ]
  refine wl_new hM15 (f := fun b => .pointer (some ⟨b, 0, none⟩)) (ob := .cells z16 30 (0, 0)) (fun W => run_alloc_of rfl (al_Pt W)) rfl fun b6 W16 hM16 => ?_
  simp only [Act.put, List.setIfInBounds_toArray, List.set_cons_zero, List.set_cons_succ]
  refine wl_set hM16 0 (cs := ((pc4 c))) rfl rfl rfl rfl rowPt rfl (one_p4 _) rfl rfl fun W17 hM17 => ?_
  simp only [List.set_cons_zero, List.set_cons_succ] at hM17
  refine wpList_nil ?_
  (go_step; go_step; refine wp_region_lit ?_)
  refine wl_row hM17 3 (v := numV dN) rfl rfl rfl rfl rowAd rfl ?_
  simp only [Act.put, List.setIfInBounds_toArray, List.set_cons_zero, List.set_cons_succ]
  refine wl_row hM17 4 (v := pv4 r2) rfl rfl rfl rfl rowPt rfl ?_
  simp only [Act.put, List.setIfInBounds_toArray, List.set_cons_zero, List.set_cons_succ]
  refine wl_row hM17 0 (v := pv4 c) rfl rfl rfl rfl rowPt rfl ?_
  simp only [Act.put, List.setIfInBounds_toArray, List.set_cons_zero, List.set_cons_succ]
  obtain ⟨r3, er3⟩ : ∃ x, x = add4 r2 c := ⟨_, rfl⟩
  have or3 := ok4_add or2 hc
  rw [← er3] at or3
  have Kr3 := Lib.hid (fun W => adderadd4 or2 hc W)
  simp only [← er3] at Kr3
  refine wl_call hM17 (args := #[numV dN, pv4 r2, pv4 c]) (v := pv4 r3) (fun W => run_call_fn W (enters_of Try.func42 rfl rfl) rfl (by simp [Act.eval])) (Kr3.out W17) rfl fun W18 hM18 => ?_
  simp only [Act.put, List.setIfInBounds_toArray, List.set_cons_zero, List.set_cons_succ]
  refine wl_set hM18 4 (cs := ((pc4 r3))) rfl rfl rfl rfl rowPt rfl (one_p4 _) rfl rfl fun W19 hM19 => ?_
  simp only [List.set_cons_zero, List.set_cons_succ] at hM19
  refine wpList_nil ?_
  (go_step; go_step; refine wp_region_lit ?_)
  refine wl_pure (v := .int .i64 3) (fun W => by go_simp; decide) rfl ?_
  simp only [Act.put, List.setIfInBounds_toArray, List.set_cons_zero, List.set_cons_succ]
  refine wl_pure (v := .int .i64 3) (fun _ => rfl) rfl ?_
  simp only [Act.put, List.setIfInBounds_toArray, List.set_cons_zero, List.set_cons_succ]
  refine wpList_nil ?_
  go_step
  rw [rounds_succ]
  (go_step; refine wp_region_lit ?_)
  refine wl_pure (v := .bool false) (fun W => by go_simp) rfl ?_
  simp only [Act.put, List.setIfInBounds_toArray, List.set_cons_zero, List.set_cons_succ]
  refine wpList_nil ?_
  (go_step; go_step; go_step; go_step; go_step; go_step; go_step; go_step; refine wp_region_lit ?_)
  refine wl_row hM19 4 (v := pv4 r3) rfl rfl rfl rfl rowPt rfl ?_
  simp only [Act.put, List.setIfInBounds_toArray, List.set_cons_zero, List.set_cons_succ]
  refine wl_set hM19 5 (cs := ((pc4 r3))) rfl rfl rfl rfl rowPt rfl (one_p4 _) rfl rfl fun W20 hM20 => ?_
  simp only [List.set_cons_zero, List.set_cons_succ] at hM20
  refine wpList_nil ?_
  (go_step; go_step; go_step; refine bodyPost_ret (v := pv4 r3) (results_arr Try.results9 rfl (hM20.load 5 rfl rowPt)) rfl ⟨?_, hM20.below⟩)
  exact by rw [er3, er2, er1]
end Go.Proofs.Ytigfoophimjgdaa
namespace Go.Proofs.Ytigfoophimjgdaa
set_option maxRecDepth 20000
set_option linter.unusedSimpArgs false
set_option linter.unusedVariables false
open Go.RowKit Go.Sort
theorem run_not_of {P : Program} {o : Oper} {A : Act} {t : TypeId} {x : Operand} {b : Bool} (W : World) (ho : o.op = .unOp .not t x) (hx : A.eval x = .bool b) {c : Bool} (hc : (!b) = c) : (execOp A.eval o).run P W = .ok (.value (.bool c)) W := by
  subst hc
  unfold execOp
  simp only [ho, hx]
  rfl
theorem run_eqint_of {P : Program} {o : Oper} {A : Act} {t t' : TypeId} {x y : Operand} {k : IntKind} {m n : Int} (W : World) (ho : o.op = .binOp .eql t x y t') (hx : A.eval x = .int k m) (hy : A.eval y = .int k n) {c : Bool} (hc : (m == n) = c) : (execOp A.eval o).run P W = .ok (.value (.bool c)) W := by
  subst hc
  unfold execOp
  simp only [ho, hx, hy]
  simp [eqGuard, binOp, Op.intCmp, Sem.run_bind]
theorem run_neint_of {P : Program} {o : Oper} {A : Act} {t t' : TypeId} {x y : Operand} {k : IntKind} {m n : Int} (W : World) (ho : o.op = .binOp .neq t x y t') (hx : A.eval x = .int k m) (hy : A.eval y = .int k n) {c : Bool} (hc : (!(m == n)) = c) : (execOp A.eval o).run P W = .ok (.value (.bool c)) W := by
  subst hc
  unfold execOp
  simp only [ho, hx, hy]
  simp [eqGuard, binOp, Op.intCmp, Sem.run_bind]
  rfl
theorem bin_eql_b (m n : Bool) (x y : Operand) (W : World) : (do eqGuard .eql 4 x y (.bool m) (.bool n); binOp .eql 4 (.bool m) (.bool n) : Sem Value).run Try.prog W = .ok (.bool (m == n)) W := by
  go_simp
theorem bin_neq_b (m n : Bool) (x y : Operand) (W : World) : (do eqGuard .neq 4 x y (.bool m) (.bool n); binOp .neq 4 (.bool m) (.bool n) : Sem Value).run Try.prog W = .ok (.bool (!(m == n))) W := by
  go_simp
theorem run_cv_of {P : Program} {o : Oper} {A : Act} {t t' : TypeId} {x : Operand} {u v : Value} {W W' : World} (ho : o.op = .convert t t' x) (hx : A.eval x = u) (h : (convert t t' u).run P W = .ok v W') : (execOp A.eval o).run P W = .ok (.value v) W' := by
  unfold execOp
  simp only [ho, hx, Sem.run_bind, h, Result.andThen_ok]
  rfl
theorem cv32 (k : Nat) (hk : k < 4294967296) (W : World) : (convert 22 23 (.int .u32 (k : Int))).run Try.prog W = .ok (.int .u64 (k : Int)) W := by
  have e : IntKind.u64.wrap (k : Int) = (k : Int) := IntWalk.u64_in _ (by omega)
  go_simp
theorem bdN1 (k : Nat) (hk : k < 18446744073709551616) (W : World) : (Instr.build 24 #[(0, .int .u64 (k : Int))]).run Try.prog W = .ok (numV k) W := by
  have h0 : wd k 0 = k := by simp [wd, B64]; omega
  have h1 : wd k 1 = 0 := by simp [wd, B64]; omega
  have h2 : wd k 2 = 0 := by simp [wd, B64]; omega
  have h3 : wd k 3 = 0 := by simp [wd, B64]; omega
  unfold numV
  rw [h0, h1, h2, h3]
  go_simp
section
variable {α : Type} [Lean.Grind.CommRing α]
theorem mk_ring (A B d x y : α) (h : d * A = -B) : A - B * (x * x) * (y * y) = (1 + d * (x * x) * (y * y)) * A := by grind
theorem is_ring (d x y : α) : 1 + d * (x * x * (y * y)) = 1 + d * (x * x) * (y * y) := by grind
theorem com_ring (A b : α) : A * b = b * A := by grind
end
theorem d_fz : dF * fz 121666 = -(fz 121665) := by
  have h1 : fz (dN * 121666) = fz (PN - 121665) := by rw [← fz_mod, d_is.1, fz_mod]
  rw [fz_mul] at h1
  show fz dN * fz 121666 = -(fz 121665)
  rw [h1, ← fz_negm 121665 (by decide +kernel), fz_mod]
  congr 1
theorem small_fz : fz 121666 ≠ 0 := fun e => absurd ((fz_null 121666).1 e) (by decide +kernel)
theorem makeB_on (X Y : Nat) : makeB X Y = true ↔ On (fz X, fz Y) := by
  unfold makeB On
  rw [decide_eq_true_eq]
  have e : ∀ a b : Nat, (a % PN = b % PN) = (fz a = fz b) := fun a b => propext (fz_eq a b)
  rw [e]
  simp only [fz_mod, fz_mul, fz_sub _ _ (Nat.le_of_lt (md _))]
  rw [mk_ring _ _ _ _ _ d_fz, com_ring]
  constructor
  · intro h
    exact fp_cancel _ _ _ small_fz h
  · intro h
    rw [show fz Y * fz Y - fz X * fz X = 1 + dF * (fz X * fz X) * (fz Y * fz Y) from h]
theorem isB_on (X Y : Nat) : isB X Y = true ↔ On (fz X, fz Y) := by
  unfold isB On
  rw [decide_eq_true_eq]
  have e : ∀ a b : Nat, (a % PN = b % PN) = (fz a = fz b) := fun a b => propext (fz_eq a b)
  rw [e, fz_sub _ _ (Nat.le_of_lt (md _))]
  simp only [fz_mod, fz_mul, fz_add, fz_one]
  rw [is_ring]
theorem make_yes (X Y : Nat) (hX : X < PN) (hY : Y < PN) (h : On (fz X, fz Y)) (w : World) : Calls Try.prog 33 #[numV X, numV Y] w fun E w' => E = .returned (.tuple #[pv4 (X, Y, 1, X * Y % PN), .int .i64 0]) ∧ Below w.heap.size w w' := by
  have hc := make_any X Y hX hY w
  rw [makeR, (makeB_on X Y).2 h] at hc
  exact hc
theorem make_no (X Y : Nat) (hX : X < PN) (hY : Y < PN) (h : ¬ On (fz X, fz Y)) (w : World) : Calls Try.prog 33 #[numV X, numV Y] w fun E w' => E = .returned (.tuple #[pv4 zero4, .int .i64 22]) ∧ Below w.heap.size w w' := by
  have hc := make_any X Y hX hY w
  rw [makeR, Bool.eq_false_iff.2 (fun e => h ((makeB_on X Y).1 e))] at hc
  exact hc
theorem el' (n : Nat) (w : World) (h : n < PN) : Calls Try.prog 34 #[numV n] w fun e w' => e = .returned (numV n) ∧ Below w.heap.size w w' := by
  have hc := el_any n w (of_PN h)
  rw [Nat.mod_eq_of_lt h] at hc
  exact hc
/-- A point by its x and y. -/
def at4 (p : Pt) : N4 := (p.1.val, p.2.val, 1, p.1.val * p.2.val % PN)
theorem ok4_p (p : Pt) (hp : On p) : Ok4 (at4 p) p := ok4_at _ _ p p.1.isLt p.2.isLt hp (fz_of p.1).symm (fz_of p.2).symm
theorem make_pt (p : Pt) (hp : On p) (X Y : Nat) (hX : X = p.1.val) (hY : Y = p.2.val) (w : World) : Calls Try.prog 33 #[numV X, numV Y] w fun E w' => E = .returned (.tuple #[pv4 (at4 p), .int .i64 0]) ∧ Below w.heap.size w w' := by
  subst hX hY
  refine make_yes _ _ p.1.isLt p.2.isLt ?_ w
  rw [fz_of, fz_of]
  exact hp
theorem bin_eql_nu_self (a : Nat) (x y : Operand) (W : World) (ha : a < PN) : (do eqGuard .eql 25 x y (numV a) (numV a); binOp .eql 25 (numV a) (numV a) : Sem Value).run Try.prog W = .ok (.bool true) W := by
  have h := bin_eql_nu a a x y W (of_PN ha) (of_PN ha)
  rw [decide_eq_true rfl] at h
  exact h
theorem xyp0 (w : World) : Calls Try.prog 46 #[.agg z16] w fun E w' => E = .returned (.tuple #[numV (zeroE.1).val, numV (zeroE.2).val]) ∧ Below w.heap.size w w' := by
  have h := xy_none w
  have hr := ok4_zero.ext.rep
  rw [(xy_of 0 1 1 zeroE one_below hr).1, (xy_of 0 1 1 zeroE one_below hr).2] at h
  exact h
end Go.Proofs.Ytigfoophimjgdaa
namespace Go.Proofs.Ytigfoophimjgdaa
set_option maxRecDepth 20000
set_option linter.unusedSimpArgs false
set_option linter.unusedVariables false
open Go.RowKit Go.Sort
theorem el'2 (n : Nat) (h : n < PN) (w : World) : Calls Try.prog 34 #[numV n] w fun e w' => e = .returned (numV n) ∧ Below w.heap.size w w' := el' n w h
set_option maxRecDepth 20000 in
set_option maxHeartbeats 8000000 in
theorem is_yes {a : N4} {b : N3} {p : Pt} (ha : Ok4 a p) (hb : Ok3 b p) (w : World) : Calls Try.prog 18 #[pv4 a, pv3 b] w fun E w' => E = .returned (.bool true) ∧ Below w.heap.size w w' := by
  have HMIX := Lib.hid (show Try.prog.follows .mixedOrders = true by kernel_rfl)
  go_enter Try.func18, Try.ntmps18
  have hM0 := Mem.start w
  (go_step; go_step; refine wp_region_lit ?_)
  refine wl_new hM0 (f := fun b => .pointer (some ⟨b, 0, none⟩)) (ob := .cells ((pc4 a)) 30 (0, 0)) (fun W => run_box_of rfl rfl (bx_P4 _ W)) rfl fun b1 W1 hM1 => ?_
  simp only [Act.put, List.setIfInBounds_toArray, List.set_cons_zero, List.set_cons_succ]
  refine wl_new hM1 (f := fun b => .pointer (some ⟨b, 0, none⟩)) (ob := .cells ((rpL b.1 b.2.1 b.2.2).toArray) 32 (0, 0)) (fun W => run_box_of rfl rfl (bx_Rp _ _ _ W)) rfl fun b2 W2 hM2 => ?_
  simp only [Act.put, List.setIfInBounds_toArray, List.set_cons_zero, List.set_cons_succ]
  refine wl_pure (v := .bool false) (fun _ => rfl) rfl ?_
  simp only [Act.put, List.setIfInBounds_toArray, List.set_cons_zero, List.set_cons_succ]
  refine wpList_nil ?_
  (go_step; go_step; go_step; refine wp_region_lit ?_)
  refine wl_row hM2 1 (v := pv4 a) rfl rfl rfl rfl rowPt rfl ?_
  simp only [Act.put, List.setIfInBounds_toArray, List.set_cons_zero, List.set_cons_succ]
  obtain ⟨v1, ev1⟩ : ∃ x, x = p.1.val := ⟨_, rfl⟩
  have pv1 : v1 < PN := by rw [ev1]; exact Fin.isLt _
  obtain ⟨v2, ev2⟩ : ∃ x, x = p.2.val := ⟨_, rfl⟩
  have pv2 : v2 < PN := by rw [ev2]; exact Fin.isLt _
  have KX16 := Lib.hid (fun W => xyp4 ha W)
  simp only [← ev1, ← ev2] at KX16
  refine wl_call hM2 (args := #[pv4 a]) (v := .tuple #[numV v1, numV v2]) (fun W => run_call_fn W (enters_of Try.func46 rfl rfl) rfl (by simp [Act.eval])) (KX16.out W2) rfl fun W3 hM3 => ?_
  simp only [Act.put, List.setIfInBounds_toArray, List.set_cons_zero, List.set_cons_succ]
  refine wl_pure (v := .tuple #[numV v1, numV v2]) (fun _ => rfl) rfl ?_
  simp only [Act.put, List.setIfInBounds_toArray, List.set_cons_zero, List.set_cons_succ]
  refine wl_pure (v := numV v1) (fun _ => rfl) rfl ?_
  simp only [Act.put, List.setIfInBounds_toArray, List.set_cons_zero, List.set_cons_succ]
  refine wl_pure (v := numV v2) (fun _ => rfl) rfl ?_
  simp only [Act.put, List.setIfInBounds_toArray, List.set_cons_zero, List.set_cons_succ]
  refine wl_new hM3 (f := fun b => .pointer (some ⟨b, 0, none⟩)) (ob := .cells z4 27 (0, 0)) (fun W => run_alloc_of rfl (al_El W)) rfl fun b3 W4 hM4 => ?_
  simp only [Act.put, List.setIfInBounds_toArray, List.set_cons_zero, List.set_cons_succ]
  refine wl_new hM4 (f := fun b => .pointer (some ⟨b, 0, none⟩)) (ob := .cells z4 27 (0, 0)) (fun W => run_alloc_of rfl (al_El W)) rfl fun b4 W5 hM5 => ?_
  simp only [Act.put, List.setIfInBounds_toArray, List.set_cons_zero, List.set_cons_succ]
  refine wl_set hM5 1 (cs := (elR v1)) rfl rfl rfl rfl rowEl rfl (one_el v1) rfl rfl fun W6 hM6 => ?_
  simp only [List.set_cons_zero, List.set_cons_succ] at hM6
  refine wl_set hM6 0 (cs := (elR v2)) rfl rfl rfl rfl rowEl rfl (one_el v2) rfl rfl fun W7 hM7 => ?_
  simp only [List.set_cons_zero, List.set_cons_succ] at hM7
  refine wpList_nil ?_
  (go_step; go_step; go_step; refine wp_region_lit ?_)
  refine wl_row hM7 2 (v := pv3 b) rfl rfl rfl rfl rowRp rfl ?_
  simp only [Act.put, List.setIfInBounds_toArray, List.set_cons_zero, List.set_cons_succ]
  have KX38 := Lib.hid (fun W => rxy3 hb W)
  simp only [← ev1, ← ev2] at KX38
  refine wl_call hM7 (args := #[pv3 b]) (v := .tuple #[numV v1, numV v2]) (fun W => run_call_fn W (enters_of Try.func32 rfl rfl) rfl (by simp [Act.eval])) (KX38.out W7) rfl fun W8 hM8 => ?_
  simp only [Act.put, List.setIfInBounds_toArray, List.set_cons_zero, List.set_cons_succ]
  refine wl_pure (v := .tuple #[numV v1, numV v2]) (fun _ => rfl) rfl ?_
  simp only [Act.put, List.setIfInBounds_toArray, List.set_cons_zero, List.set_cons_succ]
  refine wl_pure (v := numV v1) (fun _ => rfl) rfl ?_
  simp only [Act.put, List.setIfInBounds_toArray, List.set_cons_zero, List.set_cons_succ]
  refine wl_pure (v := numV v2) (fun _ => rfl) rfl ?_
  simp only [Act.put, List.setIfInBounds_toArray, List.set_cons_zero, List.set_cons_succ]
  refine wl_new hM8 (f := fun b => .pointer (some ⟨b, 0, none⟩)) (ob := .cells z4 24 (0, 0)) (fun W => run_alloc_of rfl (al_Nu W)) rfl fun b5 W9 hM9 => ?_
  simp only [Act.put, List.setIfInBounds_toArray, List.set_cons_zero, List.set_cons_succ]
  refine wl_new hM9 (f := fun b => .pointer (some ⟨b, 0, none⟩)) (ob := .cells z4 24 (0, 0)) (fun W => run_alloc_of rfl (al_Nu W)) rfl fun b6 W10 hM10 => ?_
  simp only [Act.put, List.setIfInBounds_toArray, List.set_cons_zero, List.set_cons_succ]
  refine wl_set hM10 1 (cs := (elR v1)) rfl rfl rfl rfl rowNu rfl (one_el v1) rfl rfl fun W11 hM11 => ?_
  simp only [List.set_cons_zero, List.set_cons_succ] at hM11
  refine wl_set hM11 0 (cs := (elR v2)) rfl rfl rfl rfl rowNu rfl (one_el v2) rfl rfl fun W12 hM12 => ?_
  simp only [List.set_cons_zero, List.set_cons_succ] at hM12
  refine wpList_nil ?_
  (go_step; go_step; go_step; refine wp_region_inw 11 HMIX.out (by decide) (by kernel_rfl) (by kernel_rfl) ?_)
  refine inw_row hM12 3 (v := numV v1) rfl rfl rfl rfl rowEl rfl rfl ?_; simp only [Act.put, List.setIfInBounds_toArray, List.set_cons_zero, List.set_cons_succ]
  refine inw_callV (args := #[numV v1]) (v := numV v1) (fun W => run_call_fn W (enters_of Try.func50 rfl rfl) rfl (by simp [Act.eval])) (fun W _ => pnum_any v1 W) rfl rfl ?_; simp only [Act.put, List.setIfInBounds_toArray, List.set_cons_zero, List.set_cons_succ]
  refine inw_row hM12 1 (v := numV v1) rfl rfl rfl rfl rowNu rfl rfl ?_; simp only [Act.put, List.setIfInBounds_toArray, List.set_cons_zero, List.set_cons_succ]
  refine inw_pure (v := .bool true) (fun W => run_bin_of rfl rfl rfl (bin_eql_nu_self v1 _ _ W pv1)) rfl rfl ?_; simp only [Act.put, List.setIfInBounds_toArray, List.set_cons_zero, List.set_cons_succ]
  refine inw_pure (v := .bool true) (fun _ => rfl) rfl rfl ?_; simp only [Act.put, List.setIfInBounds_toArray, List.set_cons_zero, List.set_cons_succ]
  refine inw_row hM12 2 (v := numV v2) rfl rfl rfl rfl rowEl rfl rfl ?_; simp only [Act.put, List.setIfInBounds_toArray, List.set_cons_zero, List.set_cons_succ]
  refine inw_callV (args := #[numV v2]) (v := numV v2) (fun W => run_call_fn W (enters_of Try.func50 rfl rfl) rfl (by simp [Act.eval])) (fun W _ => pnum_any v2 W) rfl rfl ?_; simp only [Act.put, List.setIfInBounds_toArray, List.set_cons_zero, List.set_cons_succ]
  refine inw_row hM12 0 (v := numV v2) rfl rfl rfl rfl rowNu rfl rfl ?_; simp only [Act.put, List.setIfInBounds_toArray, List.set_cons_zero, List.set_cons_succ]
  refine inw_pure (v := .bool true) (fun W => run_bin_of rfl rfl rfl (bin_eql_nu_self v2 _ _ W pv2)) rfl rfl ?_; simp only [Act.put, List.setIfInBounds_toArray, List.set_cons_zero, List.set_cons_succ]
  refine inw_pure (v := .bool true) (fun _ => rfl) rfl rfl ?_; simp only [Act.put, List.setIfInBounds_toArray, List.set_cons_zero, List.set_cons_succ]
  refine inw_pure (v := .bool true) (fun _ => rfl) rfl rfl ?_; simp only [Act.put, List.setIfInBounds_toArray, List.set_cons_zero, List.set_cons_succ]
  refine inw_fin fun d os => ?_
  refine given_nil fun hap => ?_
  have hM13 := hM12.calls (below_regrown W12 d os)
  clear hap 
  generalize grow (redrawn W12 d) os = W13 at hM13 ⊢
  refine wpAny_done (by kernel_rfl) ?_ _
  (go_step; go_step; go_step; refine bodyPost_ret (v := .bool true) (results_slot Try.results18 rfl) rfl ⟨?_, hM13.below⟩)
  exact rfl
set_option maxRecDepth 20000 in
set_option maxHeartbeats 8000000 in
theorem is_zero {b : N3} (hb : Ok3 b zeroE) (w : World) : Calls Try.prog 18 #[.agg z16, pv3 b] w fun E w' => E = .returned (.bool true) ∧ Below w.heap.size w w' := by
  have HMIX := Lib.hid (show Try.prog.follows .mixedOrders = true by kernel_rfl)
  go_enter Try.func18, Try.ntmps18
  have hM0 := Mem.start w
  (go_step; go_step; refine wp_region_lit ?_)
  refine wl_new hM0 (f := fun b => .pointer (some ⟨b, 0, none⟩)) (ob := .cells z16 30 (0, 0)) (fun W => run_box_of rfl rfl (bx_Pt0 W)) rfl fun b1 W1 hM1 => ?_
  simp only [Act.put, List.setIfInBounds_toArray, List.set_cons_zero, List.set_cons_succ]
  refine wl_new hM1 (f := fun b => .pointer (some ⟨b, 0, none⟩)) (ob := .cells ((rpL b.1 b.2.1 b.2.2).toArray) 32 (0, 0)) (fun W => run_box_of rfl rfl (bx_Rp _ _ _ W)) rfl fun b2 W2 hM2 => ?_
  simp only [Act.put, List.setIfInBounds_toArray, List.set_cons_zero, List.set_cons_succ]
  refine wl_pure (v := .bool false) (fun _ => rfl) rfl ?_
  simp only [Act.put, List.setIfInBounds_toArray, List.set_cons_zero, List.set_cons_succ]
  refine wpList_nil ?_
  (go_step; go_step; go_step; refine wp_region_lit ?_)
  refine wl_row hM2 1 (v := .agg z16) rfl rfl rfl rfl rowPt rfl ?_
  simp only [Act.put, List.setIfInBounds_toArray, List.set_cons_zero, List.set_cons_succ]
  obtain ⟨v1, ev1⟩ : ∃ x, x = zeroE.1.val := ⟨_, rfl⟩
  have pv1 : v1 < PN := by rw [ev1]; exact Fin.isLt _
  obtain ⟨v2, ev2⟩ : ∃ x, x = zeroE.2.val := ⟨_, rfl⟩
  have pv2 : v2 < PN := by rw [ev2]; exact Fin.isLt _
  have KX16 := Lib.hid (fun W => xyp0 W)
  simp only [← ev1, ← ev2] at KX16
  refine wl_call hM2 (args := #[.agg z16]) (v := .tuple #[numV v1, numV v2]) (fun W => run_call_fn W (enters_of Try.func46 rfl rfl) rfl (by simp [Act.eval])) (KX16.out W2) rfl fun W3 hM3 => ?_
  simp only [Act.put, List.setIfInBounds_toArray, List.set_cons_zero, List.set_cons_succ]
  refine wl_pure (v := .tuple #[numV v1, numV v2]) (fun _ => rfl) rfl ?_
  simp only [Act.put, List.setIfInBounds_toArray, List.set_cons_zero, List.set_cons_succ]
  refine wl_pure (v := numV v1) (fun _ => rfl) rfl ?_
  simp only [Act.put, List.setIfInBounds_toArray, List.set_cons_zero, List.set_cons_succ]
  refine wl_pure (v := numV v2) (fun _ => rfl) rfl ?_
  simp only [Act.put, List.setIfInBounds_toArray, List.set_cons_zero, List.set_cons_succ]
  refine wl_new hM3 (f := fun b => .pointer (some ⟨b, 0, none⟩)) (ob := .cells z4 27 (0, 0)) (fun W => run_alloc_of rfl (al_El W)) rfl fun b3 W4 hM4 => ?_
  simp only [Act.put, List.setIfInBounds_toArray, List.set_cons_zero, List.set_cons_succ]
  refine wl_new hM4 (f := fun b => .pointer (some ⟨b, 0, none⟩)) (ob := .cells z4 27 (0, 0)) (fun W => run_alloc_of rfl (al_El W)) rfl fun b4 W5 hM5 => ?_
  simp only [Act.put, List.setIfInBounds_toArray, List.set_cons_zero, List.set_cons_succ]
  refine wl_set hM5 1 (cs := (elR v1)) rfl rfl rfl rfl rowEl rfl (one_el v1) rfl rfl fun W6 hM6 => ?_
  simp only [List.set_cons_zero, List.set_cons_succ] at hM6
  refine wl_set hM6 0 (cs := (elR v2)) rfl rfl rfl rfl rowEl rfl (one_el v2) rfl rfl fun W7 hM7 => ?_
  simp only [List.set_cons_zero, List.set_cons_succ] at hM7
  refine wpList_nil ?_
  (go_step; go_step; go_step; refine wp_region_lit ?_)
  refine wl_row hM7 2 (v := pv3 b) rfl rfl rfl rfl rowRp rfl ?_
  simp only [Act.put, List.setIfInBounds_toArray, List.set_cons_zero, List.set_cons_succ]
  have KX38 := Lib.hid (fun W => rxy3 hb W)
  simp only [← ev1, ← ev2] at KX38
  refine wl_call hM7 (args := #[pv3 b]) (v := .tuple #[numV v1, numV v2]) (fun W => run_call_fn W (enters_of Try.func32 rfl rfl) rfl (by simp [Act.eval])) (KX38.out W7) rfl fun W8 hM8 => ?_
  simp only [Act.put, List.setIfInBounds_toArray, List.set_cons_zero, List.set_cons_succ]
  refine wl_pure (v := .tuple #[numV v1, numV v2]) (fun _ => rfl) rfl ?_
  simp only [Act.put, List.setIfInBounds_toArray, List.set_cons_zero, List.set_cons_succ]
  refine wl_pure (v := numV v1) (fun _ => rfl) rfl ?_
  simp only [Act.put, List.setIfInBounds_toArray, List.set_cons_zero, List.set_cons_succ]
  refine wl_pure (v := numV v2) (fun _ => rfl) rfl ?_
  simp only [Act.put, List.setIfInBounds_toArray, List.set_cons_zero, List.set_cons_succ]
  refine wl_new hM8 (f := fun b => .pointer (some ⟨b, 0, none⟩)) (ob := .cells z4 24 (0, 0)) (fun W => run_alloc_of rfl (al_Nu W)) rfl fun b5 W9 hM9 => ?_
  simp only [Act.put, List.setIfInBounds_toArray, List.set_cons_zero, List.set_cons_succ]
  refine wl_new hM9 (f := fun b => .pointer (some ⟨b, 0, none⟩)) (ob := .cells z4 24 (0, 0)) (fun W => run_alloc_of rfl (al_Nu W)) rfl fun b6 W10 hM10 => ?_
  simp only [Act.put, List.setIfInBounds_toArray, List.set_cons_zero, List.set_cons_succ]
  refine wl_set hM10 1 (cs := (elR v1)) rfl rfl rfl rfl rowNu rfl (one_el v1) rfl rfl fun W11 hM11 => ?_
  simp only [List.set_cons_zero, List.set_cons_succ] at hM11
  refine wl_set hM11 0 (cs := (elR v2)) rfl rfl rfl rfl rowNu rfl (one_el v2) rfl rfl fun W12 hM12 => ?_
  simp only [List.set_cons_zero, List.set_cons_succ] at hM12
  refine wpList_nil ?_
  (go_step; go_step; go_step; refine wp_region_inw 11 HMIX.out (by decide) (by kernel_rfl) (by kernel_rfl) ?_)
  refine inw_row hM12 3 (v := numV v1) rfl rfl rfl rfl rowEl rfl rfl ?_; simp only [Act.put, List.setIfInBounds_toArray, List.set_cons_zero, List.set_cons_succ]
  refine inw_callV (args := #[numV v1]) (v := numV v1) (fun W => run_call_fn W (enters_of Try.func50 rfl rfl) rfl (by simp [Act.eval])) (fun W _ => pnum_any v1 W) rfl rfl ?_; simp only [Act.put, List.setIfInBounds_toArray, List.set_cons_zero, List.set_cons_succ]
  refine inw_row hM12 1 (v := numV v1) rfl rfl rfl rfl rowNu rfl rfl ?_; simp only [Act.put, List.setIfInBounds_toArray, List.set_cons_zero, List.set_cons_succ]
  refine inw_pure (v := .bool true) (fun W => run_bin_of rfl rfl rfl (bin_eql_nu_self v1 _ _ W pv1)) rfl rfl ?_; simp only [Act.put, List.setIfInBounds_toArray, List.set_cons_zero, List.set_cons_succ]
  refine inw_pure (v := .bool true) (fun _ => rfl) rfl rfl ?_; simp only [Act.put, List.setIfInBounds_toArray, List.set_cons_zero, List.set_cons_succ]
  refine inw_row hM12 2 (v := numV v2) rfl rfl rfl rfl rowEl rfl rfl ?_; simp only [Act.put, List.setIfInBounds_toArray, List.set_cons_zero, List.set_cons_succ]
  refine inw_callV (args := #[numV v2]) (v := numV v2) (fun W => run_call_fn W (enters_of Try.func50 rfl rfl) rfl (by simp [Act.eval])) (fun W _ => pnum_any v2 W) rfl rfl ?_; simp only [Act.put, List.setIfInBounds_toArray, List.set_cons_zero, List.set_cons_succ]
  refine inw_row hM12 0 (v := numV v2) rfl rfl rfl rfl rowNu rfl rfl ?_; simp only [Act.put, List.setIfInBounds_toArray, List.set_cons_zero, List.set_cons_succ]
  refine inw_pure (v := .bool true) (fun W => run_bin_of rfl rfl rfl (bin_eql_nu_self v2 _ _ W pv2)) rfl rfl ?_; simp only [Act.put, List.setIfInBounds_toArray, List.set_cons_zero, List.set_cons_succ]
  refine inw_pure (v := .bool true) (fun _ => rfl) rfl rfl ?_; simp only [Act.put, List.setIfInBounds_toArray, List.set_cons_zero, List.set_cons_succ]
  refine inw_pure (v := .bool true) (fun _ => rfl) rfl rfl ?_; simp only [Act.put, List.setIfInBounds_toArray, List.set_cons_zero, List.set_cons_succ]
  refine inw_fin fun d os => ?_
  refine given_nil fun hap => ?_
  have hM13 := hM12.calls (below_regrown W12 d os)
  clear hap 
  generalize grow (redrawn W12 d) os = W13 at hM13 ⊢
  refine wpAny_done (by kernel_rfl) ?_ _
  (go_step; go_step; go_step; refine bodyPost_ret (v := .bool true) (results_slot Try.results18 rfl) rfl ⟨?_, hM13.below⟩)
  exact rfl
set_option maxRecDepth 20000 in
set_option maxHeartbeats 8000000 in
theorem both_any (k : Nat) (hk : k < 4294967296) (w : World) : Calls Try.prog 7 #[.int .u32 (k : Int)] w fun E w' => E = .returned (.tuple #[pv4 (at4 (timesE k baseE)), pv3 (tms k (bX, bY, 1) 256)]) ∧ Below w.heap.size w w' := by
  have hk64 : k < 18446744073709551616 := by omega
  have hkB : k < B64 ^ 4 := Nat.lt_of_lt_of_le hk (by decide +kernel)
  have HMIX := Lib.hid (show Try.prog.follows .mixedOrders = true by kernel_rfl)
  go_enter Try.func7, Try.ntmps7
  have hM0 := Mem.start w
  (go_step; go_step; refine wp_region_lit ?_)
  refine wl_new hM0 (f := fun b => .pointer (some ⟨b, 0, none⟩)) (ob := .cells z16 30 (0, 0)) (fun W => run_alloc_of rfl (al_Pt W)) rfl fun b1 W1 hM1 => ?_
  simp only [Act.put, List.setIfInBounds_toArray, List.set_cons_zero, List.set_cons_succ]
  refine wl_new hM1 (f := fun b => .pointer (some ⟨b, 0, none⟩)) (ob := .cells z12 32 (0, 0)) (fun W => run_alloc_of rfl (al_Rp W)) rfl fun b2 W2 hM2 => ?_
  simp only [Act.put, List.setIfInBounds_toArray, List.set_cons_zero, List.set_cons_succ]
  refine wpList_nil ?_
  (go_step; go_step; go_step; refine wp_region_lit ?_)
  refine wl_pure (v := .int .u32 (k : Int)) (fun _ => rfl) rfl ?_
  simp only [Act.put, List.setIfInBounds_toArray, List.set_cons_zero, List.set_cons_succ]
  refine wl_pure (v := .int .u64 (k : Int)) (fun W => run_cv_of rfl rfl (cv32 k hk W)) rfl ?_
  simp only [Act.put, List.setIfInBounds_toArray, List.set_cons_zero, List.set_cons_succ]
  refine wl_pure (v := numV k) (fun W => run_build_of rfl (by simp [Act.eval]) (bdN1 k hk64 W)) rfl ?_
  simp only [Act.put, List.setIfInBounds_toArray, List.set_cons_zero, List.set_cons_succ]
  refine wl_call hM2 (args := #[]) (v := pv3 ((bX, bY, 1))) (fun W => run_call_fn W (enters_of Try.func31 rfl rfl) rfl (by simp [Act.eval])) (rbase_any W2) rfl fun W3 hM3 => ?_
  simp only [Act.put, List.setIfInBounds_toArray, List.set_cons_zero, List.set_cons_succ]
  refine wl_call hM3 (args := #[]) (v := numV dN) (fun W => run_call_fn W (enters_of Try.func11 rfl rfl) rfl (by simp [Act.eval])) (rD_any W3) rfl fun W4 hM4 => ?_
  simp only [Act.put, List.setIfInBounds_toArray, List.set_cons_zero, List.set_cons_succ]
  obtain ⟨q, eq⟩ : ∃ x, x = tms k (bX, bY, 1) 256 := ⟨_, rfl⟩
  have okq : Ok3 q (timesE k baseE) := by rw [eq]; exact ok3_times ok3_base k hkB
  have KT := Lib.hid (fun W => times_any k (bX, bY, 1) W hkB ok3_base.is)
  simp only [← eq] at KT
  refine wl_call hM4 (args := #[numV k, pv3 ((bX, bY, 1)), numV dN]) (v := pv3 q) (fun W => run_call_fn W (enters_of Try.func30 rfl rfl) rfl (by simp [Act.eval])) (KT.out W4) rfl fun W5 hM5 => ?_
  simp only [Act.put, List.setIfInBounds_toArray, List.set_cons_zero, List.set_cons_succ]
  refine wl_new hM5 (f := fun b => .pointer (some ⟨b, 0, none⟩)) (ob := .cells z12 32 (0, 0)) (fun W => run_alloc_of rfl (al_Rp W)) rfl fun b3 W6 hM6 => ?_
  simp only [Act.put, List.setIfInBounds_toArray, List.set_cons_zero, List.set_cons_succ]
  refine wl_set hM6 0 (cs := ((rpL q.1 q.2.1 q.2.2).toArray)) rfl rfl rfl rfl rowRp rfl (one_rp _ _ _) rfl rfl fun W7 hM7 => ?_
  simp only [List.set_cons_zero, List.set_cons_succ] at hM7
  refine wpList_nil ?_
  (go_step; go_step; go_step; refine wp_region_lit ?_)
  refine wl_row hM7 0 (v := pv3 q) rfl rfl rfl rfl rowRp rfl ?_
  simp only [Act.put, List.setIfInBounds_toArray, List.set_cons_zero, List.set_cons_succ]
  obtain ⟨v1, ev1⟩ : ∃ x, x = (timesE k baseE).1.val := ⟨_, rfl⟩
  have pv1 : v1 < PN := by rw [ev1]; exact Fin.isLt _
  obtain ⟨v2, ev2⟩ : ∃ x, x = (timesE k baseE).2.val := ⟨_, rfl⟩
  have pv2 : v2 < PN := by rw [ev2]; exact Fin.isLt _
  have KX36 := Lib.hid (fun W => rxy3 okq W)
  simp only [← ev1, ← ev2] at KX36
  refine wl_call hM7 (args := #[pv3 q]) (v := .tuple #[numV v1, numV v2]) (fun W => run_call_fn W (enters_of Try.func32 rfl rfl) rfl (by simp [Act.eval])) (KX36.out W7) rfl fun W8 hM8 => ?_
  simp only [Act.put, List.setIfInBounds_toArray, List.set_cons_zero, List.set_cons_succ]
  refine wl_pure (v := .tuple #[numV v1, numV v2]) (fun _ => rfl) rfl ?_
  simp only [Act.put, List.setIfInBounds_toArray, List.set_cons_zero, List.set_cons_succ]
  refine wl_pure (v := numV v1) (fun _ => rfl) rfl ?_
  simp only [Act.put, List.setIfInBounds_toArray, List.set_cons_zero, List.set_cons_succ]
  refine wl_pure (v := numV v2) (fun _ => rfl) rfl ?_
  simp only [Act.put, List.setIfInBounds_toArray, List.set_cons_zero, List.set_cons_succ]
  refine wl_new hM8 (f := fun b => .pointer (some ⟨b, 0, none⟩)) (ob := .cells z4 24 (0, 0)) (fun W => run_alloc_of rfl (al_Nu W)) rfl fun b4 W9 hM9 => ?_
  simp only [Act.put, List.setIfInBounds_toArray, List.set_cons_zero, List.set_cons_succ]
  refine wl_new hM9 (f := fun b => .pointer (some ⟨b, 0, none⟩)) (ob := .cells z4 24 (0, 0)) (fun W => run_alloc_of rfl (al_Nu W)) rfl fun b5 W10 hM10 => ?_
  simp only [Act.put, List.setIfInBounds_toArray, List.set_cons_zero, List.set_cons_succ]
  refine wl_set hM10 1 (cs := (elR v1)) rfl rfl rfl rfl rowNu rfl (one_el v1) rfl rfl fun W11 hM11 => ?_
  simp only [List.set_cons_zero, List.set_cons_succ] at hM11
  refine wl_set hM11 0 (cs := (elR v2)) rfl rfl rfl rfl rowNu rfl (one_el v2) rfl rfl fun W12 hM12 => ?_
  simp only [List.set_cons_zero, List.set_cons_succ] at hM12
  refine wpList_nil ?_
  (go_step; go_step; go_step; refine wp_region_inz 9 7 rfl rfl (steady_extract rfl) (by kernel_rfl) (by decide) HMIX.out (by decide) (by kernel_rfl) (by kernel_rfl) ?_)
  refine inw_row hM12 1 (v := numV v1) rfl rfl rfl rfl rowNu rfl rfl ?_; simp only [Act.put, List.setIfInBounds_toArray, List.set_cons_zero, List.set_cons_succ]
  refine inw_callV (args := #[numV v1]) (v := numV v1) (fun W => run_call_fn W (enters_of Try.func34 rfl rfl) rfl (by simp [Act.eval])) (fun W _ => el'2 v1 pv1 W) rfl rfl ?_; simp only [Act.put, List.setIfInBounds_toArray, List.set_cons_zero, List.set_cons_succ]
  refine inw_row hM12 0 (v := numV v2) rfl rfl rfl rfl rowNu rfl rfl ?_; simp only [Act.put, List.setIfInBounds_toArray, List.set_cons_zero, List.set_cons_succ]
  refine inw_callV (args := #[numV v2]) (v := numV v2) (fun W => run_call_fn W (enters_of Try.func34 rfl rfl) rfl (by simp [Act.eval])) (fun W _ => el'2 v2 pv2 W) rfl rfl ?_; simp only [Act.put, List.setIfInBounds_toArray, List.set_cons_zero, List.set_cons_succ]
  refine inw_callV (args := #[numV v1, numV v2]) (v := .tuple #[pv4 (at4 (timesE k baseE)), .int .i64 0]) (fun W => run_call_fn W (enters_of Try.func33 rfl rfl) rfl (by simp [Act.eval])) (fun W _ => make_pt (timesE k baseE) okq.on v1 v2 ev1 ev2 W) rfl rfl ?_; simp only [Act.put, List.setIfInBounds_toArray, List.set_cons_zero, List.set_cons_succ]
  refine inw_pure (v := .tuple #[pv4 (at4 (timesE k baseE)), .int .i64 0]) (fun _ => rfl) rfl rfl ?_; simp only [Act.put, List.setIfInBounds_toArray, List.set_cons_zero, List.set_cons_succ]
  refine inw_pure (v := pv4 (at4 (timesE k baseE))) (fun _ => rfl) rfl rfl ?_; simp only [Act.put, List.setIfInBounds_toArray, List.set_cons_zero, List.set_cons_succ]
  refine inw_pure (v := .int .i64 0) (fun _ => rfl) rfl rfl ?_; simp only [Act.put, List.setIfInBounds_toArray, List.set_cons_zero, List.set_cons_succ]
  refine inw_new (.cells z16 30 (0, 0)) rfl rfl (fun A W => run_alloc_of rfl (al_Pt W)) ?_; simp only [List.nil_append, List.cons_append]
  refine inw_fin fun d os => ?_
  refine given_new (t := 7) rfl fun b6 lb6 gb6 => ?_
  refine given_nil fun hap => ?_
  simp only [Act.put, List.setIfInBounds_toArray, List.set_cons_zero, List.set_cons_succ] at hap ⊢
  have hM13 := hM12.news1 (below_regrown W12 d os) lb6 gb6 
  clear hap lb6 gb6
  generalize grow (redrawn W12 d) os = W13 at hM13 ⊢
  change wpAny _ _ _ _ 2 _ _ _
  refine any_set (n := 9) (by kernel_rfl) rfl hM13 0 (cs := ((pc4 (at4 (timesE k baseE))))) rfl rfl rfl rfl rowPt rfl (one_p4 _) rfl rfl fun W14 hM14 => ?_
  simp only [List.set_cons_zero, List.set_cons_succ] at hM14
  refine any_pure (n := 10) (v := .int .i64 0) (by kernel_rfl) rfl (fun _ => rfl) rfl rfl ?_
  simp only [Act.put, List.setIfInBounds_toArray, List.set_cons_zero, List.set_cons_succ]
  refine wpAny_done (by kernel_rfl) ?_ _
  refine NoPanic.normal ?_
  have hMd := hM14.drew
  (go_step; go_step; go_step; refine wp_region_noPanic (wp_region_held_drew HMIX.out (S := fun w1 => w1.heap[b6]? = some (.cells ((pc4 (at4 (timesE k baseE)))) 30 (0, 0)) ∧ w1.heap[b3]? = some (.cells ((rpL q.1 q.2.1 q.2.2).toArray) 32 (0, 0))) (⟨hMd.get 0 rfl, hMd.get 3 rfl⟩) fun hS => ?_))
  change wpAnyH _ _ _ _ _ 4 _ _ _
  generalize W14.drew = W15 at hMd hS ⊢
  have hM15 := hMd
  clear hMd
  refine hd_row 0 28 #[true, false, false, false] (by kernel_rfl) (v := pv4 (at4 (timesE k baseE))) (cs := ((pc4 (at4 (timesE k baseE))))) (b := b6) rfl rfl rfl rfl (fun W hW => hW.1) rfl rowPt (by kernel_rfl) (by kernel_rfl) (by kernel_rfl) rfl hS ?_
  simp only [Act.put, List.setIfInBounds_toArray, List.set_cons_zero, List.set_cons_succ]
  refine hd_row 1 29 #[true, true, false, false] (by kernel_rfl) (v := pv3 q) (cs := ((rpL q.1 q.2.1 q.2.2).toArray)) (b := b3) rfl rfl rfl rfl (fun W hW => hW.2) rfl rowRp (by kernel_rfl) (by kernel_rfl) (by kernel_rfl) rfl hS ?_
  simp only [Act.put, List.setIfInBounds_toArray, List.set_cons_zero, List.set_cons_succ]
  refine hd_set (n := 2) #[true, true, true, false] (by kernel_rfl) (by kernel_rfl) rfl hM15 5 (cs := ((pc4 (at4 (timesE k baseE))))) rfl rfl rfl rfl rowPt rfl (one_p4 _) rfl rfl (fun W hW => ⟨hW.get 0 rfl, hW.get 3 rfl⟩) fun W16 hM16 => ?_
  simp only [List.set_cons_zero, List.set_cons_succ] at hM16
  refine hd_set (n := 3) #[true, true, true, true] (by kernel_rfl) (by kernel_rfl) rfl hM16 4 (cs := ((rpL q.1 q.2.1 q.2.2).toArray)) rfl rfl rfl rfl rowRp rfl (one_rp _ _ _) rfl rfl (fun W hW => ⟨hW.get 0 rfl, hW.get 3 rfl⟩) fun W17 hM17 => ?_
  simp only [List.set_cons_zero, List.set_cons_succ] at hM17
  refine wpAnyH_done (by kernel_rfl) ?_ _
  refine NoPanic.normal ?_
  (go_step; go_step; go_step; refine bodyPost_ret (v := .tuple #[pv4 (at4 (timesE k baseE)), pv3 q]) (results_arr2 Try.results7 rfl rfl (hM17.load 5 rfl rowPt) (hM17.load 4 rfl rowRp)) rfl ⟨?_, hM17.below⟩)
  exact by rw [eq]
end Go.Proofs.Ytigfoophimjgdaa
