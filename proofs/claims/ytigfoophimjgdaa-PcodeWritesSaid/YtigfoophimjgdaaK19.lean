/- The curve's functions on points, and its Add of many (layer 20): their contracts. Which points Make lets be, what the laws' helpers tell of points (layer 20). pcode.beside (layer 21): its contract. Blocks of one cell, and one cell of a row: loads and stores, for XRow's rules. No program in it. pcode: the highest bit of 32 bytes (layer 21). pcode: the two x of a y (layer 21): numbers alone. -/
import Derived.Great.BuildSlice
import Derived.Laws.CopyRow
import Derived.Laws.BitsAllLaws
import Derived.Test.YtigfoophimjgdaaK18
import Derived.Test.YtigfoophimjgdaaK14
import Derived.Test.YtigfoophimjgdaaK10
namespace Go.Proofs.Ytigfoophimjgdaa
set_option maxRecDepth 20000
set_option linter.unusedSimpArgs false
set_option linter.unusedVariables false
open Go.RowKit Go.Sort
theorem one_p4 (a : N4) : (pc4 a).all (·.oneCell') = true := one_pt _ _ _ _
theorem bx_P4 (a : N4) (W : World) : (Instr.box 30 (pv4 a)).run Try.prog W = .ok (.pointer (some ⟨W.heap.size, 0, none⟩)) (W.alloc (.cells (pc4 a) 30 (0, 0))) := bx_Pt _ _ _ _ W
theorem zero4_any (w : World) : Calls Try.prog 40 #[] w fun E w' => E = .returned (pv4 zero4) ∧ Below w.heap.size w w' := zero_any w
theorem base4_any (w : World) : Calls Try.prog 26 #[] w fun E w' => E = .returned (pv4 base4) ∧ Below w.heap.size w w' := base_any w
theorem adderadd4 {a b : N4} {p q : Pt} (ha : Ok4 a p) (hb : Ok4 b q) (w : World) : Calls Try.prog 42 #[numV dN, pv4 a, pv4 b] w fun E w' => E = .returned (pv4 (add4 a b)) ∧ Below w.heap.size w w' :=
  adderadd_any dN _ _ _ _ _ _ _ _ d_is.2 ha.x ha.y ha.z ha.t hb.x hb.y hb.z hb.t ha.pos hb.pos w
theorem double4 {a : N4} {p : Pt} (ha : Ok4 a p) (w : World) : Calls Try.prog 101 #[pv4 a] w fun E w' => E = .returned (pv4 (dbl4 a)) ∧ Below w.heap.size w w' :=
  double_any _ _ _ _ ha.x ha.y ha.z ha.t ha.pos w
theorem negp4 {a : N4} {p : Pt} (ha : Ok4 a p) (w : World) : Calls Try.prog 57 #[pv4 a] w fun E w' => E = .returned (pv4 (neg4 a)) ∧ Below w.heap.size w w' :=
  neg_any _ _ _ _ ha.x ha.y ha.z ha.t ha.pos w
theorem samep4 {a b : N4} {p q : Pt} (ha : Ok4 a p) (hb : Ok4 b q) (w : World) : Calls Try.prog 15 #[pv4 a, pv4 b] w fun E w' => E = .returned (.bool (decide (p = q))) ∧ Below w.heap.size w w' := by
  have h := same_any _ _ _ _ _ _ _ _ ha.x ha.y ha.z ha.t hb.x hb.y hb.z hb.t ha.pos hb.pos w
  rw [same4 ha hb] at h
  exact h
theorem xyp4 {a : N4} {p : Pt} (ha : Ok4 a p) (w : World) : Calls Try.prog 46 #[pv4 a] w fun E w' => E = .returned (.tuple #[numV p.1.val, numV p.2.val]) ∧ Below w.heap.size w w' := by
  have h := xy_any _ _ _ _ ha.x ha.y ha.z ha.t ha.pos w
  rw [(xy_of _ _ _ p ha.z ha.ext.rep).1, (xy_of _ _ _ p ha.z ha.ext.rep).2] at h
  exact h
theorem rxy3 {a : N3} {p : Pt} (ha : Ok3 a p) (w : World) : Calls Try.prog 32 #[pv3 a] w fun E w' => E = .returned (.tuple #[numV p.1.val, numV p.2.val]) ∧ Below w.heap.size w w' := by
  have h := rxy_any _ _ _ ha.is.1 ha.is.2.1 ha.is.2.2 w
  rw [(xy_of _ _ _ p ha.is.2.2 ha.rep).1, (xy_of _ _ _ p ha.is.2.2 ha.rep).2] at h
  exact h
theorem bsP2 (a b : N4) (W : World) : (Instr.buildSlice 71 2 #[(0, pv4 a), (1, pv4 b)]).run Try.prog W = .ok (.slice (some ⟨W.heap.size, 0, none⟩) 2 2) (W.alloc (.cells (pl4 a ++ pl4 b).toArray 30 (0, 0))) := by
  unfold pv4 pc4 pl4 ptL
  go_simp
theorem bsP3 (a b c : N4) (W : World) : (Instr.buildSlice 71 3 #[(0, pv4 a), (1, pv4 b), (2, pv4 c)]).run Try.prog W = .ok (.slice (some ⟨W.heap.size, 0, none⟩) 3 3) (W.alloc (.cells (pl4 a ++ pl4 b ++ pl4 c).toArray 30 (0, 0))) := by
  unfold pv4 pc4 pl4 ptL
  go_simp
set_option maxRecDepth 20000 in
set_option maxHeartbeats 8000000 in
theorem addl0 (w : World) : Calls Try.prog 9 #[.slice none 0 0] w fun E w' => E = .returned (pv4 zero4) ∧ Below w.heap.size w w' := by
  go_enter Try.func9, Try.ntmps9
  have hM0 := Mem.start w
  (go_step; go_step; refine wp_region_lit ?_)
  refine wl_new hM0 (f := fun b => .pointer (some ⟨b, 0, none⟩)) (ob := .cells z16 30 (0, 0)) (fun W => run_alloc_of rfl (al_Pt W)) rfl fun b1 W1 hM1 => ?_
  simp only [Act.put, List.setIfInBounds_toArray, List.set_cons_zero, List.set_cons_succ]
  refine wpList_nil ?_
  (go_step; go_step; go_step; refine wp_region_lit ?_)
  refine wl_call hM1 (args := #[]) (v := pv4 zero4) (fun W => run_call_fn W (enters_of Try.func40 rfl rfl) rfl (by simp [Act.eval])) (zero4_any W1) rfl fun W2 hM2 => ?_
  simp only [Act.put, List.setIfInBounds_toArray, List.set_cons_zero, List.set_cons_succ]
  refine wl_new hM2 (f := fun b => .pointer (some ⟨b, 0, none⟩)) (ob := .cells z16 30 (0, 0)) (fun W => run_alloc_of rfl (al_Pt W)) rfl fun b2 W3 hM3 => ?_
  simp only [Act.put, List.setIfInBounds_toArray, List.set_cons_zero, List.set_cons_succ]
  refine wl_set hM3 0 (cs := ((pc4 zero4))) rfl rfl rfl rfl rowPt rfl (one_p4 _) rfl rfl fun W4 hM4 => ?_
  simp only [List.set_cons_zero, List.set_cons_succ] at hM4
  refine wpList_nil ?_
  (go_step; go_step; go_step; refine wp_region_lit ?_)
  refine wl_call hM4 (args := #[]) (v := numV dN) (fun W => run_call_fn W (enters_of Try.func41 rfl rfl) rfl (by simp [Act.eval])) (newadder_any W4) rfl fun W5 hM5 => ?_
  simp only [Act.put, List.setIfInBounds_toArray, List.set_cons_zero, List.set_cons_succ]
  refine wl_new hM5 (f := fun b => .pointer (some ⟨b, 0, none⟩)) (ob := .cells z4 73 (0, 0)) (fun W => run_alloc_of rfl (al_Ad W)) rfl fun b3 W6 hM6 => ?_
  simp only [Act.put, List.setIfInBounds_toArray, List.set_cons_zero, List.set_cons_succ]
  refine wl_set hM6 0 (cs := (elR dN)) rfl rfl rfl rfl rowAd rfl (one_el dN) rfl rfl fun W7 hM7 => ?_
  simp only [List.set_cons_zero, List.set_cons_succ] at hM7
  refine wpList_nil ?_
  (go_step; go_step; go_step; go_step; refine wp_region_lit ?_)
  refine wl_pure (v := .slice none 0 0) (fun _ => rfl) rfl ?_
  simp only [Act.put, List.setIfInBounds_toArray, List.set_cons_zero, List.set_cons_succ]
  refine wl_pure (v := .int .i64 0) (fun W => by go_simp) rfl ?_
  simp only [Act.put, List.setIfInBounds_toArray, List.set_cons_zero, List.set_cons_succ]
  refine wl_pure (v := .int .i64 0) (fun _ => rfl) rfl ?_
  simp only [Act.put, List.setIfInBounds_toArray, List.set_cons_zero, List.set_cons_succ]
  refine wpList_nil ?_
  (go_step; go_step; go_step; refine wp_loop_rounds 1 ?_)
  rw [rounds_succ]
  (go_step; refine wp_region_lit ?_)
  refine wl_pure (v := .bool false) (fun W => by go_simp) rfl ?_
  simp only [Act.put, List.setIfInBounds_toArray, List.set_cons_zero, List.set_cons_succ]
  refine wpList_nil ?_
  (go_step; go_step; go_step; go_step; go_step; go_step; go_step; go_step; refine wp_region_lit ?_)
  refine wl_row hM7 1 (v := pv4 zero4) rfl rfl rfl rfl rowPt rfl ?_
  simp only [Act.put, List.setIfInBounds_toArray, List.set_cons_zero, List.set_cons_succ]
  refine wl_set hM7 2 (cs := ((pc4 zero4))) rfl rfl rfl rfl rowPt rfl (one_p4 _) rfl rfl fun W8 hM8 => ?_
  simp only [List.set_cons_zero, List.set_cons_succ] at hM8
  refine wpList_nil ?_
  (go_step; go_step; go_step; refine bodyPost_ret (v := pv4 zero4) (results_arr Try.results9 rfl (hM8.load 2 rfl rowPt)) rfl ⟨?_, hM8.below⟩)
  exact rfl
set_option maxRecDepth 20000 in
set_option maxHeartbeats 8000000 in
theorem addl2 {a b : N4} {pa pb : Pt} (ha : Ok4 a pa) (hb : Ok4 b pb) (g : Nat) (w : World) (hg : w.heap[g]? = some (.cells (pl4 a ++ pl4 b).toArray 30 (0, 0))) : Calls Try.prog 9 #[.slice (some ⟨g, 0, none⟩) 2 2] w fun E w' => E = .returned (pv4 (add4 (add4 zero4 a) b)) ∧ Below w.heap.size w w' := by
  go_enter Try.func9, Try.ntmps9
  have hM0 := Mem.start w
  (go_step; go_step; refine wp_region_lit ?_)
  refine wl_new hM0 (f := fun b => .pointer (some ⟨b, 0, none⟩)) (ob := .cells z16 30 (0, 0)) (fun W => run_alloc_of rfl (al_Pt W)) rfl fun b1 W1 hM1 => ?_
  simp only [Act.put, List.setIfInBounds_toArray, List.set_cons_zero, List.set_cons_succ]
  refine wpList_nil ?_
  (go_step; go_step; go_step; refine wp_region_lit ?_)
  refine wl_call hM1 (args := #[]) (v := pv4 zero4) (fun W => run_call_fn W (enters_of Try.func40 rfl rfl) rfl (by simp [Act.eval])) (zero4_any W1) rfl fun W2 hM2 => ?_
  simp only [Act.put, List.setIfInBounds_toArray, List.set_cons_zero, List.set_cons_succ]
  refine wl_new hM2 (f := fun b => .pointer (some ⟨b, 0, none⟩)) (ob := .cells z16 30 (0, 0)) (fun W => run_alloc_of rfl (al_Pt W)) rfl fun b2 W3 hM3 => ?_
  simp only [Act.put, List.setIfInBounds_toArray, List.set_cons_zero, List.set_cons_succ]
  refine wl_set hM3 0 (cs := ((pc4 zero4))) rfl rfl rfl rfl rowPt rfl (one_p4 _) rfl rfl fun W4 hM4 => ?_
  simp only [List.set_cons_zero, List.set_cons_succ] at hM4
  refine wpList_nil ?_
  (go_step; go_step; go_step; refine wp_region_lit ?_)
  refine wl_call hM4 (args := #[]) (v := numV dN) (fun W => run_call_fn W (enters_of Try.func41 rfl rfl) rfl (by simp [Act.eval])) (newadder_any W4) rfl fun W5 hM5 => ?_
  simp only [Act.put, List.setIfInBounds_toArray, List.set_cons_zero, List.set_cons_succ]
  refine wl_new hM5 (f := fun b => .pointer (some ⟨b, 0, none⟩)) (ob := .cells z4 73 (0, 0)) (fun W => run_alloc_of rfl (al_Ad W)) rfl fun b3 W6 hM6 => ?_
  simp only [Act.put, List.setIfInBounds_toArray, List.set_cons_zero, List.set_cons_succ]
  refine wl_set hM6 0 (cs := (elR dN)) rfl rfl rfl rfl rowAd rfl (one_el dN) rfl rfl fun W7 hM7 => ?_
  simp only [List.set_cons_zero, List.set_cons_succ] at hM7
  refine wpList_nil ?_
  (go_step; go_step; go_step; go_step; refine wp_region_lit ?_)
  refine wl_pure (v := .slice (some ⟨g, 0, none⟩) 2 2) (fun _ => rfl) rfl ?_
  simp only [Act.put, List.setIfInBounds_toArray, List.set_cons_zero, List.set_cons_succ]
  refine wl_pure (v := .int .i64 2) (fun W => by go_simp) rfl ?_
  simp only [Act.put, List.setIfInBounds_toArray, List.set_cons_zero, List.set_cons_succ]
  refine wl_pure (v := .int .i64 0) (fun _ => rfl) rfl ?_
  simp only [Act.put, List.setIfInBounds_toArray, List.set_cons_zero, List.set_cons_succ]
  refine wpList_nil ?_
  (go_step; go_step; go_step; refine wp_loop_rounds 3 ?_)
  rw [rounds_succ]
  (go_step; refine wp_region_lit ?_)
  refine wl_pure (v := .bool true) (fun W => by go_simp) rfl ?_
  simp only [Act.put, List.setIfInBounds_toArray, List.set_cons_zero, List.set_cons_succ]
  refine wpList_nil ?_
  (go_step; go_step; go_step; go_step; go_step; go_step; go_step; go_step; go_step; go_step; refine wp_region_lit ?_)
  refine wl_pure (v := .pointer (some ⟨g, 0, none⟩)) (fun W => by go_simp) rfl ?_
  simp only [Act.put, List.setIfInBounds_toArray, List.set_cons_zero, List.set_cons_succ]
  refine wl_far (hM7.old hg) (v := pv4 a) (sub := (pc4 a)) rfl rfl rfl rfl rowPt rfl ?_
  simp only [Act.put, List.setIfInBounds_toArray, List.set_cons_zero, List.set_cons_succ]
  refine wl_new hM7 (f := fun b => .pointer (some ⟨b, 0, none⟩)) (ob := .cells z16 30 (0, 0)) (fun W => run_alloc_of rfl (al_Pt W)) rfl fun b4 W8 hM8 => ?_
  simp only [Act.put, List.setIfInBounds_toArray, List.set_cons_zero, List.set_cons_succ]
  refine wl_set hM8 0 (cs := ((pc4 a))) rfl rfl rfl rfl rowPt rfl (one_p4 _) rfl rfl fun W9 hM9 => ?_
  simp only [List.set_cons_zero, List.set_cons_succ] at hM9
  refine wpList_nil ?_
  (go_step; go_step; refine wp_region_lit ?_)
  refine wl_row hM9 1 (v := numV dN) rfl rfl rfl rfl rowAd rfl ?_
  simp only [Act.put, List.setIfInBounds_toArray, List.set_cons_zero, List.set_cons_succ]
  refine wl_row hM9 2 (v := pv4 zero4) rfl rfl rfl rfl rowPt rfl ?_
  simp only [Act.put, List.setIfInBounds_toArray, List.set_cons_zero, List.set_cons_succ]
  refine wl_row hM9 0 (v := pv4 a) rfl rfl rfl rfl rowPt rfl ?_
  simp only [Act.put, List.setIfInBounds_toArray, List.set_cons_zero, List.set_cons_succ]
  obtain ⟨r1, er1⟩ : ∃ x, x = add4 zero4 a := ⟨_, rfl⟩
  have or1 := ok4_add ok4_zero ha
  rw [← er1] at or1
  have Kr1 := Lib.hid (fun W => adderadd4 ok4_zero ha W)
  simp only [← er1] at Kr1
  refine wl_call hM9 (args := #[numV dN, pv4 zero4, pv4 a]) (v := pv4 r1) (fun W => run_call_fn W (enters_of Try.func42 rfl rfl) rfl (by simp [Act.eval])) (Kr1.out W9) rfl fun W10 hM10 => ?_
  simp only [Act.put, List.setIfInBounds_toArray, List.set_cons_zero, List.set_cons_succ]
  refine wl_set hM10 2 (cs := ((pc4 r1))) rfl rfl rfl rfl rowPt rfl (one_p4 _) rfl rfl fun W11 hM11 => ?_
  simp only [List.set_cons_zero, List.set_cons_succ] at hM11
  refine wpList_nil ?_
  (go_step; go_step; refine wp_region_lit ?_)
  refine wl_pure (v := .int .i64 1) (fun W => by go_simp; decide) rfl ?_
  simp only [Act.put, List.setIfInBounds_toArray, List.set_cons_zero, List.set_cons_succ]
  refine wl_pure (v := .int .i64 1) (fun _ => rfl) rfl ?_
  simp only [Act.put, List.setIfInBounds_toArray, List.set_cons_zero, List.set_cons_succ]
  refine wpList_nil ?_
  go_step
  rw [rounds_succ]
  (go_step; refine wp_region_lit ?_)
  refine wl_pure (v := .bool true) (fun W => by go_simp) rfl ?_
  simp only [Act.put, List.setIfInBounds_toArray, List.set_cons_zero, List.set_cons_succ]
  refine wpList_nil ?_
  (go_step; go_step; go_step; go_step; go_step; go_step; go_step; go_step; go_step; go_step; refine wp_region_lit ?_)
  refine wl_pure (v := .pointer (some ⟨g, 16, none⟩)) (fun W => by go_simp) rfl ?_
  simp only [Act.put, List.setIfInBounds_toArray, List.set_cons_zero, List.set_cons_succ]
  refine wl_far (hM11.old hg) (v := pv4 b) (sub := (pc4 b)) rfl rfl rfl rfl rowPt rfl ?_
  simp only [Act.put, List.setIfInBounds_toArray, List.set_cons_zero, List.set_cons_succ]
  refine wl_new hM11 (f := fun b => .pointer (some ⟨b, 0, none⟩)) (ob := .cells z16 30 (0, 0)) (fun W => run_alloc_of rfl (al_Pt W)) rfl fun b5 W12 hM12 => ?_
  simp only [Act.put, List.setIfInBounds_toArray, List.set_cons_zero, List.set_cons_succ]
  refine wl_set hM12 0 (cs := ((pc4 b))) rfl rfl rfl rfl rowPt rfl (one_p4 _) rfl rfl fun W13 hM13 => ?_
  simp only [List.set_cons_zero, List.set_cons_succ] at hM13
  refine wpList_nil ?_
  (go_step; go_step; refine wp_region_lit ?_)
  refine wl_row hM13 2 (v := numV dN) rfl rfl rfl rfl rowAd rfl ?_
  simp only [Act.put, List.setIfInBounds_toArray, List.set_cons_zero, List.set_cons_succ]
  refine wl_row hM13 3 (v := pv4 r1) rfl rfl rfl rfl rowPt rfl ?_
  simp only [Act.put, List.setIfInBounds_toArray, List.set_cons_zero, List.set_cons_succ]
  refine wl_row hM13 0 (v := pv4 b) rfl rfl rfl rfl rowPt rfl ?_
  simp only [Act.put, List.setIfInBounds_toArray, List.set_cons_zero, List.set_cons_succ]
  obtain ⟨r2, er2⟩ : ∃ x, x = add4 r1 b := ⟨_, rfl⟩
  have or2 := ok4_add or1 hb
  rw [← er2] at or2
  have Kr2 := Lib.hid (fun W => adderadd4 or1 hb W)
  simp only [← er2] at Kr2
  refine wl_call hM13 (args := #[numV dN, pv4 r1, pv4 b]) (v := pv4 r2) (fun W => run_call_fn W (enters_of Try.func42 rfl rfl) rfl (by simp [Act.eval])) (Kr2.out W13) rfl fun W14 hM14 => ?_
  simp only [Act.put, List.setIfInBounds_toArray, List.set_cons_zero, List.set_cons_succ]
  refine wl_set hM14 3 (cs := ((pc4 r2))) rfl rfl rfl rfl rowPt rfl (one_p4 _) rfl rfl fun W15 hM15 => ?_
  simp only [List.set_cons_zero, List.set_cons_succ] at hM15
  refine wpList_nil ?_
  (go_step; go_step; refine wp_region_lit ?_)
  refine wl_pure (v := .int .i64 2) (fun W => by go_simp; decide) rfl ?_
  simp only [Act.put, List.setIfInBounds_toArray, List.set_cons_zero, List.set_cons_succ]
  refine wl_pure (v := .int .i64 2) (fun _ => rfl) rfl ?_
  simp only [Act.put, List.setIfInBounds_toArray, List.set_cons_zero, List.set_cons_succ]
  refine wpList_nil ?_
  go_step
  rw [rounds_succ]
  (go_step; refine wp_region_lit ?_)
  refine wl_pure (v := .bool false) (fun W => by go_simp) rfl ?_
  simp only [Act.put, List.setIfInBounds_toArray, List.set_cons_zero, List.set_cons_succ]
  refine wpList_nil ?_
  (go_step; go_step; go_step; go_step; go_step; go_step; go_step; go_step; refine wp_region_lit ?_)
  refine wl_row hM15 3 (v := pv4 r2) rfl rfl rfl rfl rowPt rfl ?_
  simp only [Act.put, List.setIfInBounds_toArray, List.set_cons_zero, List.set_cons_succ]
  refine wl_set hM15 4 (cs := ((pc4 r2))) rfl rfl rfl rfl rowPt rfl (one_p4 _) rfl rfl fun W16 hM16 => ?_
  simp only [List.set_cons_zero, List.set_cons_succ] at hM16
  refine wpList_nil ?_
  (go_step; go_step; go_step; refine bodyPost_ret (v := pv4 r2) (results_arr Try.results9 rfl (hM16.load 4 rfl rowPt)) rfl ⟨?_, hM16.below⟩)
  exact by rw [er2, er1]
set_option maxRecDepth 20000 in
set_option maxHeartbeats 8000000 in
theorem addl3 {a b c : N4} {pa pb pc : Pt} (ha : Ok4 a pa) (hb : Ok4 b pb) (hc : Ok4 c pc) (g : Nat) (w : World) (hg : w.heap[g]? = some (.cells (pl4 a ++ pl4 b ++ pl4 c).toArray 30 (0, 0))) : Calls Try.prog 9 #[.slice (some ⟨g, 0, none⟩) 3 3] w fun E w' => E = .returned (pv4 (add4 (add4 (add4 zero4 a) b) c)) ∧ Below w.heap.size w w' := by
  go_enter Try.func9, Try.ntmps9
  have hM0 := Mem.start w
  (go_step; go_step; refine wp_region_lit ?_)
  refine wl_new hM0 (f := fun b => .pointer (some ⟨b, 0, none⟩)) (ob := .cells z16 30 (0, 0)) (fun W => run_alloc_of rfl (al_Pt W)) rfl fun b1 W1 hM1 => ?_
  simp only [Act.put, List.setIfInBounds_toArray, List.set_cons_zero, List.set_cons_succ]
  refine wpList_nil ?_
  (go_step; go_step; go_step; refine wp_region_lit ?_)
  refine wl_call hM1 (args := #[]) (v := pv4 zero4) (fun W => run_call_fn W (enters_of Try.func40 rfl rfl) rfl (by simp [Act.eval])) (zero4_any W1) rfl fun W2 hM2 => ?_
  simp only [Act.put, List.setIfInBounds_toArray, List.set_cons_zero, List.set_cons_succ]
  refine wl_new hM2 (f := fun b => .pointer (some ⟨b, 0, none⟩)) (ob := .cells z16 30 (0, 0)) (fun W => run_alloc_of rfl (al_Pt W)) rfl fun b2 W3 hM3 => ?_
  simp only [Act.put, List.setIfInBounds_toArray, List.set_cons_zero, List.set_cons_succ]
  refine wl_set hM3 0 (cs := ((pc4 zero4))) rfl rfl rfl rfl rowPt rfl (one_p4 _) rfl rfl fun W4 hM4 => ?_
  simp only [List.set_cons_zero, List.set_cons_succ] at hM4
  refine wpList_nil ?_
  (go_step; go_step; go_step; refine wp_region_lit ?_)
  refine wl_call hM4 (args := #[]) (v := numV dN) (fun W => run_call_fn W (enters_of Try.func41 rfl rfl) rfl (by simp [Act.eval])) (newadder_any W4) rfl fun W5 hM5 => ?_
  simp only [Act.put, List.setIfInBounds_toArray, List.set_cons_zero, List.set_cons_succ]
  refine wl_new hM5 (f := fun b => .pointer (some ⟨b, 0, none⟩)) (ob := .cells z4 73 (0, 0)) (fun W => run_alloc_of rfl (al_Ad W)) rfl fun b3 W6 hM6 => ?_
  simp only [Act.put, List.setIfInBounds_toArray, List.set_cons_zero, List.set_cons_succ]
  refine wl_set hM6 0 (cs := (elR dN)) rfl rfl rfl rfl rowAd rfl (one_el dN) rfl rfl fun W7 hM7 => ?_
  simp only [List.set_cons_zero, List.set_cons_succ] at hM7
  refine wpList_nil ?_
  (go_step; go_step; go_step; go_step; refine wp_region_lit ?_)
  refine wl_pure (v := .slice (some ⟨g, 0, none⟩) 3 3) (fun _ => rfl) rfl ?_
  simp only [Act.put, List.setIfInBounds_toArray, List.set_cons_zero, List.set_cons_succ]
  refine wl_pure (v := .int .i64 3) (fun W => by go_simp) rfl ?_
  simp only [Act.put, List.setIfInBounds_toArray, List.set_cons_zero, List.set_cons_succ]
  refine wl_pure (v := .int .i64 0) (fun _ => rfl) rfl ?_
  simp only [Act.put, List.setIfInBounds_toArray, List.set_cons_zero, List.set_cons_succ]
  refine wpList_nil ?_
  (go_step; go_step; go_step; refine wp_loop_rounds 4 ?_)
  rw [rounds_succ]
  (go_step; refine wp_region_lit ?_)
  refine wl_pure (v := .bool true) (fun W => by go_simp) rfl ?_
  simp only [Act.put, List.setIfInBounds_toArray, List.set_cons_zero, List.set_cons_succ]
  refine wpList_nil ?_
  (go_step; go_step; go_step; go_step; go_step; go_step; go_step; go_step; go_step; go_step; refine wp_region_lit ?_)
  refine wl_pure (v := .pointer (some ⟨g, 0, none⟩)) (fun W => by go_simp) rfl ?_
  simp only [Act.put, List.setIfInBounds_toArray, List.set_cons_zero, List.set_cons_succ]
  refine wl_far (hM7.old hg) (v := pv4 a) (sub := (pc4 a)) rfl rfl rfl rfl rowPt rfl ?_
  simp only [Act.put, List.setIfInBounds_toArray, List.set_cons_zero, List.set_cons_succ]
  refine wl_new hM7 (f := fun b => .pointer (some ⟨b, 0, none⟩)) (ob := .cells z16 30 (0, 0)) (fun W => run_alloc_of rfl (al_Pt W)) rfl fun b4 W8 hM8 => ?_
  simp only [Act.put, List.setIfInBounds_toArray, List.set_cons_zero, List.set_cons_succ]
  refine wl_set hM8 0 (cs := ((pc4 a))) rfl rfl rfl rfl rowPt rfl (one_p4 _) rfl rfl fun W9 hM9 => ?_
  simp only [List.set_cons_zero, List.set_cons_succ] at hM9
  refine wpList_nil ?_
  (go_step; go_step; refine wp_region_lit ?_)
  refine wl_row hM9 1 (v := numV dN) rfl rfl rfl rfl rowAd rfl ?_
  simp only [Act.put, List.setIfInBounds_toArray, List.set_cons_zero, List.set_cons_succ]
  refine wl_row hM9 2 (v := pv4 zero4) rfl rfl rfl rfl rowPt rfl ?_
  simp only [Act.put, List.setIfInBounds_toArray, List.set_cons_zero, List.set_cons_succ]
  refine wl_row hM9 0 (v := pv4 a) rfl rfl rfl rfl rowPt rfl ?_
  simp only [Act.put, List.setIfInBounds_toArray, List.set_cons_zero, List.set_cons_succ]
  obtain ⟨r1, er1⟩ : ∃ x, x = add4 zero4 a := ⟨_, rfl⟩
  have or1 := ok4_add ok4_zero ha
  rw [← er1] at or1
  have Kr1 := Lib.hid (fun W => adderadd4 ok4_zero ha W)
  simp only [← er1] at Kr1
  refine wl_call hM9 (args := #[numV dN, pv4 zero4, pv4 a]) (v := pv4 r1) (fun W => run_call_fn W (enters_of Try.func42 rfl rfl) rfl (by simp [Act.eval])) (Kr1.out W9) rfl fun W10 hM10 => ?_
  simp only [Act.put, List.setIfInBounds_toArray, List.set_cons_zero, List.set_cons_succ]
  refine wl_set hM10 2 (cs := ((pc4 r1))) rfl rfl rfl rfl rowPt rfl (one_p4 _) rfl rfl fun W11 hM11 => ?_
  simp only [List.set_cons_zero, List.set_cons_succ] at hM11
  refine wpList_nil ?_
  (go_step; go_step; refine wp_region_lit ?_)
  refine wl_pure (v := .int .i64 1) (fun W => by go_simp; decide) rfl ?_
  simp only [Act.put, List.setIfInBounds_toArray, List.set_cons_zero, List.set_cons_succ]
  refine wl_pure (v := .int .i64 1) (fun _ => rfl) rfl ?_
  simp only [Act.put, List.setIfInBounds_toArray, List.set_cons_zero, List.set_cons_succ]
  refine wpList_nil ?_
  go_step
  rw [rounds_succ]
  (go_step; refine wp_region_lit ?_)
  refine wl_pure (v := .bool true) (fun W => by go_simp) rfl ?_
  simp only [Act.put, List.setIfInBounds_toArray, List.set_cons_zero, List.set_cons_succ]
  refine wpList_nil ?_
  (go_step; go_step; go_step; go_step; go_step; go_step; go_step; go_step; go_step; go_step; refine wp_region_lit ?_)
  refine wl_pure (v := .pointer (some ⟨g, 16, none⟩)) (fun W => by go_simp) rfl ?_
  simp only [Act.put, List.setIfInBounds_toArray, List.set_cons_zero, List.set_cons_succ]
  refine wl_far (hM11.old hg) (v := pv4 b) (sub := (pc4 b)) rfl rfl rfl rfl rowPt rfl ?_
  simp only [Act.put, List.setIfInBounds_toArray, List.set_cons_zero, List.set_cons_succ]
  refine wl_new hM11 (f := fun b => .pointer (some ⟨b, 0, none⟩)) (ob := .cells z16 30 (0, 0)) (fun W => run_alloc_of rfl (al_Pt W)) rfl fun b5 W12 hM12 => ?_
  simp only [Act.put, List.setIfInBounds_toArray, List.set_cons_zero, List.set_cons_succ]
  refine wl_set hM12 0 (cs := ((pc4 b))) rfl rfl rfl rfl rowPt rfl (one_p4 _) rfl rfl fun W13 hM13 => ?_
  simp only [List.set_cons_zero, List.set_cons_succ] at hM13
  refine wpList_nil ?_
  (go_step; go_step; refine wp_region_lit ?_)
  refine wl_row hM13 2 (v := numV dN) rfl rfl rfl rfl rowAd rfl ?_
  simp only [Act.put, List.setIfInBounds_toArray, List.set_cons_zero, List.set_cons_succ]
  refine wl_row hM13 3 (v := pv4 r1) rfl rfl rfl rfl rowPt rfl ?_
  simp only [Act.put, List.setIfInBounds_toArray, List.set_cons_zero, List.set_cons_succ]
  refine wl_row hM13 0 (v := pv4 b) rfl rfl rfl rfl rowPt rfl ?_
  simp only [Act.put, List.setIfInBounds_toArray, List.set_cons_zero, List.set_cons_succ]
  obtain ⟨r2, er2⟩ : ∃ x, x = add4 r1 b := ⟨_, rfl⟩
  have or2 := ok4_add or1 hb
  rw [← er2] at or2
  have Kr2 := Lib.hid (fun W => adderadd4 or1 hb W)
  simp only [← er2] at Kr2
  refine wl_call hM13 (args := #[numV dN, pv4 r1, pv4 b]) (v := pv4 r2) (fun W => run_call_fn W (enters_of Try.func42 rfl rfl) rfl (by simp [Act.eval])) (Kr2.out W13) rfl fun W14 hM14 => ?_
  simp only [Act.put, List.setIfInBounds_toArray, List.set_cons_zero, List.set_cons_succ]
  refine wl_set hM14 3 (cs := ((pc4 r2))) rfl rfl rfl rfl rowPt rfl (one_p4 _) rfl rfl fun W15 hM15 => ?_
  simp only [List.set_cons_zero, List.set_cons_succ] at hM15
  refine wpList_nil ?_
  (go_step; go_step; refine wp_region_lit ?_)
  refine wl_pure (v := .int .i64 2) (fun W => by go_simp; decide) rfl ?_
  simp only [Act.put, List.setIfInBounds_toArray, List.set_cons_zero, List.set_cons_succ]
  refine wl_pure (v := .int .i64 2) (fun _ => rfl) rfl ?_
  simp only [Act.put, List.setIfInBounds_toArray, List.set_cons_zero, List.set_cons_succ]
  refine wpList_nil ?_
  go_step
  rw [rounds_succ]
  (go_step; refine wp_region_lit ?_)
  refine wl_pure (v := .bool true) (fun W => by go_simp) rfl ?_
  simp only [Act.put, List.setIfInBounds_toArray, List.set_cons_zero, List.set_cons_succ]
  refine wpList_nil ?_
  (go_step; go_step; go_step; go_step; go_step; go_step; go_step; go_step; go_step; go_step; refine wp_region_lit ?_)
  refine wl_pure (v := .pointer (some ⟨g, 32, none⟩)) (fun W => by go_simp) rfl ?_
  simp only [Act.put, List.setIfInBounds_toArray, List.set_cons_zero, List.set_cons_succ]
  refine wl_far (hM15.old hg) (v := pv4 c) (sub := (pc4 c)) rfl rfl rfl rfl rowPt rfl ?_
  simp only [Act.put, List.setIfInBounds_toArray, List.set_cons_zero, List.set_cons_succ]
  refine wl_new hM15 (f := fun b => .pointer (some ⟨b, 0, none⟩)) (ob := .cells z16 30 (0, 0)) (fun W => run_alloc_of rfl (al_Pt W)) rfl fun b6 W16 hM16 => ?_
  simp only [Act.put, List.setIfInBounds_toArray, List.set_cons_zero, List.set_cons_succ]
  refine wl_set hM16 0 (cs := ((pc4 c))) rfl rfl rfl rfl rowPt rfl (one_p4 _) rfl rfl fun W17 hM17 => ?_
  simp only [List.set_cons_zero, List.set_cons_succ] at hM17
  refine wpList_nil ?_
  (go_step; go_step; refine wp_region_lit ?_)
  refine wl_row hM17 3 (v := numV dN) rfl rfl rfl rfl rowAd rfl ?_
  simp only [Act.put, List.setIfInBounds_toArray, List.set_cons_zero, List.set_cons_succ]
  refine wl_row hM17 4 (v := pv4 r2) rfl rfl rfl rfl rowPt rfl ?_
  simp only [Act.put, List.setIfInBounds_toArray, List.set_cons_zero, List.set_cons_succ]
  refine wl_row hM17 0 (v := pv4 c) rfl rfl rfl rfl rowPt rfl ?_
  simp only [Act.put, List.setIfInBounds_toArray, List.set_cons_zero, List.set_cons_succ]
  obtain ⟨r3, er3⟩ : ∃ x, x = add4 r2 c := ⟨_, rfl⟩
  have or3 := ok4_add or2 hc
  rw [← er3] at or3
  have Kr3 := Lib.hid (fun W => adderadd4 or2 hc W)
  simp only [← er3] at Kr3
  refine wl_call hM17 (args := #[numV dN, pv4 r2, pv4 c]) (v := pv4 r3) (fun W => run_call_fn W (enters_of Try.func42 rfl rfl) rfl (by simp [Act.eval])) (Kr3.out W17) rfl fun W18 hM18 => ?_
  simp only [Act.put, List.setIfInBounds_toArray, List.set_cons_zero, List.set_cons_succ]
  refine wl_set hM18 4 (cs := ((pc4 r3))) rfl rfl rfl rfl rowPt rfl (one_p4 _) rfl rfl fun W19 hM19 => ?_
  simp only [List.set_cons_zero, List.set_cons_succ] at hM19
  refine wpList_nil ?_
  (go_step; go_step; refine wp_region_lit ?_)
  refine wl_pure (v := .int .i64 3) (fun W => by go_simp; decide) rfl ?_
  simp only [Act.put, List.setIfInBounds_toArray, List.set_cons_zero, List.set_cons_succ]
  refine wl_pure (v := .int .i64 3) (fun _ => rfl) rfl ?_
  simp only [Act.put, List.setIfInBounds_toArray, List.set_cons_zero, List.set_cons_succ]
  refine wpList_nil ?_
  go_step
  rw [rounds_succ]
  (go_step; refine wp_region_lit ?_)
  refine wl_pure (v := .bool false) (fun W => by go_simp) rfl ?_
  simp only [Act.put, List.setIfInBounds_toArray, List.set_cons_zero, List.set_cons_succ]
  refine wpList_nil ?_
  (go_step; go_step; go_step; go_step; go_step; go_step; go_step; go_step; refine wp_region_lit ?_)
  refine wl_row hM19 4 (v := pv4 r3) rfl rfl rfl rfl rowPt rfl ?_
  simp only [Act.put, List.setIfInBounds_toArray, List.set_cons_zero, List.set_cons_succ]
  refine wl_set hM19 5 (cs := ((pc4 r3))) rfl rfl rfl rfl rowPt rfl (one_p4 _) rfl rfl fun W20 hM20 => ?_
  simp only [List.set_cons_zero, List.set_cons_succ] at hM20
  refine wpList_nil ?_
  (go_step; go_step; go_step; refine bodyPost_ret (v := pv4 r3) (results_arr Try.results9 rfl (hM20.load 5 rfl rowPt)) rfl ⟨?_, hM20.below⟩)
  exact by rw [er3, er2, er1]
end Go.Proofs.Ytigfoophimjgdaa
namespace Go.Proofs.Ytigfoophimjgdaa
set_option maxRecDepth 20000
set_option linter.unusedSimpArgs false
set_option linter.unusedVariables false
open Go.RowKit Go.Sort
theorem run_not_of {P : Program} {o : Oper} {A : Act} {t : TypeId} {x : Operand} {b : Bool} (W : World) (ho : o.op = .unOp .not t x) (hx : A.eval x = .bool b) {c : Bool} (hc : (!b) = c) : (execOp A.eval o).run P W = .ok (.value (.bool c)) W := by
  subst hc
  unfold execOp
  simp only [ho, hx]
  rfl
theorem run_eqint_of {P : Program} {o : Oper} {A : Act} {t t' : TypeId} {x y : Operand} {k : IntKind} {m n : Int} (W : World) (ho : o.op = .binOp .eql t x y t') (hx : A.eval x = .int k m) (hy : A.eval y = .int k n) {c : Bool} (hc : (m == n) = c) : (execOp A.eval o).run P W = .ok (.value (.bool c)) W := by
  subst hc
  unfold execOp
  simp only [ho, hx, hy]
  simp [eqGuard, binOp, Op.intCmp, Sem.run_bind]
theorem run_neint_of {P : Program} {o : Oper} {A : Act} {t t' : TypeId} {x y : Operand} {k : IntKind} {m n : Int} (W : World) (ho : o.op = .binOp .neq t x y t') (hx : A.eval x = .int k m) (hy : A.eval y = .int k n) {c : Bool} (hc : (!(m == n)) = c) : (execOp A.eval o).run P W = .ok (.value (.bool c)) W := by
  subst hc
  unfold execOp
  simp only [ho, hx, hy]
  simp [eqGuard, binOp, Op.intCmp, Sem.run_bind]
  rfl
theorem bin_eql_b (m n : Bool) (x y : Operand) (W : World) : (do eqGuard .eql 4 x y (.bool m) (.bool n); binOp .eql 4 (.bool m) (.bool n) : Sem Value).run Try.prog W = .ok (.bool (m == n)) W := by
  go_simp
theorem bin_neq_b (m n : Bool) (x y : Operand) (W : World) : (do eqGuard .neq 4 x y (.bool m) (.bool n); binOp .neq 4 (.bool m) (.bool n) : Sem Value).run Try.prog W = .ok (.bool (!(m == n))) W := by
  go_simp
theorem run_cv_of {P : Program} {o : Oper} {A : Act} {t t' : TypeId} {x : Operand} {u v : Value} {W W' : World} (ho : o.op = .convert t t' x) (hx : A.eval x = u) (h : (convert t t' u).run P W = .ok v W') : (execOp A.eval o).run P W = .ok (.value v) W' := by
  unfold execOp
  simp only [ho, hx, Sem.run_bind, h, Result.andThen_ok]
  rfl
theorem cv32 (k : Nat) (hk : k < 4294967296) (W : World) : (convert 22 23 (.int .u32 (k : Int))).run Try.prog W = .ok (.int .u64 (k : Int)) W := by
  have e : IntKind.u64.wrap (k : Int) = (k : Int) := IntWalk.u64_in _ (by omega)
  go_simp
theorem bdN1 (k : Nat) (hk : k < 18446744073709551616) (W : World) : (Instr.build 24 #[(0, .int .u64 (k : Int))]).run Try.prog W = .ok (numV k) W := by
  have h0 : wd k 0 = k := by simp [wd, B64]; omega
  have h1 : wd k 1 = 0 := by simp [wd, B64]; omega
  have h2 : wd k 2 = 0 := by simp [wd, B64]; omega
  have h3 : wd k 3 = 0 := by simp [wd, B64]; omega
  unfold numV
  rw [h0, h1, h2, h3]
  go_simp
section
variable {α : Type} [Lean.Grind.CommRing α]
theorem mk_ring (A B d x y : α) (h : d * A = -B) : A - B * (x * x) * (y * y) = (1 + d * (x * x) * (y * y)) * A := by grind
theorem is_ring (d x y : α) : 1 + d * (x * x * (y * y)) = 1 + d * (x * x) * (y * y) := by grind
theorem com_ring (A b : α) : A * b = b * A := by grind
end
theorem d_fz : dF * fz 121666 = -(fz 121665) := by
  have h1 : fz (dN * 121666) = fz (PN - 121665) := by rw [← fz_mod, d_is.1, fz_mod]
  rw [fz_mul] at h1
  show fz dN * fz 121666 = -(fz 121665)
  rw [h1, ← fz_negm 121665 (by decide +kernel), fz_mod]
  congr 1
theorem small_fz : fz 121666 ≠ 0 := fun e => absurd ((fz_null 121666).1 e) (by decide +kernel)
theorem makeB_on (X Y : Nat) : makeB X Y = true ↔ On (fz X, fz Y) := by
  unfold makeB On
  rw [decide_eq_true_eq]
  have e : ∀ a b : Nat, (a % PN = b % PN) = (fz a = fz b) := fun a b => propext (fz_eq a b)
  rw [e]
  simp only [fz_mod, fz_mul, fz_sub _ _ (Nat.le_of_lt (md _))]
  rw [mk_ring _ _ _ _ _ d_fz, com_ring]
  constructor
  · intro h
    exact fp_cancel _ _ _ small_fz h
  · intro h
    rw [show fz Y * fz Y - fz X * fz X = 1 + dF * (fz X * fz X) * (fz Y * fz Y) from h]
theorem isB_on (X Y : Nat) : isB X Y = true ↔ On (fz X, fz Y) := by
  unfold isB On
  rw [decide_eq_true_eq]
  have e : ∀ a b : Nat, (a % PN = b % PN) = (fz a = fz b) := fun a b => propext (fz_eq a b)
  rw [e, fz_sub _ _ (Nat.le_of_lt (md _))]
  simp only [fz_mod, fz_mul, fz_add, fz_one]
  rw [is_ring]
theorem make_yes (X Y : Nat) (hX : X < PN) (hY : Y < PN) (h : On (fz X, fz Y)) (w : World) : Calls Try.prog 33 #[numV X, numV Y] w fun E w' => E = .returned (.tuple #[pv4 (X, Y, 1, X * Y % PN), .int .i64 0]) ∧ Below w.heap.size w w' := by
  have hc := make_any X Y hX hY w
  rw [makeR, (makeB_on X Y).2 h] at hc
  exact hc
theorem make_no (X Y : Nat) (hX : X < PN) (hY : Y < PN) (h : ¬ On (fz X, fz Y)) (w : World) : Calls Try.prog 33 #[numV X, numV Y] w fun E w' => E = .returned (.tuple #[pv4 zero4, .int .i64 22]) ∧ Below w.heap.size w w' := by
  have hc := make_any X Y hX hY w
  rw [makeR, Bool.eq_false_iff.2 (fun e => h ((makeB_on X Y).1 e))] at hc
  exact hc
theorem el' (n : Nat) (w : World) (h : n < PN) : Calls Try.prog 34 #[numV n] w fun e w' => e = .returned (numV n) ∧ Below w.heap.size w w' := by
  have hc := el_any n w (of_PN h)
  rw [Nat.mod_eq_of_lt h] at hc
  exact hc
/-- A point by its x and y. -/
def at4 (p : Pt) : N4 := (p.1.val, p.2.val, 1, p.1.val * p.2.val % PN)
theorem ok4_p (p : Pt) (hp : On p) : Ok4 (at4 p) p := ok4_at _ _ p p.1.isLt p.2.isLt hp (fz_of p.1).symm (fz_of p.2).symm
theorem make_pt (p : Pt) (hp : On p) (X Y : Nat) (hX : X = p.1.val) (hY : Y = p.2.val) (w : World) : Calls Try.prog 33 #[numV X, numV Y] w fun E w' => E = .returned (.tuple #[pv4 (at4 p), .int .i64 0]) ∧ Below w.heap.size w w' := by
  subst hX hY
  refine make_yes _ _ p.1.isLt p.2.isLt ?_ w
  rw [fz_of, fz_of]
  exact hp
theorem bin_eql_nu_self (a : Nat) (x y : Operand) (W : World) (ha : a < PN) : (do eqGuard .eql 25 x y (numV a) (numV a); binOp .eql 25 (numV a) (numV a) : Sem Value).run Try.prog W = .ok (.bool true) W := by
  have h := bin_eql_nu a a x y W (of_PN ha) (of_PN ha)
  rw [decide_eq_true rfl] at h
  exact h
theorem xyp0 (w : World) : Calls Try.prog 46 #[.agg z16] w fun E w' => E = .returned (.tuple #[numV (zeroE.1).val, numV (zeroE.2).val]) ∧ Below w.heap.size w w' := by
  have h := xy_none w
  have hr := ok4_zero.ext.rep
  rw [(xy_of 0 1 1 zeroE one_below hr).1, (xy_of 0 1 1 zeroE one_below hr).2] at h
  exact h
end Go.Proofs.Ytigfoophimjgdaa
namespace Go.Proofs.Ytigfoophimjgdaa
set_option maxRecDepth 20000
set_option linter.unusedSimpArgs false
set_option linter.unusedVariables false
open Go.RowKit Go.Sort
set_option maxRecDepth 20000 in
set_option maxHeartbeats 8000000 in
theorem beside_any (Y : Nat) (w : World) (hY : Y < PN) : Calls Try.prog 55 #[numV Y] w fun E w' => E = .returned (.tuple #[numV (rootN iV (sqR Y)), .bool (okN iV (sqR Y))]) ∧ Below w.heap.size w w' := by
  have HMIX := Lib.hid (show Try.prog.follows .mixedOrders = true by kernel_rfl)
  go_enter Try.func55, Try.ntmps55
  have hM0 := Mem.start w
  (go_step; go_step; refine wp_region_lit ?_)
  refine wl_new hM0 (f := fun b => .pointer (some ⟨b, 0, none⟩)) (ob := .cells (elR Y) 27 (0, 0)) (fun W => run_box_of rfl rfl (bx_El Y W)) rfl fun b1 W1 hM1 => ?_
  simp only [Act.put, List.setIfInBounds_toArray, List.set_cons_zero, List.set_cons_succ]
  refine wl_new hM1 (f := fun b => .pointer (some ⟨b, 0, none⟩)) (ob := .cells z4 27 (0, 0)) (fun W => run_alloc_of rfl (al_El W)) rfl fun b2 W2 hM2 => ?_
  simp only [Act.put, List.setIfInBounds_toArray, List.set_cons_zero, List.set_cons_succ]
  refine wl_pure (v := .bool false) (fun _ => rfl) rfl ?_
  simp only [Act.put, List.setIfInBounds_toArray, List.set_cons_zero, List.set_cons_succ]
  refine wpList_nil ?_
  (go_step; go_step; go_step; refine wp_region_inw 7 HMIX.out (by decide) (by kernel_rfl) (by kernel_rfl) ?_)
  refine inw_callV (args := #[.int .u64 1]) (v := numV 1) (fun W => run_call_fn W (enters_of Try.func56 rfl rfl) rfl (by simp [Act.eval])) (fun W _ => psmall_any_ 1 (by decide) W) rfl rfl ?_; simp only [Act.put, List.setIfInBounds_toArray, List.set_cons_zero, List.set_cons_succ]
  refine inw_row hM2 1 (v := numV Y) rfl rfl rfl rfl rowEl rfl rfl ?_; simp only [Act.put, List.setIfInBounds_toArray, List.set_cons_zero, List.set_cons_succ]
  refine inw_row hM2 1 (v := numV Y) rfl rfl rfl rfl rowEl rfl rfl ?_; simp only [Act.put, List.setIfInBounds_toArray, List.set_cons_zero, List.set_cons_succ]
  refine inw_slice (n := 2) (L := elR Y ++ elR Y) (T := 27) (fun W => run_slice_of rfl (by simp [Act.eval]) (bs2 Y Y W)) rfl rfl ?_; simp only [List.nil_append, List.cons_append]
  obtain ⟨v1, ev1⟩ : ∃ x, x = Y * Y % PN := ⟨_, rfl⟩
  have pv1 : v1 < PN := by rw [ev1]; exact Nat.mod_lt _ PN_pos
  have Kv1 := mul_two' Y Y hY hY
  rw [← ev1] at Kv1
  refine inw_callS 3 10 (v := numV v1) rfl rfl (fun _ => rfl) (fun b W => run_call_fn W (enters_of Try.func60 rfl rfl) rfl (by simp [Act.eval, Act.put])) (fun b W h => Kv1 b W h) ?_; simp only [Act.put, List.setIfInBounds_toArray, List.set_cons_zero, List.set_cons_succ]
  refine inw_new (.cells z4 27 (0, 0)) rfl rfl (fun A W => run_alloc_of rfl (al_El W)) ?_; simp only [List.nil_append, List.cons_append]
  refine inw_new (.cells z4 27 (0, 0)) rfl rfl (fun A W => run_alloc_of rfl (al_El W)) ?_; simp only [List.nil_append, List.cons_append]
  refine inw_fin fun d os => ?_
  refine given_mk (t := 10) rfl fun s3 => ?_
  refine given_new (t := 4) rfl fun b3 lb3 gb3 => ?_
  refine given_new (t := 5) rfl fun b4 lb4 gb4 => ?_
  refine given_nil fun hap => ?_
  simp only [Act.put, List.setIfInBounds_toArray, List.set_cons_zero, List.set_cons_succ] at hap ⊢
  have nb3b4 : b3 ≠ b4 := hap.ne 5 6 rfl rfl rfl rfl rfl rfl rfl
  have hM3 := hM2.news2 (below_regrown W2 d os) lb3 gb3 lb4 gb4 nb3b4
  clear hap lb3 gb3 lb4 gb4 nb3b4
  generalize grow (redrawn W2 d) os = W3 at hM3 ⊢
  change wpAny _ _ _ _ 2 _ _ _
  refine any_set (n := 7) (by kernel_rfl) rfl hM3 0 (cs := (elR 1)) rfl rfl rfl rfl rowEl rfl (one_el 1) rfl rfl fun W4 hM4 => ?_
  simp only [List.set_cons_zero, List.set_cons_succ] at hM4
  refine any_set (n := 8) (by kernel_rfl) rfl hM4 1 (cs := (elR v1)) rfl rfl rfl rfl rowEl rfl (one_el v1) rfl rfl fun W5 hM5 => ?_
  simp only [List.set_cons_zero, List.set_cons_succ] at hM5
  refine wpAny_done (by kernel_rfl) ?_ _
  (go_step; go_step; go_step; refine wp_region_inw 8 HMIX.out (by decide) (by kernel_rfl) (by kernel_rfl) ?_)
  refine inw_callV (args := #[]) (v := numV dN) (fun W => run_call_fn W (enters_of Try.func75 rfl rfl) rfl (by simp [Act.eval])) (fun W _ => curD_any W) rfl rfl ?_; simp only [Act.put, List.setIfInBounds_toArray, List.set_cons_zero, List.set_cons_succ]
  refine inw_row hM5 1 (v := numV v1) rfl rfl rfl rfl rowEl rfl rfl ?_; simp only [Act.put, List.setIfInBounds_toArray, List.set_cons_zero, List.set_cons_succ]
  refine inw_slice (n := 2) (L := elR dN ++ elR v1) (T := 27) (fun W => run_slice_of rfl (by simp [Act.eval]) (bs2 dN v1 W)) rfl rfl ?_; simp only [List.nil_append, List.cons_append]
  obtain ⟨v2, ev2⟩ : ∃ x, x = dN * v1 % PN := ⟨_, rfl⟩
  have pv2 : v2 < PN := by rw [ev2]; exact Nat.mod_lt _ PN_pos
  have Kv2 := mul_two' dN v1 d_is.2 pv1
  rw [← ev2] at Kv2
  refine inw_callS 2 14 (v := numV v2) rfl rfl (fun _ => rfl) (fun b W => run_call_fn W (enters_of Try.func60 rfl rfl) rfl (by simp [Act.eval, Act.put])) (fun b W h => Kv2 b W h) ?_; simp only [Act.put, List.setIfInBounds_toArray, List.set_cons_zero, List.set_cons_succ]
  refine inw_row hM5 0 (v := numV 1) rfl rfl rfl rfl rowEl rfl rfl ?_; simp only [Act.put, List.setIfInBounds_toArray, List.set_cons_zero, List.set_cons_succ]
  refine inw_slice (n := 2) (L := elR v2 ++ elR 1) (T := 27) (fun W => run_slice_of rfl (by simp [Act.eval]) (bs2 v2 1 W)) rfl rfl ?_; simp only [List.nil_append, List.cons_append]
  obtain ⟨v3, ev3⟩ : ∃ x, x = (v2 + 1) % PN := ⟨_, rfl⟩
  have pv3 : v3 < PN := by rw [ev3]; exact Nat.mod_lt _ PN_pos
  have Kv3 := add_two' v2 1 pv2 (by decide +kernel)
  rw [← ev3] at Kv3
  refine inw_callS 5 17 (v := numV v3) rfl rfl (fun _ => rfl) (fun b W => run_call_fn W (enters_of Try.func74 rfl rfl) rfl (by simp [Act.eval, Act.put])) (fun b W h => Kv3 b W h) ?_; simp only [Act.put, List.setIfInBounds_toArray, List.set_cons_zero, List.set_cons_succ]
  refine inw_new (.cells z4 27 (0, 0)) rfl rfl (fun A W => run_alloc_of rfl (al_El W)) ?_; simp only [List.nil_append, List.cons_append]
  refine inw_fin fun d os => ?_
  refine given_mk (t := 14) rfl fun s2 => ?_
  refine given_mk (t := 17) rfl fun s5 => ?_
  refine given_new (t := 6) rfl fun b5 lb5 gb5 => ?_
  refine given_nil fun hap => ?_
  simp only [Act.put, List.setIfInBounds_toArray, List.set_cons_zero, List.set_cons_succ] at hap ⊢
  have hM6 := hM5.news1 (below_regrown W5 d os) lb5 gb5 
  clear hap lb5 gb5
  generalize grow (redrawn W5 d) os = W6 at hM6 ⊢
  change wpAny _ _ _ _ 1 _ _ _
  refine any_set (n := 8) (by kernel_rfl) rfl hM6 0 (cs := (elR v3)) rfl rfl rfl rfl rowEl rfl (one_el v3) rfl rfl fun W7 hM7 => ?_
  simp only [List.set_cons_zero, List.set_cons_succ] at hM7
  refine wpAny_done (by kernel_rfl) ?_ _
  (go_step; go_step; go_step; refine wp_region_inz 10 9 rfl rfl (steady_extract rfl) (by kernel_rfl) (by decide) HMIX.out (by decide) (by kernel_rfl) (by kernel_rfl) ?_)
  refine inw_row hM7 2 (v := numV v1) rfl rfl rfl rfl rowEl rfl rfl ?_; simp only [Act.put, List.setIfInBounds_toArray, List.set_cons_zero, List.set_cons_succ]
  refine inw_row hM7 1 (v := numV 1) rfl rfl rfl rfl rowEl rfl rfl ?_; simp only [Act.put, List.setIfInBounds_toArray, List.set_cons_zero, List.set_cons_succ]
  obtain ⟨v4, ev4⟩ : ∃ x, x = (v1 + PN - 1) % PN := ⟨_, rfl⟩
  have pv4 : v4 < PN := by rw [ev4]; exact Nat.mod_lt _ PN_pos
  have Kv4 := fun W => psub_any v1 1 W pv1 (by decide +kernel)
  simp only [← ev4] at Kv4
  refine inw_callV (args := #[numV v1, numV 1]) (v := numV v4) (fun W => run_call_fn W (enters_of Try.func73 rfl rfl) rfl (by simp [Act.eval])) (fun W _ => Kv4 W) rfl rfl ?_; simp only [Act.put, List.setIfInBounds_toArray, List.set_cons_zero, List.set_cons_succ]
  refine inw_row hM7 0 (v := numV v3) rfl rfl rfl rfl rowEl rfl rfl ?_; simp only [Act.put, List.setIfInBounds_toArray, List.set_cons_zero, List.set_cons_succ]
  obtain ⟨v5, ev5⟩ : ∃ x, x = IV v3 := ⟨_, rfl⟩
  have pv5 : v5 < PN := by rw [ev5]; exact IV_lt _
  have Kv5 := fun W => pinv_any' v3 W pv3
  simp only [← ev5] at Kv5
  refine inw_callV (args := #[numV v3]) (v := numV v5) (fun W => run_call_fn W (enters_of Try.func89 rfl rfl) rfl (by simp [Act.eval])) (fun W _ => Kv5 W) rfl rfl ?_; simp only [Act.put, List.setIfInBounds_toArray, List.set_cons_zero, List.set_cons_succ]
  refine inw_slice (n := 2) (L := elR v4 ++ elR v5) (T := 27) (fun W => run_slice_of rfl (by simp [Act.eval]) (bs2 v4 v5 W)) rfl rfl ?_; simp only [List.nil_append, List.cons_append]
  obtain ⟨v6, ev6⟩ : ∃ x, x = v4 * v5 % PN := ⟨_, rfl⟩
  have pv6 : v6 < PN := by rw [ev6]; exact Nat.mod_lt _ PN_pos
  have Kv6 := mul_two' v4 v5 pv4 pv5
  rw [← ev6] at Kv6
  refine inw_callS 5 24 (v := numV v6) rfl rfl (fun _ => rfl) (fun b W => run_call_fn W (enters_of Try.func60 rfl rfl) rfl (by simp [Act.eval, Act.put])) (fun b W h => Kv6 b W h) ?_; simp only [Act.put, List.setIfInBounds_toArray, List.set_cons_zero, List.set_cons_succ]
  obtain ⟨v7, ev7⟩ : ∃ x, x = rootN iV v6 := ⟨_, rfl⟩
  have pv7 : v7 < PN := by rw [ev7]; exact rootN_below _
  have Kv7 := fun W => proot' v6 W pv6
  simp only [← ev7] at Kv7
  obtain ⟨ok1, eok1⟩ : ∃ x, x = okN iV v6 := ⟨_, rfl⟩
  simp only [← eok1] at Kv7
  refine inw_callV (args := #[numV v6]) (v := .tuple #[numV v7, .bool ok1]) (fun W => run_call_fn W (enters_of Try.func72 rfl rfl) rfl (by simp [Act.eval])) (fun W _ => Kv7 W) rfl rfl ?_; simp only [Act.put, List.setIfInBounds_toArray, List.set_cons_zero, List.set_cons_succ]
  refine inw_pure (v := numV v7) (fun _ => rfl) rfl rfl ?_; simp only [Act.put, List.setIfInBounds_toArray, List.set_cons_zero, List.set_cons_succ]
  refine inw_pure (v := .bool ok1) (fun _ => rfl) rfl rfl ?_; simp only [Act.put, List.setIfInBounds_toArray, List.set_cons_zero, List.set_cons_succ]
  refine inw_fin fun d os => ?_
  refine given_mk (t := 24) rfl fun s5 => ?_
  refine given_nil fun hap => ?_
  simp only [Act.put, List.setIfInBounds_toArray, List.set_cons_zero, List.set_cons_succ] at hap ⊢
  have hM8 := hM7.calls (below_regrown W7 d os)
  clear hap 
  generalize grow (redrawn W7 d) os = W8 at hM8 ⊢
  change wpAny _ _ _ _ 2 _ _ _
  refine any_set (n := 10) (by kernel_rfl) rfl hM8 3 (cs := (elR v7)) rfl rfl rfl rfl rowEl rfl (one_el v7) rfl rfl fun W9 hM9 => ?_
  simp only [List.set_cons_zero, List.set_cons_succ] at hM9
  refine any_pure (n := 11) (v := .bool ok1) (by kernel_rfl) rfl (fun _ => rfl) rfl rfl ?_
  simp only [Act.put, List.setIfInBounds_toArray, List.set_cons_zero, List.set_cons_succ]
  refine wpAny_done (by kernel_rfl) ?_ _
  refine NoPanic.normal ?_
  (go_step; go_step; go_step; refine bodyPost_ret (v := .tuple #[numV v7, .bool ok1]) (results_arr_tmp Try.results55 rfl rfl (hM9.load 3 rfl rowEl)) rfl ⟨?_, hM9.below⟩)
  exact by rw [eok1, ev7, ev6, ev5, ev4, ev3, ev2, ev1]; unfold sqR; rfl
end Go.Proofs.Ytigfoophimjgdaa
namespace Go.Proofs.Ytigfoophimjgdaa
set_option maxRecDepth 20000
set_option linter.unusedSimpArgs false
set_option linter.unusedVariables false
open Go.RowKit Go.Sort
/-- A type whose values lie in one cell. -/
def CellTy (P : Program) (ty : TypeId) : Prop := (∃ d, P.underlying ty = some d ∧ (match d with | .struct _ | .array _ _ => false | _ => true) = true) ∧ (P.info? ty).map (·.size) = some 1
section
variable {P : Program} {w w0 w00 : World} {M : List Blk} {o : Oper} {A : Act}
/-- A function value that has taken variables is called. -/
theorem run_call_dyn {f : FuncId} {x : Operand} {args : Array Operand} {tys : Array TypeId} {vals first cap all : Array Value} (W : World) (hE : Enters P f) (ho : o.op = .call { callee := .value x, args := args, argTypes := tys }) (hx : A.eval x = .func (.func f) first cap) (hv : args.map A.eval = vals) (ha : first ++ vals ++ cap = all) : (execOp A.eval o).run P W = .ok (.enter f all) W := by
  have h := hE all W
  unfold execOp
  simp [ho, resolve, Deferred.ofValue, hx, invoke, hv]
  rw [← Array.append_assoc, ha, h]
theorem run_makeFunc_of {fn : Fn} {first cap : Array Operand} {v : Value} {W W' : World} (ho : o.op = .makeFunc fn first cap) (h : (Instr.makeFunc fn (first.map A.eval) (cap.map A.eval)).run P W = .ok v W') : (execOp A.eval o).run P W = .ok (.value v) W' := by
  unfold execOp
  simp only [ho, Sem.run_bind, h, Result.andThen_ok]
  rfl
theorem load_cell {b off : Nat} {cs : Array Value} {v : Value} {t : TypeId} {fr : Nat × Nat} (hi : w.heap[b]? = some (.cells cs t fr)) (hv : cs[off]? = some v) {ty : TypeId} (hT : CellTy P ty) : (loadVar ty ⟨b, off, none⟩).run P w = .ok v w := by
  obtain ⟨⟨d, hu, hd⟩, _⟩ := hT
  have hagg : (isAgg ty).run P w = .ok false w := by
    unfold isAgg
    rw [Sem.run_bind, run_underlying hu w]
    cases d <;> first | rfl | cases hd
  have hc : w.cell? ⟨b, off, none⟩ = some v := by rw [cell_of_row w b off cs t fr hi, hv]
  unfold loadVar
  rw [Sem.run_bind, hagg]
  simp [hc]
theorem run_load_cell {ty : TypeId} {x : Operand} {b off : Nat} {t : TypeId} {cs : Array Value} {v : Value} {fr : Nat × Nat} (ho : o.op = .load ty x) (hx : A.eval x = .pointer (some ⟨b, off, none⟩)) (hg : w.heap[b]? = some (.cells cs t fr)) (hv : cs[off]? = some v) (hT : CellTy P ty) :
    (execOp A.eval o).run P w = .ok (.value v) w := by
  unfold execOp
  simp only [ho, hx, Instr.loadAt, Instr.sureAddr, Sem.run_bind, Sem.run_pure, Result.andThen_ok, load_cell hg hv hT]
/-- A value of one cell goes into a row's cell. -/
theorem run_store_at {b off : Nat} {cs : Array Value} {v : Value} {t ty : TypeId} (hg : w.heap[b]? = some (.cells cs t (0, 0))) (hl : off < cs.size) (hT : CellTy P ty) (h1 : v.oneCell' = true) : (storeVar ty ⟨b, off, none⟩ v).run P w = .ok () (w.setRow b (cs.setIfInBounds off v)) := by
  have h := run_storeCells_at (P := P) b off t [v] 0 cs w hg (by simp only [List.length_singleton]; omega) (fun x hx => by simp at hx; subst hx; exact h1)
  have hc : v.cells = #[v] := by cases v <;> first | rfl | cases h1
  obtain ⟨_, hi⟩ := hT
  cases hq : P.info? ty with
  | none => simp [hq] at hi
  | some i =>
    have hs : i.size = 1 := by simpa [hq] using hi
    simp [storeVar, hc, sizeOf, typeInfo, hq, hs, Sem.run_bind]
    rw [h]
    congr 2
    refine Array.ext' ?_
    rw [Array.toList_setIfInBounds, List.set_eq_take_append_cons_drop, if_pos (by simpa using hl)]
    simp
end
section
variable {P : Program} {ops : Array Oper} {w w0 w00 : World} {Q : Exit → Act → World → Prop} {Qw : Act → World → Prop} {o : Oper} {rest : List Oper} {A : Act} {M : List Blk} {k : Nat} {Ps : List PkW} {ns : List Nat} {md : Region.Mode} {fuel : Nat} {listed : Array Bool} {S : World → Prop}
theorem wl_cell (hM : Mem w0 M w) (i : Nat) {ty : TypeId} {x : Operand} {b off : Nat} {t : TypeId} {cs : Array Value} {fr : Nat × Nat} {v : Value} (ho : o.op = .load ty x) (hx : A.eval x = .pointer (some ⟨b, off, none⟩)) (hi : M[i]? = some (b, .cells cs t fr)) (hv : cs[off]? = some v) (hT : CellTy P ty)
    (hgd : Region.wanted o (yielded ops A.tmps) = true) (hr : wpList P ops Q rest (A.put o.dst v) w) : wpList P ops Q (o :: rest) A w := by
  refine wpList_step fun K hK => ?_
  rw [if_pos hgd]
  unfold Oper.wp
  rw [run_load_cell ho hx (hM.get i hi) hv hT]
  exact hK _ _ hr
theorem inw_cell (hM : Mem w00 M w0) (i : Nat) {ty : TypeId} {x : Operand} {b off : Nat} {t : TypeId} {cs : Array Value} {fr : Nat × Nat} {v : Value} (ho : o.op = .load ty x) (hx : A.eval x = .pointer (some ⟨b, off, none⟩)) (hi : M[i]? = some (b, .cells cs t fr)) (hv : cs[off]? = some v) (hT : CellTy P ty)
    (hf : Ps.filter (waits ops o) = []) (hw : Region.wanted o (yielded ops A.tmps) = true) (hr : wpInw P ops w0 Qw rest (k + 1) (A.put o.dst v) Ps ns) : wpInw P ops w0 Qw (o :: rest) k A Ps ns :=
  inw_val hf hw (fun d os => run_load_cell ho hx ((hM.calls (below_regrown w0 d os)).get i hi) hv hT) hr
theorem hd_cell (n : Nat) (d : Tmp) {v : Value} {ty : TypeId} {x : Operand} {b off : Nat} {t : TypeId} {cs : Array Value} {fr : Nat × Nat} (L : Array Bool) (hL : listed.setIfInBounds n true = L) (hn : ops[n]? = some o) (hdd : o.dst = some d) (ho : o.op = .load ty x) (hx : A.eval x = .pointer (some ⟨b, off, none⟩)) (hg : ∀ W, S W → W.heap[b]? = some (.cells cs t fr)) (hv : cs[off]? = some v) (hT : CellTy P ty) (hs : Region.noSelect ops = true) (hf : Region.free md ops listed n = true) (hr : (Region.ready md ops listed).contains n = true) (hw : Region.wanted o (yielded ops A.tmps) = true) (hS : S w)
    (h : wpAnyH P md ops (NoPanic Q) S fuel L (A.put (some d) v) w) : wpAnyH P md ops (NoPanic Q) S (fuel + 1) listed A w :=
  hd_take n d L hL hn hdd hs hf hr hw (fun W hW => run_load_cell ho hx (hg W hW) hv hT) hS h
/-- A value of one cell is stored. -/
theorem wp_setat (hM : Mem w0 M w) (i : Nat) {K : Act → World → Prop} {ty : TypeId} {x y : Operand} {b off : Nat} {t : TypeId} {cs cs' : Array Value} {v : Value} (ho : o.op = .store ty x y) (hx : A.eval x = .pointer (some ⟨b, off, none⟩)) (hy : A.eval y = v) (hi : M[i]? = some (b, .cells cs t (0, 0))) (hl : off < cs.size) (hc : cs.setIfInBounds off v = cs') (hT : CellTy P ty) (h1 : v.oneCell' = true)
    (hr : ∀ W, Mem w0 (M.set i (b, .cells cs' t (0, 0))) W → K (A.put o.dst undef) W) : o.wp P A w K Q := by
  subst hc
  unfold Oper.wp execOp
  simp only [ho, hx, hy, Instr.storeAt, Instr.sureAddr, Sem.run_bind, Sem.run_pure, Result.andThen_ok, run_store_at (hM.get i hi) hl hT h1]
  exact hr _ (hM.set i hi)
theorem wl_setat (hM : Mem w0 M w) (i : Nat) {ty : TypeId} {x y : Operand} {b off : Nat} {t : TypeId} {cs cs' : Array Value} {v : Value} (ho : o.op = .store ty x y) (hx : A.eval x = .pointer (some ⟨b, off, none⟩)) (hy : A.eval y = v) (hi : M[i]? = some (b, .cells cs t (0, 0))) (hl : off < cs.size) (hc : cs.setIfInBounds off v = cs') (hT : CellTy P ty) (h1 : v.oneCell' = true)
    (hgd : Region.wanted o (yielded ops A.tmps) = true) (hd : o.dst = none) (hr : ∀ W, Mem w0 (M.set i (b, .cells cs' t (0, 0))) W → wpList P ops Q rest A W) : wpList P ops Q (o :: rest) A w := by
  refine wpList_step fun K hK => ?_
  rw [if_pos hgd]
  refine wp_setat hM i ho hx hy hi hl hc hT h1 fun W hW => ?_
  rw [hd]
  exact hK _ _ (hr W hW)
theorem any_setat {n : Nat} (hr : Region.ready md ops listed = [n]) (hn : ops[n]? = some o) (hM : Mem w0 M w) (i : Nat) {ty : TypeId} {x y : Operand} {b off : Nat} {t : TypeId} {cs cs' : Array Value} {v : Value} (ho : o.op = .store ty x y) (hx : A.eval x = .pointer (some ⟨b, off, none⟩)) (hy : A.eval y = v) (hi : M[i]? = some (b, .cells cs t (0, 0))) (hl : off < cs.size) (hc : cs.setIfInBounds off v = cs') (hT : CellTy P ty) (h1 : v.oneCell' = true)
    (hgd : o.guard = none) (hd : o.dst = none) (hk : ∀ W, Mem w0 (M.set i (b, .cells cs' t (0, 0))) W → wpAny P md ops Q fuel (listed.setIfInBounds n true) A W) : wpAny P md ops Q (fuel + 1) listed A w :=
  any_one hr hn fun K hK => by
    rw [if_pos (by simp [Region.wanted, hgd])]
    refine wp_setat hM i ho hx hy hi hl hc hT h1 fun W hW => ?_
    rw [hd]
    exact hK _ _ (hk W hW)
theorem hd_setat {n : Nat} (L : Array Bool) (hL : listed.setIfInBounds n true = L) (hr : Region.ready md ops listed = [n]) (hn : ops[n]? = some o) (hM : Mem w0 M w) (i : Nat) {ty : TypeId} {x y : Operand} {b off : Nat} {t : TypeId} {cs cs' : Array Value} {v : Value} (ho : o.op = .store ty x y) (hx : A.eval x = .pointer (some ⟨b, off, none⟩)) (hy : A.eval y = v) (hi : M[i]? = some (b, .cells cs t (0, 0))) (hl : off < cs.size) (hc : cs.setIfInBounds off v = cs') (hT : CellTy P ty) (h1 : v.oneCell' = true)
    (hgd : o.guard = none) (hd : o.dst = none) (hSW : ∀ W, Mem w0 (M.set i (b, .cells cs' t (0, 0))) W → S W) (hk : ∀ W, Mem w0 (M.set i (b, .cells cs' t (0, 0))) W → wpAnyH P md ops Q S fuel L A W) : wpAnyH P md ops Q S (fuel + 1) listed A w :=
  wpAnyH_ready hr (by simp) fun j hj => by
    obtain rfl : j = n := by simpa using hj
    unfold wpOp
    simp only [hn]
    rw [if_pos (by simp [Region.wanted, hgd])]
    refine .inl (wp_setat hM i ho hx hy hi hl hc hT h1 fun W hW => ?_)
    rw [hd, hL]
    exact ⟨hSW W hW, hk W hW⟩
end
end Go.Proofs.Ytigfoophimjgdaa
namespace Go.Proofs.Ytigfoophimjgdaa
set_option maxRecDepth 20000
set_option linter.unusedSimpArgs false
set_option linter.unusedVariables false
open Go.RowKit Go.Sort
theorem cellU : CellTy Try.prog 23 := ⟨⟨_, Try.underlying23, rfl⟩, by kernel_rfl⟩
theorem or63 (a : Nat) (h : a < 9223372036854775808) (x y : Operand) (W : World) : (do eqGuard .or 23 x y (.int .u64 (a : Int)) (.int .u64 9223372036854775808); binOp .or 23 (.int .u64 (a : Int)) (.int .u64 9223372036854775808) : Sem Value).run Try.prog W = .ok (.int .u64 ((a + 9223372036854775808 : Nat) : Int)) W := by
  have e : bits .or .u64 (a : Int) 9223372036854775808 = ((a + 9223372036854775808 : Nat) : Int) := by
    have h1 := u64_or_nat a 9223372036854775808 (by omega) (by omega)
    have h2 := Nat.two_pow_add_eq_or_of_lt (i := 63) (b := a) (by omega) 1
    have h3 : a ||| 9223372036854775808 = a + 9223372036854775808 := by
      rw [Nat.or_comm, Nat.add_comm]
      exact h2.symm
    rw [h3] at h1
    exact h1
  go_simp
theorem andnot63 (a : Nat) (h : a < 18446744073709551616) (x y : Operand) (W : World) : (do eqGuard .andNot 23 x y (.int .u64 (a : Int)) (.int .u64 9223372036854775808); binOp .andNot 23 (.int .u64 (a : Int)) (.int .u64 9223372036854775808) : Sem Value).run Try.prog W = .ok (.int .u64 ((a % 9223372036854775808 : Nat) : Int)) W := by
  have e : bits .andNot .u64 (a : Int) 9223372036854775808 = ((a % 9223372036854775808 : Nat) : Int) := by
    have h1 := u64_andNot_nat a 9223372036854775808 (by omega) (by omega)
    have h2 : a &&& 9223372036854775807 = a % 9223372036854775808 := Nat.and_two_pow_sub_one_eq_mod a 63
    rw [show (18446744073709551615 - 9223372036854775808 : Nat) = 9223372036854775807 from rfl, h2] at h1
    exact h1
  go_simp
/-- The highest bit set, and struck. -/
theorem wd_low (n : Nat) (hn : n < PN) : wd n 3 < 9223372036854775808 := by
  have h : n < 9223372036854775808 * B64 ^ 3 := Nat.lt_trans hn (by decide +kernel)
  unfold wd
  exact Nat.lt_of_le_of_lt (Nat.mod_le _ _) (Nat.div_lt_of_lt_mul (by rw [Nat.mul_comm]; exact h))
theorem el_high (n : Nat) (hn : n < PN) : (elR n).setIfInBounds 3 (.int .u64 ((wd n 3 + 9223372036854775808 : Nat) : Int)) = elR (n + 9223372036854775808 * B64 ^ 3) := by
  have hB : 0 < B64 := by decide
  have e0 : wd (n + 9223372036854775808 * B64 ^ 3) 0 = wd n 0 := by
    unfold wd
    rw [Nat.pow_zero, Nat.div_one, Nat.div_one, show 9223372036854775808 * B64 ^ 3 = (9223372036854775808 * B64 ^ 2) * B64 by decide +kernel, Nat.add_mul_mod_self_right]
  have e1 : wd (n + 9223372036854775808 * B64 ^ 3) 1 = wd n 1 := by
    unfold wd
    rw [show 9223372036854775808 * B64 ^ 3 = (9223372036854775808 * B64 * B64) * B64 ^ 1 by decide +kernel, Nat.add_mul_div_right _ _ (by decide), Nat.add_mul_mod_self_right]
  have e2 : wd (n + 9223372036854775808 * B64 ^ 3) 2 = wd n 2 := by
    unfold wd
    rw [show 9223372036854775808 * B64 ^ 3 = (9223372036854775808 * B64) * B64 ^ 2 by decide +kernel, Nat.add_mul_div_right _ _ (by decide +kernel), Nat.add_mul_mod_self_right]
  have e3 : wd (n + 9223372036854775808 * B64 ^ 3) 3 = wd n 3 + 9223372036854775808 := by
    have hl := wd_low n hn
    unfold wd at hl ⊢
    rw [Nat.add_mul_div_right _ _ (by decide +kernel)]
    have hd : n / B64 ^ 3 < 9223372036854775808 := Nat.div_lt_of_lt_mul (by rw [Nat.mul_comm]; exact Nat.lt_trans hn (by decide +kernel))
    rw [Nat.mod_eq_of_lt (Nat.lt_trans hd (by decide))] at hl ⊢
    obtain ⟨q, hq⟩ : ∃ q, n / B64 ^ 3 = q := ⟨_, rfl⟩
    rw [hq] at hd ⊢
    exact Nat.mod_eq_of_lt (by have hB2 : B64 = 18446744073709551616 := rfl; omega)
  unfold elR
  rw [e0, e1, e2, e3]
  rfl
end Go.Proofs.Ytigfoophimjgdaa
namespace Go.Proofs.Ytigfoophimjgdaa
set_option maxRecDepth 20000
set_option linter.unusedSimpArgs false
set_option linter.unusedVariables false
section
variable {α : Type} [Lean.Grind.CommRing α]
theorem neg_of (a : α) (h : a + 1 = 0) : (-1 : α) = a := by grind
theorem zero_form (d y : α) (h : y = 0) : d * (y * y) + 1 = 1 := by grind
theorem on_form (x y d : α) : (y * y - x * x = 1 + d * (x * x) * (y * y)) ↔ (x * x) * (d * (y * y) + 1) = y * y - 1 := ⟨fun h => by grind, fun h => by grind⟩
theorem mul_back (a b c : α) (h : c * b = 1) : a * b * c = a := by grind
theorem sq_two (a b : α) (h : a * a = b * b) : (a - b) * (a + b) = 0 := by grind
theorem sub_is (a b : α) (h : a - b = 0) : a = b := by grind
theorem add_is (a b : α) (h : a + b = 0) : a = -b := by grind
theorem neg_neg' (a b : α) (h : a = -b) : -a = b := by grind
end
theorem under_ne (y : Fp) : dF * (y * y) + 1 ≠ 0 := fun h => by
  have h1 : iF * iF = dF * (y * y) := by rw [i_sqF]; exact neg_of _ h
  have h2 := d_nsq iF y h1
  rw [zero_form dF y h2] at h
  exact absurd h (by decide +kernel)
theorem sqR_fz (Y : Nat) : fz (sqR Y) * (dF * (fz Y * fz Y) + 1) = fz Y * fz Y - 1 := by
  have hu : fz ((dN * (Y * Y % PN) % PN + 1) % PN) = dF * (fz Y * fz Y) + 1 := by
    rw [fz_mod, fz_add, fz_mod, fz_mul, fz_mod, fz_mul, fz_one]
  have hn : fz ((Y * Y % PN + PN - 1) % PN) = fz Y * fz Y - 1 := by
    rw [fz_mod, fz_sub _ _ (Nat.le_of_lt one_below), fz_mod, fz_mul, fz_one]
  unfold sqR
  rw [fz_mod, fz_mul, iv_fz _ (Nat.mod_lt _ PN_pos), hu, hn]
  exact mul_back _ _ _ (inv_ok _ (under_ne _))
theorem root_on (Y : Nat) (h : okN iV (sqR Y) = true) : On (fz (rootN iV (sqR Y)), fz Y) := by
  have h1 := (root_sq (sqR Y) h).1
  obtain ⟨r, hr⟩ : ∃ r, rootN iV (sqR Y) = r := ⟨_, rfl⟩
  rw [hr] at h1 ⊢
  refine (on_form _ _ _).2 ?_
  show fz r * fz r * _ = _
  rw [← fz_mul, ← fz_mod, h1]
  exact sqR_fz Y
theorem on_root (p : Pt) (hp : On p) : okN iV (sqR p.2.val) = true ∧ (fz (rootN iV (sqR p.2.val)) = p.1 ∨ fz (rootN iV (sqR p.2.val)) = -p.1) := by
  have h1 := (on_form p.1 p.2 dF).1 hp
  have h2 := sqR_fz p.2.val
  rw [fz_of] at h2
  have h3 : fz (sqR p.2.val) = p.1 * p.1 := fp_cancel _ _ _ (under_ne p.2) (h2.trans h1.symm)
  have h4 : sqR p.2.val = p.1.val * p.1.val % PN := by
    refine fz_inj (sqR_lt _) (Nat.mod_lt _ PN_pos) ?_
    rw [h3, fz_mod, fz_mul, fz_of]
  have h5 : okN iV (sqR p.2.val) = true := by rw [h4]; exact square_ok _
  refine ⟨h5, ?_⟩
  have h6 := (root_sq (sqR p.2.val) h5).1
  obtain ⟨r, hr⟩ : ∃ r, rootN iV (sqR p.2.val) = r := ⟨_, rfl⟩
  rw [hr] at h6 ⊢
  have h7 : fz r * fz r = p.1 * p.1 := by rw [← fz_mul, ← fz_mod, h6, h3]
  rcases fp_dom _ _ (sq_two _ _ h7) with h | h
  · exact .inl (sub_is _ _ h)
  · exact .inr (add_is _ _ h)
/-- The x of a point is its y's root, or what is left of p. -/
theorem signed (p : Pt) (hp : On p) : (p.1.val % 2 = 1 → -(fz (rootN iV (sqR p.2.val))) = p.1 ∧ rootN iV (sqR p.2.val) ≠ 0) ∧ (p.1.val % 2 = 0 → fz (rootN iV (sqR p.2.val)) = p.1) := by
  obtain ⟨hk, hs⟩ := on_root p hp
  have hev := (root_sq (sqR p.2.val) hk).2
  have hlt := rootN_below (sqR p.2.val)
  obtain ⟨r, hr⟩ : ∃ r, rootN iV (sqR p.2.val) = r := ⟨_, rfl⟩
  rw [hr] at hs hev hlt ⊢
  clear hr hk
  have hx := p.1.isLt
  have hfx := fz_of p.1
  have hodd := PN_odd
  obtain ⟨x, ex⟩ : ∃ x, p.1.val = x := ⟨_, rfl⟩
  rw [ex] at hx hfx ⊢
  rw [← hfx] at hs ⊢
  have hn := fz_negm x hx
  rcases hs with h | h
  · have e := fz_inj hlt hx h
    subst e
    exact ⟨fun h1 => by omega, fun _ => rfl⟩
  · rw [← hn] at h
    have e := fz_inj hlt (Nat.mod_lt _ PN_pos) h
    have hcases : (x = 0 ∧ r = 0) ∨ (x ≠ 0 ∧ r = PN - x) := by
      by_cases h0 : x = 0
      · left
        refine ⟨h0, ?_⟩
        rw [e, h0, Nat.zero_add, Nat.sub_zero, Nat.mod_self]
      · right
        refine ⟨h0, ?_⟩
        rw [e, Nat.zero_add]
        exact Nat.mod_eq_of_lt (by omega)
    rcases hcases with ⟨h0, h1⟩ | ⟨h0, h1⟩
    · subst h0 h1
      exact ⟨fun h2 => by omega, fun _ => rfl⟩
    · refine ⟨fun h2 => ⟨?_, by omega⟩, fun h2 => by omega⟩
      exact neg_neg' _ _ (by rw [h, hn])
/-- A number's highest bit, and the others. -/
def decY (N : Nat) : Nat := N % (9223372036854775808 * B64 ^ 3)
def decB (N : Nat) : Bool := decide (bitN N 255 = 1)
def encN (x n : Nat) : Nat := if x % 2 = 1 then n + 9223372036854775808 * B64 ^ 3 else n
def HB : Nat := 57896044618658097711785492504343953926634992332820282019728792003956564819968
theorem HB_is : 9223372036854775808 * B64 ^ 3 = HB ∧ 2 ^ 255 = HB ∧ B64 ^ 4 = 2 * HB ∧ PN < HB := by decide +kernel
theorem decY_lt (N : Nat) : decY N < HB := by unfold decY; rw [HB_is.1]; exact Nat.mod_lt _ (by decide +kernel)
theorem two_parts (N : Nat) (h : N < B64 ^ 4) : N = decY N + (if decB N = true then HB else 0) := by
  unfold decY decB bitN
  rw [HB_is.1, HB_is.2.1]
  rw [HB_is.2.2.1] at h
  have hp : 0 < HB := by decide +kernel
  obtain ⟨H, hH⟩ : ∃ H, HB = H := ⟨_, rfl⟩
  rw [hH] at h hp ⊢
  have h1 := Nat.div_add_mod N H
  have h2 : N / H < 2 := Nat.div_lt_of_lt_mul (by omega)
  have h3 : N / H = 0 ∨ N / H = 1 := by
    generalize N / H = q at h2
    omega
  rcases h3 with h3 | h3
  · rw [h3] at h1 ⊢
    simp
    omega
  · rw [h3] at h1 ⊢
    simp
    omega
theorem enc_dec (x n : Nat) (hn : n < PN) : decY (encN x n) = n ∧ decB (encN x n) = decide (x % 2 = 1) ∧ encN x n < B64 ^ 4 := by
  unfold decY decB bitN encN
  rw [HB_is.1, HB_is.2.1, HB_is.2.2.1]
  have hn2 : n < HB := Nat.lt_trans hn HB_is.2.2.2
  obtain ⟨H, hH⟩ : ∃ H, HB = H := ⟨_, rfl⟩
  rw [hH] at hn2 ⊢
  have hp : 0 < H := by omega
  by_cases h : x % 2 = 1
  · rw [if_pos h, decide_eq_true h]
    have h1 : (n + H) / H = 1 := by rw [Nat.add_div_right _ hp, Nat.div_eq_of_lt hn2]
    have h2 : (n + H) % H = n := by rw [Nat.add_mod_right, Nat.mod_eq_of_lt hn2]
    rw [h1, h2]
    exact ⟨rfl, rfl, by omega⟩
  · rw [if_neg h, decide_eq_false h]
    rw [Nat.div_eq_of_lt hn2, Nat.mod_eq_of_lt hn2]
    exact ⟨rfl, rfl, by omega⟩
/-- What Decode comes to: the error, the point. -/
def decE (N : Nat) : Nat := if decY N < PN then (if okN iV (sqR (decY N)) = true then (if decB N = true ∧ rootN iV (sqR (decY N)) = 0 then 22 else 0) else 22) else 2
def decX (N : Nat) : Nat := if decB N = true then (0 + PN - rootN iV (sqR (decY N))) % PN else rootN iV (sqR (decY N))
def decP (N : Nat) : Pt := if decE N = 0 then (fz (decX N), fz (decY N)) else zeroE
theorem decE_zero (N : Nat) (h : decE N = 0) : decY N < PN ∧ okN iV (sqR (decY N)) = true ∧ ¬ (decB N = true ∧ rootN iV (sqR (decY N)) = 0) := by
  unfold decE at h
  split at h
  · rename_i h1
    split at h
    · rename_i h2
      split at h
      · cases h
      · rename_i h3
        exact ⟨h1, h2, h3⟩
    · cases h
  · cases h
theorem decX_lt (N : Nat) : decX N < PN := by
  unfold decX
  split
  · exact Nat.mod_lt _ PN_pos
  · exact rootN_below _
theorem decP_on (N : Nat) : On (decP N) := by
  unfold decP
  split
  · rename_i h
    obtain ⟨h1, h2, h3⟩ := decE_zero N h
    have ho := root_on _ h2
    have hrl := rootN_below (sqR (decY N))
    unfold decX
    obtain ⟨r, hr⟩ : ∃ r, rootN iV (sqR (decY N)) = r := ⟨_, rfl⟩
    obtain ⟨y, hy⟩ : ∃ y, decY N = y := ⟨_, rfl⟩
    rw [hr] at ho hrl ⊢
    rw [hy] at ho ⊢
    split
    · rw [fz_negm r hrl]
      exact on_neg (fz r, fz y) ho
    · exact ho
  · exact on_zero
theorem dec_enc (p : Pt) (hp : On p) : decE (encN p.1.val p.2.val) = 0 ∧ decP (encN p.1.val p.2.val) = p := by
  obtain ⟨e1, e2, _⟩ := enc_dec p.1.val p.2.val p.2.isLt
  obtain ⟨s1, s2⟩ := signed p hp
  have hk := (on_root p hp).1
  have h0 : decE (encN p.1.val p.2.val) = 0 := by
    unfold decE
    rw [e1, e2, if_pos p.2.isLt, if_pos hk, if_neg]
    rintro ⟨h1, h2⟩
    exact (s1 (of_decide_eq_true h1)).2 h2
  refine ⟨h0, ?_⟩
  unfold decP decX
  rw [if_pos h0, e1, e2, fz_of]
  by_cases h : p.1.val % 2 = 1
  · rw [decide_eq_true h, if_pos rfl, fz_negm _ (rootN_below _), (s1 h).1]
  · rw [decide_eq_false h, if_neg (by decide), s2 (by omega)]
theorem enc_of_dec (N : Nat) (hN : N < B64 ^ 4) (h : decE N = 0) : encN (decP N).1.val (decP N).2.val = N := by
  obtain ⟨h1, h2, h3⟩ := decE_zero N h
  have hw := two_parts N hN
  have hlt := decX_lt N
  have hev := (root_sq _ h2).2
  have hrl := rootN_below (sqR (decY N))
  have ho := PN_odd
  unfold decP
  rw [if_pos h]
  show encN ((decX N) % PN) ((decY N) % PN) = N
  rw [Nat.mod_eq_of_lt hlt, Nat.mod_eq_of_lt h1]
  unfold encN
  rw [HB_is.1]
  have hx : decX N % 2 = 1 ↔ decB N = true := by
    unfold decX
    obtain ⟨r, hr⟩ : ∃ r, rootN iV (sqR (decY N)) = r := ⟨_, rfl⟩
    rw [hr] at h3 hev hrl ⊢
    cases hb : decB N
    · rw [if_neg (by decide)]
      exact ⟨fun h => by omega, fun h => by cases h⟩
    · rw [if_pos rfl]
      have hr0 : r ≠ 0 := fun e => h3 ⟨hb, e⟩
      rw [Nat.zero_add, Nat.mod_eq_of_lt (show PN - r < PN by omega)]
      exact ⟨fun _ => rfl, fun _ => by omega⟩
  by_cases hb : decB N = true
  · rw [if_pos (hx.2 hb)]
    rw [if_pos hb] at hw
    exact hw.symm
  · rw [if_neg (fun h => hb (hx.1 h))]
    rw [if_neg hb] at hw
    exact hw.symm
end Go.Proofs.Ytigfoophimjgdaa
