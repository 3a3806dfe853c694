/- mult.sum (layer 23): its contract. The closure of wide.Rem: one bit more. (wide.Num).IsZero: what it answers. -/
import Derived.Test.YtigfoophimjgdaaM23
import Derived.Test.YtigfoophimjgdaaM03
namespace Go.Proofs.Ytigfoophimjgdaa
set_option maxRecDepth 20000
set_option linter.unusedSimpArgs false
set_option linter.unusedVariables false
open Go.RowKit Go.Sort
theorem bx_Sl (v : Value) (g n : Nat) (hv : v = .slice (some ⟨g, 0, none⟩) n n) (W : World) : (Instr.box 133 v).run Try.prog W = .ok (.pointer (some ⟨W.heap.size, 0, none⟩)) (W.alloc (.cells #[v] 133 (0, 0))) := by
  subst hv
  go_simp
theorem al_Fn (W : World) : (Instr.alloc 75 true (.tuple #[])).run Try.prog W = .ok (.pointer (some ⟨W.heap.size, 0, none⟩)) (W.alloc (.cells #[.nilFunc] 75 (0, 0))) := by
  kernel_rfl
theorem al_Ts (W : World) : (Instr.alloc 134 true (.tuple #[])).run Try.prog W = .ok (.pointer (some ⟨W.heap.size, 0, none⟩)) (W.alloc (.cells #[.slice none 0 0] 134 (0, 0))) := by
  kernel_rfl
theorem bs_Tc (c : Nat → N4) (W : World) : (Instr.buildSlice 134 1 #[(0, .agg ((List.range 16).flatMap fun i => pl4 (c i)).toArray)]).run Try.prog W = .ok (.slice (some ⟨W.heap.size, 0, none⟩) 1 1) (W.alloc (.cells ((List.range 16).flatMap fun i => pl4 (c i)).toArray 135 (0, 0))) := by
  kernel_rfl
theorem bs_Ts (a : N4) (W : World) : (Instr.buildSlice 134 1 #[(0, .agg (tabL a 16).toArray)]).run Try.prog W = .ok (.slice (some ⟨W.heap.size, 0, none⟩) 1 1) (W.alloc (.cells (tabL a 16).toArray 135 (0, 0))) := bs_Tc (tab a) W
theorem bin_add4 (a c : Nat) (hc : a + 4 = c) (h : a ≤ 1000) (x y : Operand) (W : World) : (do eqGuard .add 3 x y (.int .i64 (a : Int)) (.int .i64 4); binOp .add 3 (.int .i64 (a : Int)) (.int .i64 4) : Sem Value).run Try.prog W = .ok (.int .i64 (c : Int)) W := by
  have e : IntKind.i64.wrap ((a : Int) + 4) = (c : Int) := by rw [IntWalk.i64_in _ (by omega)]; omega
  clear hc
  go_simp
theorem bin_sub1 (c d : Nat) (hd : d + 1 = c) (h : c ≤ 10000) (x y : Operand) (W : World) : (do eqGuard .sub 3 x y (.int .i64 (c : Int)) (.int .i64 1); binOp .sub 3 (.int .i64 (c : Int)) (.int .i64 1) : Sem Value).run Try.prog W = .ok (.int .i64 (d : Int)) W := by
  have e : IntKind.i64.wrap ((c : Int) - 1) = (d : Int) := by rw [IntWalk.i64_in _ (by omega)]; omega
  clear hd
  go_simp
theorem bin_quo4 (d q : Nat) (hq : d / 4 = q) (h : d ≤ 10000) (x y : Operand) (W : World) : (do eqGuard .quo 3 x y (.int .i64 (d : Int)) (.int .i64 4); binOp .quo 3 (.int .i64 (d : Int)) (.int .i64 4) : Sem Value).run Try.prog W = .ok (.int .i64 (q : Int)) W := by
  have e : ((d : Int).tdiv 4) = (q : Int) := by rw [Int.tdiv_eq_ediv_of_nonneg (by omega)]; omega
  have e2 : IntKind.i64.wrap (q : Int) = (q : Int) := IntWalk.i64_in _ (by omega)
  have e3 : (d : Int) / 4 = (q : Int) := by omega
  clear hq
  go_simp
theorem run_max_of {P : Program} {o : Oper} {A : Act} {x y : Operand} {tys : Array TypeId} {a b c : Nat} (W : World) (ho : o.op = .call { callee := .builtin .max, args := #[x, y], argTypes := tys }) (hx : A.eval x = .int .i64 (a : Int)) (hy : A.eval y = .int .i64 (b : Int)) (hc : max a b = c) : (execOp A.eval o).run P W = .ok (.value (.int .i64 (c : Int))) W := by
  have e : (if (a : Int) < (b : Int) then (b : Int) else (a : Int)) = (c : Int) := by
    rw [← hc]
    split <;> omega
  unfold execOp
  simp [ho, resolve, invoke, builtin, hx, hy, Builtin.max_, Builtin.max2]
  rw [← hc]
  split <;> omega
theorem infoT' : (Try.prog.info? 135).map (fun i => (i.size, i.bytes, (i.zero.map fun z => z.cells.size))) = some (256, 2048, some 256) := by kernel_rfl
theorem infoT : ∃ (i : TypeInfo) (z : Value), Try.prog.info? 135 = some i ∧ i.zero = some z ∧ i.size = 256 ∧ i.bytes = 2048 ∧ z.cells.size = 256 := by
  have h := infoT'
  cases hi : Try.prog.info? 135 with
  | none => rw [hi] at h; cases h
  | some i =>
    rw [hi] at h
    cases hz : i.zero with
    | none => rw [Option.map_some, hz] at h; simp at h
    | some z =>
      rw [Option.map_some, hz] at h
      simp at h
      exact ⟨i, z, rfl, hz, h.1, h.2.1, h.2.2⟩
theorem ok4_ex1 {a o : N4} {p : Pt} (k s : Nat) (ha : Ok4 a p) (ho : ∃ P, Ok4 o P) : ∃ P, Ok4 (take1 k a o s) P := by
  obtain ⟨P, hP⟩ := ho
  exact ⟨_, ok4_add (ok4_dbl16 hP) (ok4_tab ha (k / 16 ^ s % 16))⟩
theorem ok4_ex2 {a b o : N4} {p q : Pt} (k l s : Nat) (ha : Ok4 a p) (hb : Ok4 b q) (ho : ∃ P, Ok4 o P) : ∃ P, Ok4 (take2 k l a b o s) P := by
  obtain ⟨P, hP⟩ := ho
  exact ⟨_, ok4_add (ok4_add (ok4_dbl16 hP) (ok4_tab ha (k / 16 ^ s % 16))) (ok4_tab hb (l / 16 ^ s % 16))⟩
theorem bitLen_B (k : Nat) (h : k < B64 ^ 4) : Go.bitLen k ≤ 256 := by
  by_cases h0 : k = 0
  · subst h0
    decide
  · have h1 := (bitLen_spec k).2 h0
    have h2 : 2 ^ (Go.bitLen k - 1) < 2 ^ 256 := Nat.lt_of_le_of_lt h1 (by rw [show (2 : Nat) ^ 256 = B64 ^ 4 by decide +kernel]; exact h)
    have h3 := (Nat.pow_lt_pow_iff_right (by decide : 1 < 2)).1 h2
    omega
theorem steps_B (k : Nat) (h : k < B64 ^ 4) : stepsN k ≤ 64 := by
  have := bitLen_B k h
  unfold stepsN
  omega
theorem bin_decz (s : Nat) (m : Int) (x y : Operand) (W : World) (h : m = (s : Int) - 1) (h1 : s ≤ 1000) : (do eqGuard .sub 3 x y (.int .i64 (s : Int)) (.int .i64 1); binOp .sub 3 (.int .i64 (s : Int)) (.int .i64 1) : Sem Value).run Try.prog W = .ok (.int .i64 m) W := by
  have e : IntKind.i64.wrap ((s : Int) - 1) = m := by rw [IntWalk.i64_in _ (by omega)]; exact h.symm
  clear h
  go_simp
theorem bin_geq_z (n : Int) (x y : Operand) (W : World) : (do eqGuard .geq 3 x y (.int .i64 n) (.int .i64 0); binOp .geq 3 (.int .i64 n) (.int .i64 0) : Sem Value).run Try.prog W = .ok (.bool (decide (0 ≤ n))) W := by
  go_simp
set_option maxRecDepth 20000 in
set_option maxHeartbeats 8000000 in
theorem msum1_any {a : N4} {p : Pt} (ha : Ok4 a p) (k : Nat) (hk : k < B64 ^ 4) (g : Nat) (w : World) (hg : w.heap[g]? = some (.cells (tmL k a).toArray 101 (0, 0))) : Calls Try.prog 64 #[.slice (some ⟨g, 0, none⟩) 1 1] w fun E w' => E = .returned (pv4 (runF (take1 k a) (stepsN k) zero4)) ∧ Below w.heap.size w w' := by
  have HMIX := Lib.hid (show Try.prog.follows .mixedOrders = true by kernel_rfl)
  obtain ⟨iT, zT, IT⟩ := infoT
  have KMa := Lib.hid (fun W => multiples_any ha W)
  have KBa := Lib.hid (fun W => bs_Ts a W)
  have hTAla : (tabL a 16).length = 1 * 256 := by rw [tabL_length]
  have hTAoa := one_tab a
  obtain ⟨TAa, eTAa⟩ : ∃ x, x = tabL a 16 := ⟨_, rfl⟩
  rw [← eTAa] at KMa KBa hTAla hTAoa
  have hsk64 := steps_B k hk
  have hblk := bitLen_B k hk
  have KLk := Lib.hid (fun W => len_any k W hk)
  unfold stepsN at *
  obtain ⟨blk, eblk⟩ : ∃ x, x = Go.bitLen k := ⟨_, rfl⟩
  rw [← eblk] at KLk hsk64 hblk ⊢
  have hlblk : blk ≤ 1000 := by omega
  obtain ⟨xfk, exfk⟩ : ∃ x, blk + 4 = x := ⟨_, rfl⟩
  obtain ⟨xtk, extk⟩ : ∃ x, x + 1 = xfk := ⟨blk + 3, by omega⟩
  rw [show blk + 3 = xtk by omega] at hsk64 ⊢
  obtain ⟨xqk, exqk⟩ : ∃ x, xtk / 4 = x := ⟨_, rfl⟩
  rw [exqk] at hsk64 ⊢
  have hxfk : xfk ≤ 10000 := by omega
  have hxtk : xtk ≤ 10000 := by omega
  obtain ⟨sk, esk⟩ : ∃ x, x = xqk := ⟨_, rfl⟩
  have hskm : max 0 xqk = sk := by omega
  have hsk64 : sk ≤ 64 := by omega
  have hsk1000 : sk ≤ 1000 := by omega
  rw [← esk]
  obtain ⟨R, hR⟩ : ∃ x, x = runF (take1 k a) sk zero4 := ⟨_, rfl⟩
  rw [← hR]
  go_enter Try.func64, Try.ntmps64
  have hM0 := Mem.start w
  (go_step; go_step; refine wp_region_lit ?_)
  refine wl_new hM0 (f := fun b => .pointer (some ⟨b, 0, none⟩)) (ob := .cells #[.slice (some ⟨g, 0, none⟩) 1 1] 133 (0, 0)) (fun W => run_box_of rfl rfl (bx_Sl _ g 1 rfl W)) rfl fun b1 W1 hM1 => ?_
  simp only [Act.put, List.setIfInBounds_toArray, List.set_cons_zero, List.set_cons_succ]
  refine wl_new hM1 (f := fun b => .pointer (some ⟨b, 0, none⟩)) (ob := .cells z16 30 (0, 0)) (fun W => run_alloc_of rfl (al_Pt W)) rfl fun b2 W2 hM2 => ?_
  simp only [Act.put, List.setIfInBounds_toArray, List.set_cons_zero, List.set_cons_succ]
  refine wpList_nil ?_
  (go_step; go_step; go_step; refine wp_region_lit ?_)
  refine wl_call hM2 (args := #[]) (v := numV dN) (fun W => run_call_fn W (enters_of Try.func41 rfl rfl) rfl (by simp [Act.eval])) (newadder_any W2) rfl fun W3 hM3 => ?_
  simp only [Act.put, List.setIfInBounds_toArray, List.set_cons_zero, List.set_cons_succ]
  refine wl_pure (v := .func (.func 42) #[numV dN] #[]) (fun W => run_makeFunc_of rfl (by simp [Instr.makeFunc, Act.eval])) rfl ?_
  simp only [Act.put, List.setIfInBounds_toArray, List.set_cons_zero, List.set_cons_succ]
  refine wl_new hM3 (f := fun b => .pointer (some ⟨b, 0, none⟩)) (ob := .cells #[.nilFunc] 75 (0, 0)) (fun W => run_alloc_of rfl (al_Fn W)) rfl fun b3 W4 hM4 => ?_
  simp only [Act.put, List.setIfInBounds_toArray, List.set_cons_zero, List.set_cons_succ]
  refine wl_setat hM4 0 (cs' := (#[.func (.func 42) #[numV dN] #[]])) rfl rfl rfl rfl (by show 0 < 1; decide) (rfl) cellFn rfl rfl rfl fun W5 hM5 => ?_
  simp only [List.set_cons_zero, List.set_cons_succ] at hM5
  refine wpList_nil ?_
  (go_step; go_step; go_step; refine wp_region_lit ?_)
  refine wl_pure (v := .int .i64 0) (fun _ => rfl) rfl ?_
  simp only [Act.put, List.setIfInBounds_toArray, List.set_cons_zero, List.set_cons_succ]
  refine wpList_nil ?_
  (go_step; go_step; go_step; refine wp_region_lit ?_)
  refine wl_new hM5 (f := fun b => .pointer (some ⟨b, 0, none⟩)) (ob := .cells #[.slice none 0 0] 134 (0, 0)) (fun W => run_alloc_of rfl (al_Ts W)) rfl fun b4 W6 hM6 => ?_
  simp only [Act.put, List.setIfInBounds_toArray, List.set_cons_zero, List.set_cons_succ]
  refine wpList_nil ?_
  (go_step; go_step; go_step; go_step; refine wp_region_lit ?_)
  refine wl_cell hM6 3 (v := .slice (some ⟨g, 0, none⟩) 1 1) rfl rfl rfl rfl cellSl rfl ?_
  simp only [Act.put, List.setIfInBounds_toArray, List.set_cons_zero, List.set_cons_succ]
  refine wl_pure (v := .int .i64 1) (fun W => by go_simp) rfl ?_
  simp only [Act.put, List.setIfInBounds_toArray, List.set_cons_zero, List.set_cons_succ]
  refine wl_pure (v := .int .i64 0) (fun _ => rfl) rfl ?_
  simp only [Act.put, List.setIfInBounds_toArray, List.set_cons_zero, List.set_cons_succ]
  refine wpList_nil ?_
  (go_step; go_step; go_step; refine wp_loop_rounds 2 ?_)
  rw [rounds_succ]
  (go_step; refine wp_region_lit ?_)
  refine wl_pure (v := .bool true) (fun W => by go_simp) rfl ?_
  simp only [Act.put, List.setIfInBounds_toArray, List.set_cons_zero, List.set_cons_succ]
  refine wpList_nil ?_
  (go_step; go_step; go_step; go_step; go_step; go_step; go_step; go_step; go_step; go_step; refine wp_region_lit ?_)
  refine wl_pure (v := .pointer (some ⟨g, 0, none⟩)) (fun W => by go_simp) rfl ?_
  simp only [Act.put, List.setIfInBounds_toArray, List.set_cons_zero, List.set_cons_succ]
  refine wl_far (hM6.old hg) (v := .agg (tmL k a).toArray) (sub := (tmL k a).toArray) rfl rfl rfl rfl rowTm rfl ?_
  simp only [Act.put, List.setIfInBounds_toArray, List.set_cons_zero, List.set_cons_succ]
  refine wl_new hM6 (f := fun b => .pointer (some ⟨b, 0, none⟩)) (ob := .cells z20 101 (0, 0)) (fun W => run_alloc_of rfl (al_Tm W)) rfl fun b5 W7 hM7 => ?_
  simp only [Act.put, List.setIfInBounds_toArray, List.set_cons_zero, List.set_cons_succ]
  refine wl_set hM7 0 (cs := ((tmL k a).toArray)) rfl rfl rfl rfl rowTm rfl (one_tm k a) rfl rfl fun W8 hM8 => ?_
  simp only [List.set_cons_zero, List.set_cons_succ] at hM8
  refine wpList_nil ?_
  (go_step; go_step; go_step; refine wp_region_inw 6 HMIX.out (by decide) (by kernel_rfl) (by kernel_rfl) ?_)
  refine inw_cell hM8 1 (v := .slice none 0 0) rfl rfl rfl rfl cellTs rfl rfl ?_; simp only [Act.put, List.setIfInBounds_toArray, List.set_cons_zero, List.set_cons_succ]
  refine inw_pure (v := .pointer (some ⟨b5, 4, none⟩)) (fun W => run_field_of rfl rfl (fa_Tm1 b5 W)) rfl rfl ?_; simp only [Act.put, List.setIfInBounds_toArray, List.set_cons_zero, List.set_cons_succ]
  refine inw_part hM8 0 (v := pv4 a) (sub := ((pc4 a))) rfl rfl rfl rfl rfl rowPt rfl rfl ?_; simp only [Act.put, List.setIfInBounds_toArray, List.set_cons_zero, List.set_cons_succ]
  refine inw_cell hM8 2 (v := .func (.func 42) #[numV dN] #[]) rfl rfl rfl rfl cellFn rfl rfl ?_; simp only [Act.put, List.setIfInBounds_toArray, List.set_cons_zero, List.set_cons_succ]
  refine inw_callV (args := #[pv4 a, .func (.func 42) #[numV dN] #[]]) (v := .agg TAa.toArray) (fun W => run_call_fn W (enters_of Try.func98 rfl rfl) rfl (by simp [Act.eval])) (fun W _ => KMa.out W) rfl rfl ?_; simp only [Act.put, List.setIfInBounds_toArray, List.set_cons_zero, List.set_cons_succ]
  refine inw_slice (n := 1) (L := (TAa).toArray) (T := 135) (fun W => run_slice_of rfl (by simp [Act.eval]) (KBa.out W)) rfl rfl ?_; simp only [List.nil_append, List.cons_append]
  refine inw_fin fun d os => ?_
  refine given_mkH (t := 24) rfl fun s5 hs5 => ?_
  refine given_nil fun hap => ?_
  simp only [Act.put, List.setIfInBounds_toArray, List.set_cons_zero, List.set_cons_succ] at hap ⊢
  have hM9 := hM8.calls (below_regrown W8 d os)
  clear hap 
  generalize grow (redrawn W8 d) os = W9 at hM9 hs5 ⊢
  change wpAny _ _ _ _ 2 _ _ _
  refine any_app_nil (n := 6) (by kernel_rfl) rfl hM9 rfl rfl rfl Try.underlying134 IT.1 IT.2.1 IT.2.2.1 IT.2.2.2.1 IT.2.2.2.2 (by decide) rfl rfl (news := TAa) hs5 (by decide) hTAla hTAoa (by decide) (by decide) fun ga1 ca1 ra1 W10 ok1 hM10 => ?_
  simp only [Act.put, List.setIfInBounds_toArray, List.set_cons_zero, List.set_cons_succ]
  refine any_setat (n := 7) (by kernel_rfl) rfl hM10 2 (cs' := #[.slice (some ⟨ga1, 0, none⟩) 1 ca1]) rfl rfl rfl rfl (by show 0 < 1; decide) (rfl) cellTs rfl rfl rfl fun W11 hM11 => ?_
  simp only [List.set_cons_zero, List.set_cons_succ] at hM11
  refine wpAny_done (by kernel_rfl) ?_ _
  (go_step; go_step; refine wp_region_lit ?_)
  refine wl_pure (v := .int .i64 0) (fun _ => rfl) rfl ?_
  simp only [Act.put, List.setIfInBounds_toArray, List.set_cons_zero, List.set_cons_succ]
  refine wl_pure (v := .pointer (some ⟨b5, 0, none⟩)) (fun W => run_field_of rfl rfl (fa_Tm0 b5 W)) rfl ?_
  simp only [Act.put, List.setIfInBounds_toArray, List.set_cons_zero, List.set_cons_succ]
  refine wl_part hM11 1 (v := numV k) (sub := (elR k)) rfl rfl rfl rfl rfl rowWn rfl ?_
  simp only [Act.put, List.setIfInBounds_toArray, List.set_cons_zero, List.set_cons_succ]
  refine wl_call hM11 (args := #[numV k]) (v := .int .i64 (blk : Int)) (fun W => run_call_fn W (enters_of Try.func99 rfl rfl) rfl (by simp [Act.eval])) (KLk.out W11) rfl fun W12 hM12 => ?_
  simp only [Act.put, List.setIfInBounds_toArray, List.set_cons_zero, List.set_cons_succ]
  refine wl_pure (v := .int .i64 (xfk : Int)) (fun W => run_bin_of rfl rfl rfl (bin_add4 blk xfk exfk hlblk _ _ W)) rfl ?_
  simp only [Act.put, List.setIfInBounds_toArray, List.set_cons_zero, List.set_cons_succ]
  refine wl_pure (v := .int .i64 (xtk : Int)) (fun W => run_bin_of rfl rfl rfl (bin_sub1 xfk xtk extk hxfk _ _ W)) rfl ?_
  simp only [Act.put, List.setIfInBounds_toArray, List.set_cons_zero, List.set_cons_succ]
  refine wl_pure (v := .int .i64 (xqk : Int)) (fun W => run_bin_of rfl rfl rfl (bin_quo4 xtk xqk exqk hxtk _ _ W)) rfl ?_
  simp only [Act.put, List.setIfInBounds_toArray, List.set_cons_zero, List.set_cons_succ]
  refine wl_pure (v := .int .i64 (sk : Int)) (fun W => run_max_of (a := 0) (b := xqk) (c := sk) W rfl rfl rfl hskm) rfl ?_
  simp only [Act.put, List.setIfInBounds_toArray, List.set_cons_zero, List.set_cons_succ]
  refine wl_pure (v := .int .i64 (sk : Int)) (fun _ => rfl) rfl ?_
  simp only [Act.put, List.setIfInBounds_toArray, List.set_cons_zero, List.set_cons_succ]
  refine wpList_nil ?_
  (go_step; go_step; refine wp_region_lit ?_)
  refine wl_pure (v := .int .i64 1) (fun W => by go_simp; decide) rfl ?_
  simp only [Act.put, List.setIfInBounds_toArray, List.set_cons_zero, List.set_cons_succ]
  refine wl_pure (v := .int .i64 1) (fun _ => rfl) rfl ?_
  simp only [Act.put, List.setIfInBounds_toArray, List.set_cons_zero, List.set_cons_succ]
  refine wpList_nil ?_
  have hT0 := hM12.swap.tail
  go_step
  rw [rounds_succ]
  (go_step; refine wp_region_lit ?_)
  refine wl_pure (v := .bool false) (fun W => by go_simp) rfl ?_
  simp only [Act.put, List.setIfInBounds_toArray, List.set_cons_zero, List.set_cons_succ]
  refine wpList_nil ?_
  obtain ⟨st, est⟩ : ∃ x, x = sk := ⟨_, rfl⟩
  rw [← est]
  have hst64 : st ≤ 64 := by rw [est]; exact hsk64
  have hst : st ≤ 1000 := by rw [est]; exact hsk1000
  clear IT
  obtain ⟨n0, en0⟩ : ∃ x : Int, x = (st : Int) - 1 := ⟨_, rfl⟩
  rw [eTAa] at hT0
  (go_step; go_step; go_step; go_step; go_step; go_step; go_step; go_step; refine wp_region_lit ?_)
  refine wl_call hT0 (args := #[]) (v := pv4 zero4) (fun W => run_call_fn W (enters_of Try.func40 rfl rfl) rfl (by simp [Act.eval])) (zero4_any W12) rfl fun W13 hM13 => ?_
  simp only [Act.put, List.setIfInBounds_toArray, List.set_cons_zero, List.set_cons_succ]
  refine wl_new hM13 (f := fun b => .pointer (some ⟨b, 0, none⟩)) (ob := .cells z16 30 (0, 0)) (fun W => run_alloc_of rfl (al_Pt W)) rfl fun b6 W14 hM14 => ?_
  simp only [Act.put, List.setIfInBounds_toArray, List.set_cons_zero, List.set_cons_succ]
  refine wl_set hM14 0 (cs := ((pc4 zero4))) rfl rfl rfl rfl rowPt rfl (one_p4 _) rfl rfl fun W15 hM15 => ?_
  simp only [List.set_cons_zero, List.set_cons_succ] at hM15
  refine wpList_nil ?_
  (go_step; go_step; go_step; refine wp_region_lit ?_)
  refine wl_pure (v := .func (.func 100) #[] #[.pointer (some ⟨b6, 0, none⟩), .pointer (some ⟨b1, 0, none⟩), .pointer (some ⟨b3, 0, none⟩), .pointer (some ⟨b4, 0, none⟩)]) (fun W => run_makeFunc_of rfl (by simp [Instr.makeFunc, Act.eval])) rfl ?_
  simp only [Act.put, List.setIfInBounds_toArray, List.set_cons_zero, List.set_cons_succ]
  refine wl_pure (v := .func (.func 100) #[] #[.pointer (some ⟨b6, 0, none⟩), .pointer (some ⟨b1, 0, none⟩), .pointer (some ⟨b3, 0, none⟩), .pointer (some ⟨b4, 0, none⟩)]) (fun _ => rfl) rfl ?_
  simp only [Act.put, List.setIfInBounds_toArray, List.set_cons_zero, List.set_cons_succ]
  refine wpList_nil ?_
  (go_step; go_step; go_step; go_step; refine wp_region_lit ?_)
  refine wl_pure (v := .int .i64 (st : Int)) (fun _ => rfl) rfl ?_
  simp only [Act.put, List.setIfInBounds_toArray, List.set_cons_zero, List.set_cons_succ]
  refine wl_pure (v := .int .i64 n0) (fun W => run_bin_of rfl rfl rfl (bin_decz st n0 _ _ W en0 hst)) rfl ?_
  simp only [Act.put, List.setIfInBounds_toArray, List.set_cons_zero, List.set_cons_succ]
  refine wl_pure (v := .int .i64 n0) (fun _ => rfl) rfl ?_
  simp only [Act.put, List.setIfInBounds_toArray, List.set_cons_zero, List.set_cons_succ]
  refine wpList_nil ?_
  (go_step; go_step; go_step; go_loopw [10] (fun i wr => ∃ (m : Nat) (o : N4), m ≤ st ∧ i = .int .i64 ((m : Int) - 1) ∧ (∃ P, Ok4 o P) ∧ runF (take1 k a) m o = R ∧ Mem w [(b6, .cells (pc4 o) 30 (0, 0)), (ga1, .cells ((tabL a 16 ++ ra1).toArray) 135 (0, 0)), (b4, .cells #[.slice (some ⟨ga1, 0, none⟩) 1 ca1] 134 (0, 0)), (b3, .cells (#[Value.func (.func 42) #[numV dN] #[]]) 75 (0, 0)), (b2, .cells z16 30 (0, 0)), (b1, .cells #[.slice (some ⟨g, 0, none⟩) 1 1] 133 (0, 0))] wr) (fun i _ => (Go.RowKit.intOf i + 1).toNat))
  case atStart => exact ⟨st, zero4, Nat.le_refl _, by rw [en0], ⟨_, ok4_zero⟩, by rw [hR, est], hM15⟩
  case round =>
    obtain ⟨m, o, hm, rfl, hOk, hrun, hQ⟩ := hrel
    clear hM1 hM2 hM3 hM4 hM5 hM6 hM7 hM8 hM9 hM10 hM11 hM12 hM13 hM14 hM15
    obtain ⟨n, hn⟩ : ∃ n : Int, n = (m : Int) - 1 := ⟨_, rfl⟩
    rw [← hn]
    obtain ⟨Po, ho⟩ := hOk
    (go_step; go_step; go_step; refine wp_region_lit ?_)
    refine wl_pure (v := .int .i64 n) (fun _ => rfl) rfl ?_
    simp only [Act.put, List.setIfInBounds_toArray, List.set_cons_zero, List.set_cons_succ]
    obtain ⟨c1, hc1⟩ : ∃ x, x = decide (0 ≤ n) := ⟨_, rfl⟩
    refine wl_pure (v := .bool c1) (fun W => run_bin_of rfl rfl rfl (by rw [hc1]; exact bin_geq_z n _ _ W)) rfl ?_
    simp only [Act.put, List.setIfInBounds_toArray, List.set_cons_zero, List.set_cons_succ]
    refine wpList_nil ?_
    cases c1
    · skip
      have hm0 : m = 0 := by
        have h9 := of_decide_eq_false hc1.symm
        omega
      subst hm0
      rw [runF_zero] at hrun
      subst hrun
      (go_step; go_step; go_step; go_step; go_step; go_step; go_step; go_step; go_step; refine wp_region_lit ?_)
      refine wl_row hQ 0 (v := pv4 o) rfl rfl rfl rfl rowPt rfl ?_
      simp only [Act.put, List.setIfInBounds_toArray, List.set_cons_zero, List.set_cons_succ]
      refine wl_set hQ 4 (cs := ((pc4 o))) rfl rfl rfl rfl rowPt rfl (one_p4 _) rfl rfl fun W17 hM17 => ?_
      simp only [List.set_cons_zero, List.set_cons_succ] at hM17
      refine wpList_nil ?_
      (go_step; go_step; go_step; refine bodyPost_ret (v := pv4 o) (results_arr Try.results64 rfl (hM17.load 4 rfl rowPt)) rfl ⟨?_, hM17.below⟩)
      exact rfl
    · skip
      have h9 := of_decide_eq_true hc1.symm
      obtain ⟨s, hsm⟩ : ∃ s, m = s + 1 := ⟨m - 1, by omega⟩
      have hns : n = (s : Int) := by omega
      obtain ⟨n2, en2⟩ : ∃ x : Int, x = (s : Int) - 1 := ⟨_, rfl⟩
      (go_step; go_step; go_step; go_step; go_step; go_step; go_step; go_step; refine wp_region_lit ?_)
      refine wl_pure (v := .func (.func 100) #[] #[.pointer (some ⟨b6, 0, none⟩), .pointer (some ⟨b1, 0, none⟩), .pointer (some ⟨b3, 0, none⟩), .pointer (some ⟨b4, 0, none⟩)]) (fun _ => rfl) rfl ?_
      simp only [Act.put, List.setIfInBounds_toArray, List.set_cons_zero, List.set_cons_succ]
      refine wl_pure (v := .int .i64 n) (fun _ => rfl) rfl ?_
      simp only [Act.put, List.setIfInBounds_toArray, List.set_cons_zero, List.set_cons_succ]
      refine wl_callM  (args := #[.int .i64 n, .pointer (some ⟨b6, 0, none⟩), .pointer (some ⟨b1, 0, none⟩), .pointer (some ⟨b3, 0, none⟩), .pointer (some ⟨b4, 0, none⟩)]) (v := .tuple #[]) (fun W => run_call_dyn W (enters_of Try.func100 rfl rfl) rfl rfl (by simp [Act.eval]; rfl) rfl) (by rw [hns]; exact take1_any w wr g b6 ga1 b4 b3 b2 b1 ca1 s ra1 ha k ho (by omega) hg hQ) rfl fun W17 hM17 => ?_
      simp only [Act.put, List.setIfInBounds_toArray, List.set_cons_zero, List.set_cons_succ]
      refine wpList_nil ?_
      (go_step; go_step; refine wp_region_lit ?_)
      refine wl_pure (v := .int .i64 n) (fun _ => rfl) rfl ?_
      simp only [Act.put, List.setIfInBounds_toArray, List.set_cons_zero, List.set_cons_succ]
      refine wl_pure (v := .int .i64 n2) (fun W => by rw [hns]; exact run_bin_of rfl rfl (by rw [← hns]; rfl) (bin_decz s n2 _ _ W en2 (by omega))) rfl ?_
      simp only [Act.put, List.setIfInBounds_toArray, List.set_cons_zero, List.set_cons_succ]
      refine wl_pure (v := .int .i64 n2) (fun _ => rfl) rfl ?_
      simp only [Act.put, List.setIfInBounds_toArray, List.set_cons_zero, List.set_cons_succ]
      refine wpList_nil ?_
      go_roundw
      case rel =>
        refine ⟨_, _, _, _, _, _, _, _, ?_, rfl⟩
        refine ⟨s, take1 k a o s, by omega, by rw [en2], ok4_ex1 k s ha ⟨_, ho⟩, by rw [← hrun, hsm, runF_succ], ?_⟩
        exact hM17
      case measure => simp [Go.RowKit.intOf]; omega
set_option maxRecDepth 20000 in
set_option maxHeartbeats 8000000 in
theorem msum2_any {a b : N4} {p q : Pt} (ha : Ok4 a p) (hb : Ok4 b q) (k l : Nat) (hk : k < B64 ^ 4) (hl : l < B64 ^ 4) (g : Nat) (w : World) (hg : w.heap[g]? = some (.cells (tmL k a ++ tmL l b).toArray 101 (0, 0))) : Calls Try.prog 64 #[.slice (some ⟨g, 0, none⟩) 2 2] w fun E w' => E = .returned (pv4 (runF (take2 k l a b) (max (stepsN k) (stepsN l)) zero4)) ∧ Below w.heap.size w w' := by
  have HMIX := Lib.hid (show Try.prog.follows .mixedOrders = true by kernel_rfl)
  obtain ⟨iT, zT, IT⟩ := infoT
  have KMa := Lib.hid (fun W => multiples_any ha W)
  have KBa := Lib.hid (fun W => bs_Ts a W)
  have hTAla : (tabL a 16).length = 1 * 256 := by rw [tabL_length]
  have hTAoa := one_tab a
  obtain ⟨TAa, eTAa⟩ : ∃ x, x = tabL a 16 := ⟨_, rfl⟩
  rw [← eTAa] at KMa KBa hTAla hTAoa
  have KMb := Lib.hid (fun W => multiples_any hb W)
  have KBb := Lib.hid (fun W => bs_Ts b W)
  have hTAlb : (tabL b 16).length = 1 * 256 := by rw [tabL_length]
  have hTAob := one_tab b
  obtain ⟨TAb, eTAb⟩ : ∃ x, x = tabL b 16 := ⟨_, rfl⟩
  rw [← eTAb] at KMb KBb hTAlb hTAob
  have hsk64 := steps_B k hk
  have hblk := bitLen_B k hk
  have KLk := Lib.hid (fun W => len_any k W hk)
  have hsl64 := steps_B l hl
  have hbll := bitLen_B l hl
  have KLl := Lib.hid (fun W => len_any l W hl)
  unfold stepsN at *
  obtain ⟨blk, eblk⟩ : ∃ x, x = Go.bitLen k := ⟨_, rfl⟩
  rw [← eblk] at KLk hsk64 hblk ⊢
  have hlblk : blk ≤ 1000 := by omega
  obtain ⟨bll, ebll⟩ : ∃ x, x = Go.bitLen l := ⟨_, rfl⟩
  rw [← ebll] at KLl hsl64 hbll ⊢
  have hlbll : bll ≤ 1000 := by omega
  obtain ⟨xfk, exfk⟩ : ∃ x, blk + 4 = x := ⟨_, rfl⟩
  obtain ⟨xtk, extk⟩ : ∃ x, x + 1 = xfk := ⟨blk + 3, by omega⟩
  rw [show blk + 3 = xtk by omega] at hsk64 ⊢
  obtain ⟨xqk, exqk⟩ : ∃ x, xtk / 4 = x := ⟨_, rfl⟩
  rw [exqk] at hsk64 ⊢
  have hxfk : xfk ≤ 10000 := by omega
  have hxtk : xtk ≤ 10000 := by omega
  obtain ⟨xfl, exfl⟩ : ∃ x, bll + 4 = x := ⟨_, rfl⟩
  obtain ⟨xtl, extl⟩ : ∃ x, x + 1 = xfl := ⟨bll + 3, by omega⟩
  rw [show bll + 3 = xtl by omega] at hsl64 ⊢
  obtain ⟨xql, exql⟩ : ∃ x, xtl / 4 = x := ⟨_, rfl⟩
  rw [exql] at hsl64 ⊢
  have hxfl : xfl ≤ 10000 := by omega
  have hxtl : xtl ≤ 10000 := by omega
  obtain ⟨sk, esk⟩ : ∃ x, x = xqk := ⟨_, rfl⟩
  have hskm : max 0 xqk = sk := by omega
  have hsk64 : sk ≤ 64 := by omega
  have hsk1000 : sk ≤ 1000 := by omega
  rw [← esk]
  obtain ⟨st, est⟩ : ∃ x, x = max sk xql := ⟨_, rfl⟩
  have hstm : max sk xql = st := est.symm
  have hst64 : st ≤ 64 := by omega
  have hst1000 : st ≤ 1000 := by omega
  rw [← est]
  obtain ⟨R, hR⟩ : ∃ x, x = runF (take2 k l a b) st zero4 := ⟨_, rfl⟩
  rw [← hR]
  go_enter Try.func64, Try.ntmps64
  have hM0 := Mem.start w
  (go_step; go_step; refine wp_region_lit ?_)
  refine wl_new hM0 (f := fun b => .pointer (some ⟨b, 0, none⟩)) (ob := .cells #[.slice (some ⟨g, 0, none⟩) 2 2] 133 (0, 0)) (fun W => run_box_of rfl rfl (bx_Sl _ g 2 rfl W)) rfl fun b1 W1 hM1 => ?_
  simp only [Act.put, List.setIfInBounds_toArray, List.set_cons_zero, List.set_cons_succ]
  refine wl_new hM1 (f := fun b => .pointer (some ⟨b, 0, none⟩)) (ob := .cells z16 30 (0, 0)) (fun W => run_alloc_of rfl (al_Pt W)) rfl fun b2 W2 hM2 => ?_
  simp only [Act.put, List.setIfInBounds_toArray, List.set_cons_zero, List.set_cons_succ]
  refine wpList_nil ?_
  (go_step; go_step; go_step; refine wp_region_lit ?_)
  refine wl_call hM2 (args := #[]) (v := numV dN) (fun W => run_call_fn W (enters_of Try.func41 rfl rfl) rfl (by simp [Act.eval])) (newadder_any W2) rfl fun W3 hM3 => ?_
  simp only [Act.put, List.setIfInBounds_toArray, List.set_cons_zero, List.set_cons_succ]
  refine wl_pure (v := .func (.func 42) #[numV dN] #[]) (fun W => run_makeFunc_of rfl (by simp [Instr.makeFunc, Act.eval])) rfl ?_
  simp only [Act.put, List.setIfInBounds_toArray, List.set_cons_zero, List.set_cons_succ]
  refine wl_new hM3 (f := fun b => .pointer (some ⟨b, 0, none⟩)) (ob := .cells #[.nilFunc] 75 (0, 0)) (fun W => run_alloc_of rfl (al_Fn W)) rfl fun b3 W4 hM4 => ?_
  simp only [Act.put, List.setIfInBounds_toArray, List.set_cons_zero, List.set_cons_succ]
  refine wl_setat hM4 0 (cs' := (#[.func (.func 42) #[numV dN] #[]])) rfl rfl rfl rfl (by show 0 < 1; decide) (rfl) cellFn rfl rfl rfl fun W5 hM5 => ?_
  simp only [List.set_cons_zero, List.set_cons_succ] at hM5
  refine wpList_nil ?_
  (go_step; go_step; go_step; refine wp_region_lit ?_)
  refine wl_pure (v := .int .i64 0) (fun _ => rfl) rfl ?_
  simp only [Act.put, List.setIfInBounds_toArray, List.set_cons_zero, List.set_cons_succ]
  refine wpList_nil ?_
  (go_step; go_step; go_step; refine wp_region_lit ?_)
  refine wl_new hM5 (f := fun b => .pointer (some ⟨b, 0, none⟩)) (ob := .cells #[.slice none 0 0] 134 (0, 0)) (fun W => run_alloc_of rfl (al_Ts W)) rfl fun b4 W6 hM6 => ?_
  simp only [Act.put, List.setIfInBounds_toArray, List.set_cons_zero, List.set_cons_succ]
  refine wpList_nil ?_
  (go_step; go_step; go_step; go_step; refine wp_region_lit ?_)
  refine wl_cell hM6 3 (v := .slice (some ⟨g, 0, none⟩) 2 2) rfl rfl rfl rfl cellSl rfl ?_
  simp only [Act.put, List.setIfInBounds_toArray, List.set_cons_zero, List.set_cons_succ]
  refine wl_pure (v := .int .i64 2) (fun W => by go_simp) rfl ?_
  simp only [Act.put, List.setIfInBounds_toArray, List.set_cons_zero, List.set_cons_succ]
  refine wl_pure (v := .int .i64 0) (fun _ => rfl) rfl ?_
  simp only [Act.put, List.setIfInBounds_toArray, List.set_cons_zero, List.set_cons_succ]
  refine wpList_nil ?_
  (go_step; go_step; go_step; refine wp_loop_rounds 3 ?_)
  rw [rounds_succ]
  (go_step; refine wp_region_lit ?_)
  refine wl_pure (v := .bool true) (fun W => by go_simp) rfl ?_
  simp only [Act.put, List.setIfInBounds_toArray, List.set_cons_zero, List.set_cons_succ]
  refine wpList_nil ?_
  (go_step; go_step; go_step; go_step; go_step; go_step; go_step; go_step; go_step; go_step; refine wp_region_lit ?_)
  refine wl_pure (v := .pointer (some ⟨g, 0, none⟩)) (fun W => by go_simp) rfl ?_
  simp only [Act.put, List.setIfInBounds_toArray, List.set_cons_zero, List.set_cons_succ]
  refine wl_far (hM6.old hg) (v := .agg (tmL k a).toArray) (sub := (tmL k a).toArray) rfl rfl rfl rfl rowTm rfl ?_
  simp only [Act.put, List.setIfInBounds_toArray, List.set_cons_zero, List.set_cons_succ]
  refine wl_new hM6 (f := fun b => .pointer (some ⟨b, 0, none⟩)) (ob := .cells z20 101 (0, 0)) (fun W => run_alloc_of rfl (al_Tm W)) rfl fun b5 W7 hM7 => ?_
  simp only [Act.put, List.setIfInBounds_toArray, List.set_cons_zero, List.set_cons_succ]
  refine wl_set hM7 0 (cs := ((tmL k a).toArray)) rfl rfl rfl rfl rowTm rfl (one_tm k a) rfl rfl fun W8 hM8 => ?_
  simp only [List.set_cons_zero, List.set_cons_succ] at hM8
  refine wpList_nil ?_
  (go_step; go_step; go_step; refine wp_region_inw 6 HMIX.out (by decide) (by kernel_rfl) (by kernel_rfl) ?_)
  refine inw_cell hM8 1 (v := .slice none 0 0) rfl rfl rfl rfl cellTs rfl rfl ?_; simp only [Act.put, List.setIfInBounds_toArray, List.set_cons_zero, List.set_cons_succ]
  refine inw_pure (v := .pointer (some ⟨b5, 4, none⟩)) (fun W => run_field_of rfl rfl (fa_Tm1 b5 W)) rfl rfl ?_; simp only [Act.put, List.setIfInBounds_toArray, List.set_cons_zero, List.set_cons_succ]
  refine inw_part hM8 0 (v := pv4 a) (sub := ((pc4 a))) rfl rfl rfl rfl rfl rowPt rfl rfl ?_; simp only [Act.put, List.setIfInBounds_toArray, List.set_cons_zero, List.set_cons_succ]
  refine inw_cell hM8 2 (v := .func (.func 42) #[numV dN] #[]) rfl rfl rfl rfl cellFn rfl rfl ?_; simp only [Act.put, List.setIfInBounds_toArray, List.set_cons_zero, List.set_cons_succ]
  refine inw_callV (args := #[pv4 a, .func (.func 42) #[numV dN] #[]]) (v := .agg TAa.toArray) (fun W => run_call_fn W (enters_of Try.func98 rfl rfl) rfl (by simp [Act.eval])) (fun W _ => KMa.out W) rfl rfl ?_; simp only [Act.put, List.setIfInBounds_toArray, List.set_cons_zero, List.set_cons_succ]
  refine inw_slice (n := 1) (L := (TAa).toArray) (T := 135) (fun W => run_slice_of rfl (by simp [Act.eval]) (KBa.out W)) rfl rfl ?_; simp only [List.nil_append, List.cons_append]
  refine inw_fin fun d os => ?_
  refine given_mkH (t := 24) rfl fun s5 hs5 => ?_
  refine given_nil fun hap => ?_
  simp only [Act.put, List.setIfInBounds_toArray, List.set_cons_zero, List.set_cons_succ] at hap ⊢
  have hM9 := hM8.calls (below_regrown W8 d os)
  clear hap 
  generalize grow (redrawn W8 d) os = W9 at hM9 hs5 ⊢
  change wpAny _ _ _ _ 2 _ _ _
  refine any_app_nil (n := 6) (by kernel_rfl) rfl hM9 rfl rfl rfl Try.underlying134 IT.1 IT.2.1 IT.2.2.1 IT.2.2.2.1 IT.2.2.2.2 (by decide) rfl rfl (news := TAa) hs5 (by decide) hTAla hTAoa (by decide) (by decide) fun ga1 ca1 ra1 W10 ok1 hM10 => ?_
  simp only [Act.put, List.setIfInBounds_toArray, List.set_cons_zero, List.set_cons_succ]
  refine any_setat (n := 7) (by kernel_rfl) rfl hM10 2 (cs' := #[.slice (some ⟨ga1, 0, none⟩) 1 ca1]) rfl rfl rfl rfl (by show 0 < 1; decide) (rfl) cellTs rfl rfl rfl fun W11 hM11 => ?_
  simp only [List.set_cons_zero, List.set_cons_succ] at hM11
  refine wpAny_done (by kernel_rfl) ?_ _
  (go_step; go_step; refine wp_region_lit ?_)
  refine wl_pure (v := .int .i64 0) (fun _ => rfl) rfl ?_
  simp only [Act.put, List.setIfInBounds_toArray, List.set_cons_zero, List.set_cons_succ]
  refine wl_pure (v := .pointer (some ⟨b5, 0, none⟩)) (fun W => run_field_of rfl rfl (fa_Tm0 b5 W)) rfl ?_
  simp only [Act.put, List.setIfInBounds_toArray, List.set_cons_zero, List.set_cons_succ]
  refine wl_part hM11 1 (v := numV k) (sub := (elR k)) rfl rfl rfl rfl rfl rowWn rfl ?_
  simp only [Act.put, List.setIfInBounds_toArray, List.set_cons_zero, List.set_cons_succ]
  refine wl_call hM11 (args := #[numV k]) (v := .int .i64 (blk : Int)) (fun W => run_call_fn W (enters_of Try.func99 rfl rfl) rfl (by simp [Act.eval])) (KLk.out W11) rfl fun W12 hM12 => ?_
  simp only [Act.put, List.setIfInBounds_toArray, List.set_cons_zero, List.set_cons_succ]
  refine wl_pure (v := .int .i64 (xfk : Int)) (fun W => run_bin_of rfl rfl rfl (bin_add4 blk xfk exfk hlblk _ _ W)) rfl ?_
  simp only [Act.put, List.setIfInBounds_toArray, List.set_cons_zero, List.set_cons_succ]
  refine wl_pure (v := .int .i64 (xtk : Int)) (fun W => run_bin_of rfl rfl rfl (bin_sub1 xfk xtk extk hxfk _ _ W)) rfl ?_
  simp only [Act.put, List.setIfInBounds_toArray, List.set_cons_zero, List.set_cons_succ]
  refine wl_pure (v := .int .i64 (xqk : Int)) (fun W => run_bin_of rfl rfl rfl (bin_quo4 xtk xqk exqk hxtk _ _ W)) rfl ?_
  simp only [Act.put, List.setIfInBounds_toArray, List.set_cons_zero, List.set_cons_succ]
  refine wl_pure (v := .int .i64 (sk : Int)) (fun W => run_max_of (a := 0) (b := xqk) (c := sk) W rfl rfl rfl hskm) rfl ?_
  simp only [Act.put, List.setIfInBounds_toArray, List.set_cons_zero, List.set_cons_succ]
  refine wl_pure (v := .int .i64 (sk : Int)) (fun _ => rfl) rfl ?_
  simp only [Act.put, List.setIfInBounds_toArray, List.set_cons_zero, List.set_cons_succ]
  refine wpList_nil ?_
  (go_step; go_step; refine wp_region_lit ?_)
  refine wl_pure (v := .int .i64 1) (fun W => by go_simp; decide) rfl ?_
  simp only [Act.put, List.setIfInBounds_toArray, List.set_cons_zero, List.set_cons_succ]
  refine wl_pure (v := .int .i64 1) (fun _ => rfl) rfl ?_
  simp only [Act.put, List.setIfInBounds_toArray, List.set_cons_zero, List.set_cons_succ]
  refine wpList_nil ?_
  have hT0 := hM12.swap.tail
  go_step
  rw [rounds_succ]
  (go_step; refine wp_region_lit ?_)
  refine wl_pure (v := .bool true) (fun W => by go_simp) rfl ?_
  simp only [Act.put, List.setIfInBounds_toArray, List.set_cons_zero, List.set_cons_succ]
  refine wpList_nil ?_
  (go_step; go_step; go_step; go_step; go_step; go_step; go_step; go_step; go_step; go_step; refine wp_region_lit ?_)
  refine wl_pure (v := .pointer (some ⟨g, 20, none⟩)) (fun W => by go_simp) rfl ?_
  simp only [Act.put, List.setIfInBounds_toArray, List.set_cons_zero, List.set_cons_succ]
  refine wl_far (hT0.old hg) (v := .agg (tmL l b).toArray) (sub := (tmL l b).toArray) rfl rfl rfl rfl rowTm rfl ?_
  simp only [Act.put, List.setIfInBounds_toArray, List.set_cons_zero, List.set_cons_succ]
  refine wl_new hT0 (f := fun b => .pointer (some ⟨b, 0, none⟩)) (ob := .cells z20 101 (0, 0)) (fun W => run_alloc_of rfl (al_Tm W)) rfl fun b6 W13 hM13 => ?_
  simp only [Act.put, List.setIfInBounds_toArray, List.set_cons_zero, List.set_cons_succ]
  refine wl_set hM13 0 (cs := ((tmL l b).toArray)) rfl rfl rfl rfl rowTm rfl (one_tm l b) rfl rfl fun W14 hM14 => ?_
  simp only [List.set_cons_zero, List.set_cons_succ] at hM14
  refine wpList_nil ?_
  have hS1 := hM14.swap
  (go_step; go_step; go_step; refine wp_region_inw 6 HMIX.out (by decide) (by kernel_rfl) (by kernel_rfl) ?_)
  refine inw_cell hS1 2 (v := .slice (some ⟨ga1, 0, none⟩) 1 ca1) rfl rfl rfl rfl cellTs rfl rfl ?_; simp only [Act.put, List.setIfInBounds_toArray, List.set_cons_zero, List.set_cons_succ]
  refine inw_pure (v := .pointer (some ⟨b6, 4, none⟩)) (fun W => run_field_of rfl rfl (fa_Tm1 b6 W)) rfl rfl ?_; simp only [Act.put, List.setIfInBounds_toArray, List.set_cons_zero, List.set_cons_succ]
  refine inw_part hS1 1 (v := pv4 b) (sub := ((pc4 b))) rfl rfl rfl rfl rfl rowPt rfl rfl ?_; simp only [Act.put, List.setIfInBounds_toArray, List.set_cons_zero, List.set_cons_succ]
  refine inw_cell hS1 3 (v := .func (.func 42) #[numV dN] #[]) rfl rfl rfl rfl cellFn rfl rfl ?_; simp only [Act.put, List.setIfInBounds_toArray, List.set_cons_zero, List.set_cons_succ]
  refine inw_callV (args := #[pv4 b, .func (.func 42) #[numV dN] #[]]) (v := .agg TAb.toArray) (fun W => run_call_fn W (enters_of Try.func98 rfl rfl) rfl (by simp [Act.eval])) (fun W _ => KMb.out W) rfl rfl ?_; simp only [Act.put, List.setIfInBounds_toArray, List.set_cons_zero, List.set_cons_succ]
  refine inw_slice (n := 1) (L := (TAb).toArray) (T := 135) (fun W => run_slice_of rfl (by simp [Act.eval]) (KBb.out W)) rfl rfl ?_; simp only [List.nil_append, List.cons_append]
  refine inw_fin fun d os => ?_
  refine given_mkH (t := 24) rfl fun s5 hs5 => ?_
  refine given_nil fun hap => ?_
  simp only [Act.put, List.setIfInBounds_toArray, List.set_cons_zero, List.set_cons_succ] at hap ⊢
  have hM15 := hS1.calls (below_regrown W14 d os)
  clear hap 
  generalize grow (redrawn W14 d) os = W15 at hM15 hs5 ⊢
  change wpAny _ _ _ _ 2 _ _ _
  refine any_app_row (n := 6) (by kernel_rfl) rfl hM15 ok1 rfl rfl rfl Try.underlying134 IT.1 IT.2.1 IT.2.2.1 IT.2.2.2.1 IT.2.2.2.2 (by decide) rfl rfl (news := TAb) hs5 (by decide) hTAlb hTAob (by decide) (by decide) fun ga2 ca2 ra2 W16 ok2 hM16 => ?_
  simp only [Act.put, List.setIfInBounds_toArray, List.set_cons_zero, List.set_cons_succ]
  refine any_setat (n := 7) (by kernel_rfl) rfl hM16 2 (cs' := #[.slice (some ⟨ga2, 0, none⟩) 2 ca2]) rfl rfl rfl rfl (by show 0 < 1; decide) (rfl) cellTs rfl rfl rfl fun W17 hM17 => ?_
  simp only [List.set_cons_zero, List.set_cons_succ] at hM17
  refine wpAny_done (by kernel_rfl) ?_ _
  (go_step; go_step; refine wp_region_lit ?_)
  refine wl_pure (v := .int .i64 (sk : Int)) (fun _ => rfl) rfl ?_
  simp only [Act.put, List.setIfInBounds_toArray, List.set_cons_zero, List.set_cons_succ]
  refine wl_pure (v := .pointer (some ⟨b6, 0, none⟩)) (fun W => run_field_of rfl rfl (fa_Tm0 b6 W)) rfl ?_
  simp only [Act.put, List.setIfInBounds_toArray, List.set_cons_zero, List.set_cons_succ]
  refine wl_part hM17 1 (v := numV l) (sub := (elR l)) rfl rfl rfl rfl rfl rowWn rfl ?_
  simp only [Act.put, List.setIfInBounds_toArray, List.set_cons_zero, List.set_cons_succ]
  refine wl_call hM17 (args := #[numV l]) (v := .int .i64 (bll : Int)) (fun W => run_call_fn W (enters_of Try.func99 rfl rfl) rfl (by simp [Act.eval])) (KLl.out W17) rfl fun W18 hM18 => ?_
  simp only [Act.put, List.setIfInBounds_toArray, List.set_cons_zero, List.set_cons_succ]
  refine wl_pure (v := .int .i64 (xfl : Int)) (fun W => run_bin_of rfl rfl rfl (bin_add4 bll xfl exfl hlbll _ _ W)) rfl ?_
  simp only [Act.put, List.setIfInBounds_toArray, List.set_cons_zero, List.set_cons_succ]
  refine wl_pure (v := .int .i64 (xtl : Int)) (fun W => run_bin_of rfl rfl rfl (bin_sub1 xfl xtl extl hxfl _ _ W)) rfl ?_
  simp only [Act.put, List.setIfInBounds_toArray, List.set_cons_zero, List.set_cons_succ]
  refine wl_pure (v := .int .i64 (xql : Int)) (fun W => run_bin_of rfl rfl rfl (bin_quo4 xtl xql exql hxtl _ _ W)) rfl ?_
  simp only [Act.put, List.setIfInBounds_toArray, List.set_cons_zero, List.set_cons_succ]
  refine wl_pure (v := .int .i64 (st : Int)) (fun W => run_max_of (a := sk) (b := xql) (c := st) W rfl rfl rfl hstm) rfl ?_
  simp only [Act.put, List.setIfInBounds_toArray, List.set_cons_zero, List.set_cons_succ]
  refine wl_pure (v := .int .i64 (st : Int)) (fun _ => rfl) rfl ?_
  simp only [Act.put, List.setIfInBounds_toArray, List.set_cons_zero, List.set_cons_succ]
  refine wpList_nil ?_
  (go_step; go_step; refine wp_region_lit ?_)
  refine wl_pure (v := .int .i64 2) (fun W => by go_simp; decide) rfl ?_
  simp only [Act.put, List.setIfInBounds_toArray, List.set_cons_zero, List.set_cons_succ]
  refine wl_pure (v := .int .i64 2) (fun _ => rfl) rfl ?_
  simp only [Act.put, List.setIfInBounds_toArray, List.set_cons_zero, List.set_cons_succ]
  refine wpList_nil ?_
  have hT1 := hM18.swap.tail
  go_step
  rw [rounds_succ]
  (go_step; refine wp_region_lit ?_)
  refine wl_pure (v := .bool false) (fun W => by go_simp) rfl ?_
  simp only [Act.put, List.setIfInBounds_toArray, List.set_cons_zero, List.set_cons_succ]
  refine wpList_nil ?_
  have hst : st ≤ 1000 := hst1000
  clear IT
  obtain ⟨n0, en0⟩ : ∃ x : Int, x = (st : Int) - 1 := ⟨_, rfl⟩
  rw [List.append_assoc] at hT1
  rw [eTAa, eTAb] at hT1
  (go_step; go_step; go_step; go_step; go_step; go_step; go_step; go_step; refine wp_region_lit ?_)
  refine wl_call hT1 (args := #[]) (v := pv4 zero4) (fun W => run_call_fn W (enters_of Try.func40 rfl rfl) rfl (by simp [Act.eval])) (zero4_any W18) rfl fun W19 hM19 => ?_
  simp only [Act.put, List.setIfInBounds_toArray, List.set_cons_zero, List.set_cons_succ]
  refine wl_new hM19 (f := fun b => .pointer (some ⟨b, 0, none⟩)) (ob := .cells z16 30 (0, 0)) (fun W => run_alloc_of rfl (al_Pt W)) rfl fun b7 W20 hM20 => ?_
  simp only [Act.put, List.setIfInBounds_toArray, List.set_cons_zero, List.set_cons_succ]
  refine wl_set hM20 0 (cs := ((pc4 zero4))) rfl rfl rfl rfl rowPt rfl (one_p4 _) rfl rfl fun W21 hM21 => ?_
  simp only [List.set_cons_zero, List.set_cons_succ] at hM21
  refine wpList_nil ?_
  (go_step; go_step; go_step; refine wp_region_lit ?_)
  refine wl_pure (v := .func (.func 100) #[] #[.pointer (some ⟨b7, 0, none⟩), .pointer (some ⟨b1, 0, none⟩), .pointer (some ⟨b3, 0, none⟩), .pointer (some ⟨b4, 0, none⟩)]) (fun W => run_makeFunc_of rfl (by simp [Instr.makeFunc, Act.eval])) rfl ?_
  simp only [Act.put, List.setIfInBounds_toArray, List.set_cons_zero, List.set_cons_succ]
  refine wl_pure (v := .func (.func 100) #[] #[.pointer (some ⟨b7, 0, none⟩), .pointer (some ⟨b1, 0, none⟩), .pointer (some ⟨b3, 0, none⟩), .pointer (some ⟨b4, 0, none⟩)]) (fun _ => rfl) rfl ?_
  simp only [Act.put, List.setIfInBounds_toArray, List.set_cons_zero, List.set_cons_succ]
  refine wpList_nil ?_
  (go_step; go_step; go_step; go_step; refine wp_region_lit ?_)
  refine wl_pure (v := .int .i64 (st : Int)) (fun _ => rfl) rfl ?_
  simp only [Act.put, List.setIfInBounds_toArray, List.set_cons_zero, List.set_cons_succ]
  refine wl_pure (v := .int .i64 n0) (fun W => run_bin_of rfl rfl rfl (bin_decz st n0 _ _ W en0 hst)) rfl ?_
  simp only [Act.put, List.setIfInBounds_toArray, List.set_cons_zero, List.set_cons_succ]
  refine wl_pure (v := .int .i64 n0) (fun _ => rfl) rfl ?_
  simp only [Act.put, List.setIfInBounds_toArray, List.set_cons_zero, List.set_cons_succ]
  refine wpList_nil ?_
  (go_step; go_step; go_step; go_loopw [10] (fun i wr => ∃ (m : Nat) (o : N4), m ≤ st ∧ i = .int .i64 ((m : Int) - 1) ∧ (∃ P, Ok4 o P) ∧ runF (take2 k l a b) m o = R ∧ Mem w [(b7, .cells (pc4 o) 30 (0, 0)), (ga2, .cells ((tabL a 16 ++ (tabL b 16 ++ ra2)).toArray) 135 (0, 0)), (b4, .cells #[.slice (some ⟨ga2, 0, none⟩) 2 ca2] 134 (0, 0)), (b3, .cells (#[Value.func (.func 42) #[numV dN] #[]]) 75 (0, 0)), (b2, .cells z16 30 (0, 0)), (b1, .cells #[.slice (some ⟨g, 0, none⟩) 2 2] 133 (0, 0))] wr) (fun i _ => (Go.RowKit.intOf i + 1).toNat))
  case atStart => exact ⟨st, zero4, Nat.le_refl _, by rw [en0], ⟨_, ok4_zero⟩, by rw [hR], hM21⟩
  case round =>
    obtain ⟨m, o, hm, rfl, hOk, hrun, hQ⟩ := hrel
    clear hM1 hM2 hM3 hM4 hM5 hM6 hM7 hM8 hM9 hM10 hM11 hM12 hM13 hM14 hM15 hM16 hM17 hM18 hM19 hM20 hM21
    obtain ⟨n, hn⟩ : ∃ n : Int, n = (m : Int) - 1 := ⟨_, rfl⟩
    rw [← hn]
    obtain ⟨Po, ho⟩ := hOk
    (go_step; go_step; go_step; refine wp_region_lit ?_)
    refine wl_pure (v := .int .i64 n) (fun _ => rfl) rfl ?_
    simp only [Act.put, List.setIfInBounds_toArray, List.set_cons_zero, List.set_cons_succ]
    obtain ⟨c1, hc1⟩ : ∃ x, x = decide (0 ≤ n) := ⟨_, rfl⟩
    refine wl_pure (v := .bool c1) (fun W => run_bin_of rfl rfl rfl (by rw [hc1]; exact bin_geq_z n _ _ W)) rfl ?_
    simp only [Act.put, List.setIfInBounds_toArray, List.set_cons_zero, List.set_cons_succ]
    refine wpList_nil ?_
    cases c1
    · skip
      have hm0 : m = 0 := by
        have h9 := of_decide_eq_false hc1.symm
        omega
      subst hm0
      rw [runF_zero] at hrun
      subst hrun
      (go_step; go_step; go_step; go_step; go_step; go_step; go_step; go_step; go_step; refine wp_region_lit ?_)
      refine wl_row hQ 0 (v := pv4 o) rfl rfl rfl rfl rowPt rfl ?_
      simp only [Act.put, List.setIfInBounds_toArray, List.set_cons_zero, List.set_cons_succ]
      refine wl_set hQ 4 (cs := ((pc4 o))) rfl rfl rfl rfl rowPt rfl (one_p4 _) rfl rfl fun W23 hM23 => ?_
      simp only [List.set_cons_zero, List.set_cons_succ] at hM23
      refine wpList_nil ?_
      (go_step; go_step; go_step; refine bodyPost_ret (v := pv4 o) (results_arr Try.results64 rfl (hM23.load 4 rfl rowPt)) rfl ⟨?_, hM23.below⟩)
      exact rfl
    · skip
      have h9 := of_decide_eq_true hc1.symm
      obtain ⟨s, hsm⟩ : ∃ s, m = s + 1 := ⟨m - 1, by omega⟩
      have hns : n = (s : Int) := by omega
      obtain ⟨n2, en2⟩ : ∃ x : Int, x = (s : Int) - 1 := ⟨_, rfl⟩
      (go_step; go_step; go_step; go_step; go_step; go_step; go_step; go_step; refine wp_region_lit ?_)
      refine wl_pure (v := .func (.func 100) #[] #[.pointer (some ⟨b7, 0, none⟩), .pointer (some ⟨b1, 0, none⟩), .pointer (some ⟨b3, 0, none⟩), .pointer (some ⟨b4, 0, none⟩)]) (fun _ => rfl) rfl ?_
      simp only [Act.put, List.setIfInBounds_toArray, List.set_cons_zero, List.set_cons_succ]
      refine wl_pure (v := .int .i64 n) (fun _ => rfl) rfl ?_
      simp only [Act.put, List.setIfInBounds_toArray, List.set_cons_zero, List.set_cons_succ]
      refine wl_callM  (args := #[.int .i64 n, .pointer (some ⟨b7, 0, none⟩), .pointer (some ⟨b1, 0, none⟩), .pointer (some ⟨b3, 0, none⟩), .pointer (some ⟨b4, 0, none⟩)]) (v := .tuple #[]) (fun W => run_call_dyn W (enters_of Try.func100 rfl rfl) rfl rfl (by simp [Act.eval]; rfl) rfl) (by rw [hns]; exact take2_any w wr g b7 ga2 b4 b3 b2 b1 ca2 s ra2 ha hb k l ho (by omega) hg hQ) rfl fun W23 hM23 => ?_
      simp only [Act.put, List.setIfInBounds_toArray, List.set_cons_zero, List.set_cons_succ]
      refine wpList_nil ?_
      (go_step; go_step; refine wp_region_lit ?_)
      refine wl_pure (v := .int .i64 n) (fun _ => rfl) rfl ?_
      simp only [Act.put, List.setIfInBounds_toArray, List.set_cons_zero, List.set_cons_succ]
      refine wl_pure (v := .int .i64 n2) (fun W => by rw [hns]; exact run_bin_of rfl rfl (by rw [← hns]; rfl) (bin_decz s n2 _ _ W en2 (by omega))) rfl ?_
      simp only [Act.put, List.setIfInBounds_toArray, List.set_cons_zero, List.set_cons_succ]
      refine wl_pure (v := .int .i64 n2) (fun _ => rfl) rfl ?_
      simp only [Act.put, List.setIfInBounds_toArray, List.set_cons_zero, List.set_cons_succ]
      refine wpList_nil ?_
      go_roundw
      case rel =>
        refine ⟨_, _, _, _, _, _, _, _, ?_, rfl⟩
        refine ⟨s, take2 k l a b o s, by omega, by rw [en2], ok4_ex2 k l s ha hb ⟨_, ho⟩, by rw [← hrun, hsm, runF_succ], ?_⟩
        exact hM23
      case measure => simp [Go.RowKit.intOf]; omega
end Go.Proofs.Ytigfoophimjgdaa
namespace Go.Proofs.Ytigfoophimjgdaa
set_option maxRecDepth 20000
set_option linter.unusedSimpArgs false
set_option linter.unusedVariables false
open Go.RowKit
theorem add_open (a b : Nat) (w : World) (ha : a < B64 ^ 4) (hb : b < B64 ^ 4) :
    Calls Try.prog 68 #[.agg #[.int .u64 (wd a 0 : Int), .int .u64 (wd a 1 : Int), .int .u64 (wd a 2 : Int), .int .u64 (wd a 3 : Int)], .agg #[.int .u64 (wd b 0 : Int), .int .u64 (wd b 1 : Int), .int .u64 (wd b 2 : Int), .int .u64 (wd b 3 : Int)]] w fun e w' => e = .returned (.tuple #[.agg #[.int .u64 (wd (addN a b) 0 : Int), .int .u64 (wd (addN a b) 1 : Int), .int .u64 (wd (addN a b) 2 : Int), .int .u64 (wd (addN a b) 3 : Int)], .int .u64 (addK a b : Int)]) ∧ Below w.heap.size w w' := add_any a b w ha hb
theorem sub_open (a b : Nat) (w : World) (ha : a < B64 ^ 4) (hb : b < B64 ^ 4) :
    Calls Try.prog 106 #[.agg #[.int .u64 (wd a 0 : Int), .int .u64 (wd a 1 : Int), .int .u64 (wd a 2 : Int), .int .u64 (wd a 3 : Int)], .agg #[.int .u64 (wd b 0 : Int), .int .u64 (wd b 1 : Int), .int .u64 (wd b 2 : Int), .int .u64 (wd b 3 : Int)]] w fun e w' => e = .returned (.tuple #[.agg #[.int .u64 (wd (subN a b) 0 : Int), .int .u64 (wd (subN a b) 1 : Int), .int .u64 (wd (subN a b) 2 : Int), .int .u64 (wd (subN a b) 3 : Int)], .int .u64 (subK a b : Int)]) ∧ Below w.heap.size w w' := sub_any a b w ha hb
/-- The rest behind one bit more, as the closure reckons it. -/
theorem take_num (r m b : Nat) (hr : r < m) (hm : m < B64 ^ 4) (hb : b < 2) :
    addN r r + b < B64 ^ 4 ∧ wd (addN r r + b) 0 = wd (addN r r) 0 + b ∧ (∀ k, 1 ≤ k → wd (addN r r + b) k = wd (addN r r) k) ∧ wd (addN r r) 0 % 2 = 0 ∧ wd (addN r r) 0 + b < 18446744073709551616 ∧
    (addK r r = 1 ∨ addK r r = 0 ∧ subK (addN r r + b) m = 0 → subN (addN r r + b) m = (2 * r + b) % m) ∧ (addK r r = 0 ∧ subK (addN r r + b) m = 1 → addN r r + b = (2 * r + b) % m) ∧ addK r r ≤ 1 ∧ subK (addN r r + b) m ≤ 1 := by
  have hT : B64 ^ 4 = B64 * B64 ^ 3 := by rw [Nat.pow_succ, Nat.mul_comm]
  have hTe : ∃ t, B64 ^ 4 = 2 * t := ⟨9223372036854775808 * B64 ^ 3, by rw [hT, ← Nat.mul_assoc]; rfl⟩
  obtain ⟨t, ht⟩ := hTe
  have hk : addK r r = 0 ∧ addN r r = 2 * r ∨ addK r r = 1 ∧ addN r r + B64 ^ 4 = 2 * r := by
    unfold addK addN
    by_cases h : r + r < B64 ^ 4
    · left; rw [Nat.div_eq_of_lt h, Nat.mod_eq_of_lt h]; omega
    · right
      have h1 : r + r < B64 ^ 4 + B64 ^ 4 := by omega
      rw [Nat.mod_eq_sub_mod (by omega), Nat.mod_eq_of_lt (by omega), Nat.div_eq_sub_div (Nat.pow_pos B64_pos) (by omega), Nat.div_eq_of_lt (by omega)]
      omega
  have hev : addN r r % 2 = 0 := by rcases hk with ⟨_, h⟩ | ⟨_, h⟩ <;> omega
  have hlt : addN r r < B64 ^ 4 := Nat.mod_lt _ (Nat.pow_pos B64_pos)
  have hlt2 : addN r r + b < B64 ^ 4 := by omega
  have hw0 : wd (addN r r) 0 % 2 = 0 := by rw [wd_zero]; unfold B64; omega
  have hw1 : wd (addN r r) 0 < 18446744073709551616 := wd_lt _ _
  have hd : (addN r r + b) / B64 = addN r r / B64 := by unfold B64; omega
  have hm0 : wd (addN r r + b) 0 = wd (addN r r) 0 + b := by rw [wd_zero, wd_zero]; unfold B64; omega
  refine ⟨hlt2, hm0, fun k hk => ?_, hw0, by omega, ?_, ?_, ?_, ?_⟩
  · obtain ⟨j, rfl⟩ : ∃ j, k = j + 1 := ⟨k - 1, by omega⟩
    rw [wd_succ, wd_succ, hd]
  · intro h
    unfold subK at h
    unfold subN
    rcases hk with ⟨h1, h2⟩ | ⟨h1, h2⟩
    · rw [h1] at h
      have h3 : ¬ addN r r + b < m := by
        rcases h with h | ⟨_, h⟩
        · omega
        · intro h4; rw [if_pos h4] at h; omega
      rw [if_neg h3, h2, Nat.mod_eq_sub_mod (by omega), Nat.mod_eq_of_lt (by omega)]
    · have h3 : addN r r + b < m := by omega
      rw [if_pos h3, Nat.mod_eq_sub_mod (by omega), Nat.mod_eq_of_lt (by omega)]
      omega
  · rintro ⟨h1, h2⟩
    unfold subK at h2
    have h3 : addN r r + b < m := by
      by_cases h4 : addN r r + b < m
      · exact h4
      · rw [if_neg h4] at h2; omega
    rcases hk with ⟨_, h5⟩ | ⟨h5, _⟩
    · rw [Nat.mod_eq_of_lt (by omega)]; omega
    · omega
  · rcases hk with ⟨h, _⟩ | ⟨h, _⟩ <;> omega
  · unfold subK; split <;> omega
theorem or_low (x b : Nat) (hx : x % 2 = 0) (hb : b < 2) (hl : x < 18446744073709551616) : bits .or .u64 (x : Int) (b : Int) = ((x + b : Nat) : Int) := by
  rw [bits_or_u64_nat _ _ (by omega) (by omega)]
  have h3 := Nat.shiftLeft_add_eq_or_of_lt (i := 1) (b := b) (by omega) (x / 2)
  rw [Nat.shiftLeft_eq, show x / 2 * 2 ^ 1 = x by omega] at h3
  rw [h3]
theorem grown_set (W : World) (b i : Nat) (v : Value) : W.grownBy (W.setCell ⟨b, i, none⟩ v) (some b) :=
  ⟨rfl, rfl, rfl, by show _ ≤ (W.heap.modify _ _).size; rw [Array.size_modify]; exact Nat.le_refl _, fun k _ hk => Below.heap_setCell _ _ _ k (fun e => hk (by rw [e]))⟩
theorem grown_below {w Y : World} (h : Below w.heap.size w Y) (R : Nat) : w.grownBy Y (some R) := ⟨h.os, h.tape, h.output, h.size, fun k hk _ => h.block k hk⟩
def set4 (W : World) (b : Nat) (v0 v1 v2 v3 : Value) : World := (((W.setCell ⟨b, 0, none⟩ v0).setCell ⟨b, 1, none⟩ v1).setCell ⟨b, 2, none⟩ v2).setCell ⟨b, 3, none⟩ v3
theorem set4_grown {w Y : World} {R : Nat} (h : w.grownBy Y (some R)) (v0 v1 v2 v3 : Value) : w.grownBy (set4 Y R v0 v1 v2 v3) (some R) :=
  grown_step (grown_step (grown_step (grown_step h (grown_set _ _ _ _)) (grown_set _ _ _ _)) (grown_set _ _ _ _)) (grown_set _ _ _ _)
theorem set4_num {Y : World} {R x y : Nat} (h : Y.heap[R]? = some (.cells (numL x).toArray 25 (0, 0))) : (set4 Y R (.int .u64 (wd y 0 : Int)) (.int .u64 (wd y 1 : Int)) (.int .u64 (wd y 2 : Int)) (.int .u64 (wd y 3 : Int))).heap[R]? = some (.cells (numL y).toArray 25 (0, 0)) :=
  arr_set (i := 3) (arr_set (i := 2) (arr_set (i := 1) (arr_set (i := 0) h (.int .u64 (wd y 0 : Int))) (.int .u64 (wd y 1 : Int))) (.int .u64 (wd y 2 : Int))) (.int .u64 (wd y 3 : Int))
theorem set4_size (W : World) (b : Nat) (v0 v1 v2 v3 : Value) : (set4 W b v0 v1 v2 v3).heap.size = W.heap.size := by
  have sz : ∀ (W : World) (a : Addr) (v : Value), (W.setCell a v).heap.size = W.heap.size := fun W a v => by show (W.heap.modify _ _).size = _; rw [Array.size_modify]
  unfold set4
  rw [sz, sz, sz, sz]
theorem take_end {w w2 : World} {R r T S : Nat} (o : Obj) (hlR : R < w2.heap.size) (hR : w2.heap[R]? = some (.cells (numL r).toArray 25 (0, 0))) (hw : Below w.heap.size w w2) :
    ((set4 w2 R (.int .u64 (wd T 0 : Int)) (.int .u64 (wd T 1 : Int)) (.int .u64 (wd T 2 : Int)) (.int .u64 (wd T 3 : Int))).alloc o).heap[R]? = some (.cells (numL T).toArray 25 (0, 0)) ∧
    w.grownBy ((set4 w2 R (.int .u64 (wd T 0 : Int)) (.int .u64 (wd T 1 : Int)) (.int .u64 (wd T 2 : Int)) (.int .u64 (wd T 3 : Int))).alloc o) (some R) ∧
    ((set4 (set4 w2 R (.int .u64 (wd T 0 : Int)) (.int .u64 (wd T 1 : Int)) (.int .u64 (wd T 2 : Int)) (.int .u64 (wd T 3 : Int))) R (.int .u64 (wd S 0 : Int)) (.int .u64 (wd S 1 : Int)) (.int .u64 (wd S 2 : Int)) (.int .u64 (wd S 3 : Int))).alloc o).heap[R]? = some (.cells (numL S).toArray 25 (0, 0)) ∧
    w.grownBy ((set4 (set4 w2 R (.int .u64 (wd T 0 : Int)) (.int .u64 (wd T 1 : Int)) (.int .u64 (wd T 2 : Int)) (.int .u64 (wd T 3 : Int))) R (.int .u64 (wd S 0 : Int)) (.int .u64 (wd S 1 : Int)) (.int .u64 (wd S 2 : Int)) (.int .u64 (wd S 3 : Int))).alloc o) (some R) := by
  have h1 := set4_num (y := T) hR
  have h2 := set4_num (y := S) h1
  have g1 := set4_grown (grown_below hw R) (.int .u64 (wd T 0 : Int)) (.int .u64 (wd T 1 : Int)) (.int .u64 (wd T 2 : Int)) (.int .u64 (wd T 3 : Int))
  have g2 := set4_grown g1 (.int .u64 (wd S 0 : Int)) (.int .u64 (wd S 1 : Int)) (.int .u64 (wd S 2 : Int)) (.int .u64 (wd S 3 : Int))
  exact ⟨(alloc_old _ _ _ (by rw [set4_size]; exact hlR)).trans h1, grown_step g1 (World.grownBy_alloc _ _ _), (alloc_old _ _ _ (by rw [set4_size, set4_size]; exact hlR)).trans h2, grown_step g2 (World.grownBy_alloc _ _ _)⟩
set_option maxHeartbeats 8000000 in
theorem take_any (r m b R M : Nat) (w : World) (hr : r < m) (hm : m < B64 ^ 4) (hb : b < 2) (hR : w.heap[R]? = some (.cells (numL r).toArray 25 (0, 0))) (hM : w.heap[M]? = some (.cells (numL m).toArray 25 (0, 0))) :
    Calls Try.prog 105 #[.int .u64 (b : Int), .pointer (some ⟨R, 0, none⟩), .pointer (some ⟨M, 0, none⟩)] w fun e w' => e = .returned (.tuple #[]) ∧ w'.heap[R]? = some (.cells (numL ((2 * r + b) % m)).toArray 25 (0, 0)) ∧ w.grownBy w' (some R) := by
  have hlR : R < w.heap.size := by
    apply Nat.lt_of_not_le
    intro hle
    rw [Array.getElem?_eq_none hle] at hR
    simp at hR
  have hlM : M < w.heap.size := by
    apply Nat.lt_of_not_le
    intro hle
    rw [Array.getElem?_eq_none hle] at hM
    simp at hM
  obtain ⟨n1, n2, n3, n4, n5, n6, n7, n8, n9⟩ := take_num r m b hr hm hb
  have AA := fun w => add_open r r w (by omega) (by omega)
  have SS := fun w => sub_open (addN r r + b) m w n1 hm
  have hor := or_low (wd (addN r r) 0) b n4 hb (wd_lt _ _)
  rw [← n2] at hor
  have e1 := n3 1 (by omega)
  have e2 := n3 2 (by omega)
  have e3 := n3 3 (by omega)
  rw [← e1, ← e2, ← e3] at AA
  have hw0 := wd_lt (addN r r) 0
  have hw1 := wd_lt (addN r r + b) 0
  generalize wd (addN r r) 0 = T0 at AA hor hw0
  generalize hT : addN r r + b = T at AA SS hor n6 n7 n9 hw1
  generalize hK : addK r r = K at AA n6 n7 n8
  generalize hS : subN T m = S at SS n6
  generalize hB : subK T m = Bo at SS n6 n7 n9
  have HA := Lib.hid AA
  have HS := Lib.hid SS
  have H6 := Lib.hid n6
  have H7 := Lib.hid n7
  clear AA SS n1 n2 n3 n4 n5 n6 n7 e1 e2 e3 hT hK hS hB hr hm
  have c0 := (arr_get hR (numL_get r 0 (by omega))).1
  have c1 := (arr_get hR (numL_get r 1 (by omega))).1
  have c2 := (arr_get hR (numL_get r 2 (by omega))).1
  have c3 := (arr_get hR (numL_get r 3 (by omega))).1
  have HR := Lib.hid hR
  have HM := Lib.hid hM
  clear hR hM
  have b1 : (b : Int) < 2 := by omega
  go_enter Try.func105, Try.ntmps105
  go_wp2_with fail
  go_at_call 68
  refine (HA.out w).mono ?_
  rintro e w1 ⟨rfl, hb1⟩
  have hz1 := hb1.size
  have R1 := Lib.hid ((hb1.block R hlR).trans HR.out)
  have hM1 := (hb1.block M hlM).trans HM.out
  have k0 := (arr_get hM1 (numL_get m 0 (by omega))).1
  have k1 := (arr_get hM1 (numL_get m 1 (by omega))).1
  have k2 := (arr_get hM1 (numL_get m 2 (by omega))).1
  have k3 := (arr_get hM1 (numL_get m 3 (by omega))).1
  have lM1 : M < w1.heap.size := by omega
  have HB1 := Lib.hid hb1
  clear HR HM hM1 HA c0 c1 c2 c3 hb1
  go_wp2_with fail
  go_at_call 106
  refine (HS.out _).mono ?_
  rintro e w2 ⟨rfl, hb2⟩
  have hz2 := hb2.size
  rw [alloc_size1] at hz2
  have hT2 := (hb2.block w1.heap.size (by rw [alloc_size1]; omega)).trans (alloc_new w1 (.cells (numL T).toArray 25))
  have hR2 := (hb2.block R (by rw [alloc_size1]; omega)).trans ((alloc_old w1 _ R (by omega)).trans R1.out)
  have j0 := (arr_get hT2 (numL_get T 0 (by omega))).1
  have j1 := (arr_get hT2 (numL_get T 1 (by omega))).1
  have j2 := (arr_get hT2 (numL_get T 2 (by omega))).1
  have j3 := (arr_get hT2 (numL_get T 3 (by omega))).1
  obtain ⟨g0, h0⟩ := arr_get hR2 (numL_get r 0 (by omega))
  obtain ⟨g1, h1⟩ := arr_get hR2 (numL_get r 1 (by omega))
  obtain ⟨g2, h2⟩ := arr_get hR2 (numL_get r 2 (by omega))
  obtain ⟨g3, h3⟩ := arr_get hR2 (numL_get r 3 (by omega))
  have hw2 : Below w.heap.size w w2 := HB1.out.trans (Below.mono ((gr_alloc (Below.refl _ _) _).trans (hb2.mono (by rw [alloc_size1]; omega))) (by omega))
  have HR2 := Lib.hid hR2
  have HW2 := Lib.hid hw2
  have lR2 : R < w2.heap.size := by omega
  have l12 : w1.heap.size < w2.heap.size := by omega
  have nR1 : R ≠ w1.heap.size := by omega
  have nR2 : R ≠ w2.heap.size := by omega
  clear hb2 hT2 hR2 hw2 HB1 R1 k0 k1 k2 k3 HS
  have hcase : K = 1 ∨ (K = 0 ∧ Bo = 0) ∨ (K = 0 ∧ Bo = 1) := by omega
  rcases hcase with rfl | ⟨rfl, rfl⟩ | ⟨rfl, rfl⟩
  · have HV := Lib.hid (H6.out (.inl rfl))
    have HE := Lib.hid (take_end (T := T) (S := S) (.cells #[.int .u64 (wd S 0 : Int), .int .u64 (wd S 1 : Int), .int .u64 (wd S 2 : Int), .int .u64 (wd S 3 : Int)] 25) lR2 HR2.out HW2.out)
    clear H6 H7 HR2 HW2
    go_wp2_with fail
    go_end0
    rw [← HV.out]
    exact ⟨rfl, HE.out.2.2.1, HE.out.2.2.2⟩
  · have HV := Lib.hid (H6.out (.inr ⟨rfl, rfl⟩))
    have HE := Lib.hid (take_end (T := T) (S := S) (.cells #[.int .u64 (wd S 0 : Int), .int .u64 (wd S 1 : Int), .int .u64 (wd S 2 : Int), .int .u64 (wd S 3 : Int)] 25) lR2 HR2.out HW2.out)
    clear H6 H7 HR2 HW2
    go_wp2_with fail
    go_end0
    rw [← HV.out]
    exact ⟨rfl, HE.out.2.2.1, HE.out.2.2.2⟩
  · have HV := Lib.hid (H7.out ⟨rfl, rfl⟩)
    have HE := Lib.hid (take_end (T := T) (S := S) (.cells #[.int .u64 (wd S 0 : Int), .int .u64 (wd S 1 : Int), .int .u64 (wd S 2 : Int), .int .u64 (wd S 3 : Int)] 25) lR2 HR2.out HW2.out)
    clear H6 H7 HR2 HW2
    go_wp2_with fail
    go_end0
    rw [← HV.out]
    exact ⟨rfl, HE.out.1, HE.out.2.1⟩
end Go.Proofs.Ytigfoophimjgdaa
namespace Go.Proofs.Ytigfoophimjgdaa
set_option maxRecDepth 20000
set_option linter.unusedSimpArgs false
set_option linter.unusedVariables false
open Go.RowKit
theorem isZero_any (a : Nat) (w : World) (ha : a < B64 ^ 4) :
    Calls Try.prog 29 #[numV a] w fun e w' => e = .returned (.bool (decide (a = 0))) ∧ Below w.heap.size w w' := by
  have hz : decide (a = 0) = (decide (wd a 0 = 0) && (decide (wd a 1 = 0) && (decide (wd a 2 = 0) && decide (wd a 3 = 0)))) := by
    by_cases h : a = 0
    · subst h; simp [wd]
    · rw [decide_eq_false h]
      symm
      rw [Bool.eq_false_iff]
      intro hh
      simp only [Bool.and_eq_true, decide_eq_true_eq] at hh
      obtain ⟨h0, h1, h2, h3⟩ := hh
      apply h
      have e0 := div_step a 0
      have e1 := div_step a 1
      have e2 := div_step a 2
      have e3 := div_step a 3
      rw [h0] at e0
      rw [h1] at e1
      rw [h2] at e2
      rw [h3, Nat.div_eq_of_lt ha, Nat.zero_mul, Nat.zero_add] at e3
      rw [e3, Nat.zero_mul, Nat.zero_add] at e2
      rw [e2, Nat.zero_mul, Nat.zero_add] at e1
      rw [e1, Nat.zero_mul, Nat.zero_add, Nat.pow_zero, Nat.div_one] at e0
      exact e0
  have HZ := Lib.hid hz
  clear hz
  unfold numV
  generalize wd a 0 = x0 at *
  generalize wd a 1 = x1 at *
  generalize wd a 2 = x2 at *
  generalize wd a 3 = x3 at *
  have kq := fun w => eql_num w (x0 : Int) (x1 : Int) (x2 : Int) (x3 : Int) 0 0 0 0
  go_enter Try.func29, Try.ntmps29
  go_wp2_with fail
  go_ret
  refine ⟨ret_bool ?_, gr_alloc (Below.refl _ _) _⟩
  rw [HZ.out]
  have hb : ∀ x : Nat, ((x : Int) == 0) = decide (x = 0) := fun x => by
    by_cases h : x = 0
    · subst h; rfl
    · have : ¬ (x : Int) = 0 := by omega
      simp [h, this]
  rw [← hb, ← hb, ← hb, ← hb]
end Go.Proofs.Ytigfoophimjgdaa
