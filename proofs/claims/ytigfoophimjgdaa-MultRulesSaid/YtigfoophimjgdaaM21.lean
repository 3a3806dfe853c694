/- pcode.beside (layer 21): its contract. Blocks of one cell, and one cell of a row: loads and stores, for XRow's rules. No program in it. pcode: the highest bit of 32 bytes (layer 21). pcode: the two x of a y (layer 21): numbers alone. pcode.Encode (layer 21): its contract. What the reference's Put and Turn answer. The reference's Bytes: what it answers. prime.Of (layer 19): its contract. Deferred calls in texts of whole rows. No program in it. -/
import Derived.Great.BuildSlice
import Derived.Laws.CopyRow
import Derived.Laws.BitsAllLaws
import Derived.ProofKit
import Derived.Laws.Rows
import Derived.Defers
import Derived.Test.YtigfoophimjgdaaM19
import Derived.Test.YtigfoophimjgdaaM10
import Derived.Test.YtigfoophimjgdaaM01
import Derived.Test.YtigfoophimjgdaaM03
import Derived.Test.YtigfoophimjgdaaM14
namespace Go.Proofs.Ytigfoophimjgdaa
set_option maxRecDepth 20000
set_option linter.unusedSimpArgs false
set_option linter.unusedVariables false
open Go.RowKit Go.Sort
set_option maxRecDepth 20000 in
set_option maxHeartbeats 8000000 in
theorem beside_any (Y : Nat) (w : World) (hY : Y < PN) : Calls Try.prog 55 #[numV Y] w fun E w' => E = .returned (.tuple #[numV (rootN iV (sqR Y)), .bool (okN iV (sqR Y))]) ∧ Below w.heap.size w w' := by
  have HMIX := Lib.hid (show Try.prog.follows .mixedOrders = true by kernel_rfl)
  go_enter Try.func55, Try.ntmps55
  have hM0 := Mem.start w
  (go_step; go_step; refine wp_region_lit ?_)
  refine wl_new hM0 (f := fun b => .pointer (some ⟨b, 0, none⟩)) (ob := .cells (elR Y) 27 (0, 0)) (fun W => run_box_of rfl rfl (bx_El Y W)) rfl fun b1 W1 hM1 => ?_
  simp only [Act.put, List.setIfInBounds_toArray, List.set_cons_zero, List.set_cons_succ]
  refine wl_new hM1 (f := fun b => .pointer (some ⟨b, 0, none⟩)) (ob := .cells z4 27 (0, 0)) (fun W => run_alloc_of rfl (al_El W)) rfl fun b2 W2 hM2 => ?_
  simp only [Act.put, List.setIfInBounds_toArray, List.set_cons_zero, List.set_cons_succ]
  refine wl_pure (v := .bool false) (fun _ => rfl) rfl ?_
  simp only [Act.put, List.setIfInBounds_toArray, List.set_cons_zero, List.set_cons_succ]
  refine wpList_nil ?_
  (go_step; go_step; go_step; refine wp_region_inw 7 HMIX.out (by decide) (by kernel_rfl) (by kernel_rfl) ?_)
  refine inw_callV (args := #[.int .u64 1]) (v := numV 1) (fun W => run_call_fn W (enters_of Try.func56 rfl rfl) rfl (by simp [Act.eval])) (fun W _ => psmall_any_ 1 (by decide) W) rfl rfl ?_; simp only [Act.put, List.setIfInBounds_toArray, List.set_cons_zero, List.set_cons_succ]
  refine inw_row hM2 1 (v := numV Y) rfl rfl rfl rfl rowEl rfl rfl ?_; simp only [Act.put, List.setIfInBounds_toArray, List.set_cons_zero, List.set_cons_succ]
  refine inw_row hM2 1 (v := numV Y) rfl rfl rfl rfl rowEl rfl rfl ?_; simp only [Act.put, List.setIfInBounds_toArray, List.set_cons_zero, List.set_cons_succ]
  refine inw_slice (n := 2) (L := elR Y ++ elR Y) (T := 27) (fun W => run_slice_of rfl (by simp [Act.eval]) (bs2 Y Y W)) rfl rfl ?_; simp only [List.nil_append, List.cons_append]
  obtain ⟨v1, ev1⟩ : ∃ x, x = Y * Y % PN := ⟨_, rfl⟩
  have pv1 : v1 < PN := by rw [ev1]; exact Nat.mod_lt _ PN_pos
  have Kv1 := mul_two' Y Y hY hY
  rw [← ev1] at Kv1
  refine inw_callS 3 10 (v := numV v1) rfl rfl (fun _ => rfl) (fun b W => run_call_fn W (enters_of Try.func60 rfl rfl) rfl (by simp [Act.eval, Act.put])) (fun b W h => Kv1 b W h) ?_; simp only [Act.put, List.setIfInBounds_toArray, List.set_cons_zero, List.set_cons_succ]
  refine inw_new (.cells z4 27 (0, 0)) rfl rfl (fun A W => run_alloc_of rfl (al_El W)) ?_; simp only [List.nil_append, List.cons_append]
  refine inw_new (.cells z4 27 (0, 0)) rfl rfl (fun A W => run_alloc_of rfl (al_El W)) ?_; simp only [List.nil_append, List.cons_append]
  refine inw_fin fun d os => ?_
  refine given_mk (t := 10) rfl fun s3 => ?_
  refine given_new (t := 4) rfl fun b3 lb3 gb3 => ?_
  refine given_new (t := 5) rfl fun b4 lb4 gb4 => ?_
  refine given_nil fun hap => ?_
  simp only [Act.put, List.setIfInBounds_toArray, List.set_cons_zero, List.set_cons_succ] at hap ⊢
  have nb3b4 : b3 ≠ b4 := hap.ne 5 6 rfl rfl rfl rfl rfl rfl rfl
  have hM3 := hM2.news2 (below_regrown W2 d os) lb3 gb3 lb4 gb4 nb3b4
  clear hap lb3 gb3 lb4 gb4 nb3b4
  generalize grow (redrawn W2 d) os = W3 at hM3 ⊢
  change wpAny _ _ _ _ 2 _ _ _
  refine any_set (n := 7) (by kernel_rfl) rfl hM3 0 (cs := (elR 1)) rfl rfl rfl rfl rowEl rfl (one_el 1) rfl rfl fun W4 hM4 => ?_
  simp only [List.set_cons_zero, List.set_cons_succ] at hM4
  refine any_set (n := 8) (by kernel_rfl) rfl hM4 1 (cs := (elR v1)) rfl rfl rfl rfl rowEl rfl (one_el v1) rfl rfl fun W5 hM5 => ?_
  simp only [List.set_cons_zero, List.set_cons_succ] at hM5
  refine wpAny_done (by kernel_rfl) ?_ _
  (go_step; go_step; go_step; refine wp_region_inw 8 HMIX.out (by decide) (by kernel_rfl) (by kernel_rfl) ?_)
  refine inw_callV (args := #[]) (v := numV dN) (fun W => run_call_fn W (enters_of Try.func75 rfl rfl) rfl (by simp [Act.eval])) (fun W _ => curD_any W) rfl rfl ?_; simp only [Act.put, List.setIfInBounds_toArray, List.set_cons_zero, List.set_cons_succ]
  refine inw_row hM5 1 (v := numV v1) rfl rfl rfl rfl rowEl rfl rfl ?_; simp only [Act.put, List.setIfInBounds_toArray, List.set_cons_zero, List.set_cons_succ]
  refine inw_slice (n := 2) (L := elR dN ++ elR v1) (T := 27) (fun W => run_slice_of rfl (by simp [Act.eval]) (bs2 dN v1 W)) rfl rfl ?_; simp only [List.nil_append, List.cons_append]
  obtain ⟨v2, ev2⟩ : ∃ x, x = dN * v1 % PN := ⟨_, rfl⟩
  have pv2 : v2 < PN := by rw [ev2]; exact Nat.mod_lt _ PN_pos
  have Kv2 := mul_two' dN v1 d_is.2 pv1
  rw [← ev2] at Kv2
  refine inw_callS 2 14 (v := numV v2) rfl rfl (fun _ => rfl) (fun b W => run_call_fn W (enters_of Try.func60 rfl rfl) rfl (by simp [Act.eval, Act.put])) (fun b W h => Kv2 b W h) ?_; simp only [Act.put, List.setIfInBounds_toArray, List.set_cons_zero, List.set_cons_succ]
  refine inw_row hM5 0 (v := numV 1) rfl rfl rfl rfl rowEl rfl rfl ?_; simp only [Act.put, List.setIfInBounds_toArray, List.set_cons_zero, List.set_cons_succ]
  refine inw_slice (n := 2) (L := elR v2 ++ elR 1) (T := 27) (fun W => run_slice_of rfl (by simp [Act.eval]) (bs2 v2 1 W)) rfl rfl ?_; simp only [List.nil_append, List.cons_append]
  obtain ⟨v3, ev3⟩ : ∃ x, x = (v2 + 1) % PN := ⟨_, rfl⟩
  have pv3 : v3 < PN := by rw [ev3]; exact Nat.mod_lt _ PN_pos
  have Kv3 := add_two' v2 1 pv2 (by decide +kernel)
  rw [← ev3] at Kv3
  refine inw_callS 5 17 (v := numV v3) rfl rfl (fun _ => rfl) (fun b W => run_call_fn W (enters_of Try.func74 rfl rfl) rfl (by simp [Act.eval, Act.put])) (fun b W h => Kv3 b W h) ?_; simp only [Act.put, List.setIfInBounds_toArray, List.set_cons_zero, List.set_cons_succ]
  refine inw_new (.cells z4 27 (0, 0)) rfl rfl (fun A W => run_alloc_of rfl (al_El W)) ?_; simp only [List.nil_append, List.cons_append]
  refine inw_fin fun d os => ?_
  refine given_mk (t := 14) rfl fun s2 => ?_
  refine given_mk (t := 17) rfl fun s5 => ?_
  refine given_new (t := 6) rfl fun b5 lb5 gb5 => ?_
  refine given_nil fun hap => ?_
  simp only [Act.put, List.setIfInBounds_toArray, List.set_cons_zero, List.set_cons_succ] at hap ⊢
  have hM6 := hM5.news1 (below_regrown W5 d os) lb5 gb5 
  clear hap lb5 gb5
  generalize grow (redrawn W5 d) os = W6 at hM6 ⊢
  change wpAny _ _ _ _ 1 _ _ _
  refine any_set (n := 8) (by kernel_rfl) rfl hM6 0 (cs := (elR v3)) rfl rfl rfl rfl rowEl rfl (one_el v3) rfl rfl fun W7 hM7 => ?_
  simp only [List.set_cons_zero, List.set_cons_succ] at hM7
  refine wpAny_done (by kernel_rfl) ?_ _
  (go_step; go_step; go_step; refine wp_region_inz 10 9 rfl rfl (steady_extract rfl) (by kernel_rfl) (by decide) HMIX.out (by decide) (by kernel_rfl) (by kernel_rfl) ?_)
  refine inw_row hM7 2 (v := numV v1) rfl rfl rfl rfl rowEl rfl rfl ?_; simp only [Act.put, List.setIfInBounds_toArray, List.set_cons_zero, List.set_cons_succ]
  refine inw_row hM7 1 (v := numV 1) rfl rfl rfl rfl rowEl rfl rfl ?_; simp only [Act.put, List.setIfInBounds_toArray, List.set_cons_zero, List.set_cons_succ]
  obtain ⟨v4, ev4⟩ : ∃ x, x = (v1 + PN - 1) % PN := ⟨_, rfl⟩
  have pv4 : v4 < PN := by rw [ev4]; exact Nat.mod_lt _ PN_pos
  have Kv4 := fun W => psub_any v1 1 W pv1 (by decide +kernel)
  simp only [← ev4] at Kv4
  refine inw_callV (args := #[numV v1, numV 1]) (v := numV v4) (fun W => run_call_fn W (enters_of Try.func73 rfl rfl) rfl (by simp [Act.eval])) (fun W _ => Kv4 W) rfl rfl ?_; simp only [Act.put, List.setIfInBounds_toArray, List.set_cons_zero, List.set_cons_succ]
  refine inw_row hM7 0 (v := numV v3) rfl rfl rfl rfl rowEl rfl rfl ?_; simp only [Act.put, List.setIfInBounds_toArray, List.set_cons_zero, List.set_cons_succ]
  obtain ⟨v5, ev5⟩ : ∃ x, x = IV v3 := ⟨_, rfl⟩
  have pv5 : v5 < PN := by rw [ev5]; exact IV_lt _
  have Kv5 := fun W => pinv_any' v3 W pv3
  simp only [← ev5] at Kv5
  refine inw_callV (args := #[numV v3]) (v := numV v5) (fun W => run_call_fn W (enters_of Try.func89 rfl rfl) rfl (by simp [Act.eval])) (fun W _ => Kv5 W) rfl rfl ?_; simp only [Act.put, List.setIfInBounds_toArray, List.set_cons_zero, List.set_cons_succ]
  refine inw_slice (n := 2) (L := elR v4 ++ elR v5) (T := 27) (fun W => run_slice_of rfl (by simp [Act.eval]) (bs2 v4 v5 W)) rfl rfl ?_; simp only [List.nil_append, List.cons_append]
  obtain ⟨v6, ev6⟩ : ∃ x, x = v4 * v5 % PN := ⟨_, rfl⟩
  have pv6 : v6 < PN := by rw [ev6]; exact Nat.mod_lt _ PN_pos
  have Kv6 := mul_two' v4 v5 pv4 pv5
  rw [← ev6] at Kv6
  refine inw_callS 5 24 (v := numV v6) rfl rfl (fun _ => rfl) (fun b W => run_call_fn W (enters_of Try.func60 rfl rfl) rfl (by simp [Act.eval, Act.put])) (fun b W h => Kv6 b W h) ?_; simp only [Act.put, List.setIfInBounds_toArray, List.set_cons_zero, List.set_cons_succ]
  obtain ⟨v7, ev7⟩ : ∃ x, x = rootN iV v6 := ⟨_, rfl⟩
  have pv7 : v7 < PN := by rw [ev7]; exact rootN_below _
  have Kv7 := fun W => proot' v6 W pv6
  simp only [← ev7] at Kv7
  obtain ⟨ok1, eok1⟩ : ∃ x, x = okN iV v6 := ⟨_, rfl⟩
  simp only [← eok1] at Kv7
  refine inw_callV (args := #[numV v6]) (v := .tuple #[numV v7, .bool ok1]) (fun W => run_call_fn W (enters_of Try.func72 rfl rfl) rfl (by simp [Act.eval])) (fun W _ => Kv7 W) rfl rfl ?_; simp only [Act.put, List.setIfInBounds_toArray, List.set_cons_zero, List.set_cons_succ]
  refine inw_pure (v := numV v7) (fun _ => rfl) rfl rfl ?_; simp only [Act.put, List.setIfInBounds_toArray, List.set_cons_zero, List.set_cons_succ]
  refine inw_pure (v := .bool ok1) (fun _ => rfl) rfl rfl ?_; simp only [Act.put, List.setIfInBounds_toArray, List.set_cons_zero, List.set_cons_succ]
  refine inw_fin fun d os => ?_
  refine given_mk (t := 24) rfl fun s5 => ?_
  refine given_nil fun hap => ?_
  simp only [Act.put, List.setIfInBounds_toArray, List.set_cons_zero, List.set_cons_succ] at hap ⊢
  have hM8 := hM7.calls (below_regrown W7 d os)
  clear hap 
  generalize grow (redrawn W7 d) os = W8 at hM8 ⊢
  change wpAny _ _ _ _ 2 _ _ _
  refine any_set (n := 10) (by kernel_rfl) rfl hM8 3 (cs := (elR v7)) rfl rfl rfl rfl rowEl rfl (one_el v7) rfl rfl fun W9 hM9 => ?_
  simp only [List.set_cons_zero, List.set_cons_succ] at hM9
  refine any_pure (n := 11) (v := .bool ok1) (by kernel_rfl) rfl (fun _ => rfl) rfl rfl ?_
  simp only [Act.put, List.setIfInBounds_toArray, List.set_cons_zero, List.set_cons_succ]
  refine wpAny_done (by kernel_rfl) ?_ _
  refine NoPanic.normal ?_
  (go_step; go_step; go_step; refine bodyPost_ret (v := .tuple #[numV v7, .bool ok1]) (results_arr_tmp Try.results55 rfl rfl (hM9.load 3 rfl rowEl)) rfl ⟨?_, hM9.below⟩)
  exact by rw [eok1, ev7, ev6, ev5, ev4, ev3, ev2, ev1]; unfold sqR; rfl
end Go.Proofs.Ytigfoophimjgdaa
namespace Go.Proofs.Ytigfoophimjgdaa
set_option maxRecDepth 20000
set_option linter.unusedSimpArgs false
set_option linter.unusedVariables false
open Go.RowKit Go.Sort
/-- A type whose values lie in one cell. -/
def CellTy (P : Program) (ty : TypeId) : Prop := (∃ d, P.underlying ty = some d ∧ (match d with | .struct _ | .array _ _ => false | _ => true) = true) ∧ (P.info? ty).map (·.size) = some 1
section
variable {P : Program} {w w0 w00 : World} {M : List Blk} {o : Oper} {A : Act}
/-- A function value that has taken variables is called. -/
theorem run_call_dyn {f : FuncId} {x : Operand} {args : Array Operand} {tys : Array TypeId} {vals first cap all : Array Value} (W : World) (hE : Enters P f) (ho : o.op = .call { callee := .value x, args := args, argTypes := tys }) (hx : A.eval x = .func (.func f) first cap) (hv : args.map A.eval = vals) (ha : first ++ vals ++ cap = all) : (execOp A.eval o).run P W = .ok (.enter f all) W := by
  have h := hE all W
  unfold execOp
  simp [ho, resolve, Deferred.ofValue, hx, invoke, hv]
  rw [← Array.append_assoc, ha, h]
theorem run_makeFunc_of {fn : Fn} {first cap : Array Operand} {v : Value} {W W' : World} (ho : o.op = .makeFunc fn first cap) (h : (Instr.makeFunc fn (first.map A.eval) (cap.map A.eval)).run P W = .ok v W') : (execOp A.eval o).run P W = .ok (.value v) W' := by
  unfold execOp
  simp only [ho, Sem.run_bind, h, Result.andThen_ok]
  rfl
theorem load_cell {b off : Nat} {cs : Array Value} {v : Value} {t : TypeId} {fr : Nat × Nat} (hi : w.heap[b]? = some (.cells cs t fr)) (hv : cs[off]? = some v) {ty : TypeId} (hT : CellTy P ty) : (loadVar ty ⟨b, off, none⟩).run P w = .ok v w := by
  obtain ⟨⟨d, hu, hd⟩, _⟩ := hT
  have hagg : (isAgg ty).run P w = .ok false w := by
    unfold isAgg
    rw [Sem.run_bind, run_underlying hu w]
    cases d <;> first | rfl | cases hd
  have hc : w.cell? ⟨b, off, none⟩ = some v := by rw [cell_of_row w b off cs t fr hi, hv]
  unfold loadVar
  rw [Sem.run_bind, hagg]
  simp [hc]
theorem run_load_cell {ty : TypeId} {x : Operand} {b off : Nat} {t : TypeId} {cs : Array Value} {v : Value} {fr : Nat × Nat} (ho : o.op = .load ty x) (hx : A.eval x = .pointer (some ⟨b, off, none⟩)) (hg : w.heap[b]? = some (.cells cs t fr)) (hv : cs[off]? = some v) (hT : CellTy P ty) :
    (execOp A.eval o).run P w = .ok (.value v) w := by
  unfold execOp
  simp only [ho, hx, Instr.loadAt, Instr.sureAddr, Sem.run_bind, Sem.run_pure, Result.andThen_ok, load_cell hg hv hT]
/-- A value of one cell goes into a row's cell. -/
theorem run_store_at {b off : Nat} {cs : Array Value} {v : Value} {t ty : TypeId} (hg : w.heap[b]? = some (.cells cs t (0, 0))) (hl : off < cs.size) (hT : CellTy P ty) (h1 : v.oneCell' = true) : (storeVar ty ⟨b, off, none⟩ v).run P w = .ok () (w.setRow b (cs.setIfInBounds off v)) := by
  have h := run_storeCells_at (P := P) b off t [v] 0 cs w hg (by simp only [List.length_singleton]; omega) (fun x hx => by simp at hx; subst hx; exact h1)
  have hc : v.cells = #[v] := by cases v <;> first | rfl | cases h1
  obtain ⟨_, hi⟩ := hT
  cases hq : P.info? ty with
  | none => simp [hq] at hi
  | some i =>
    have hs : i.size = 1 := by simpa [hq] using hi
    simp [storeVar, hc, sizeOf, typeInfo, hq, hs, Sem.run_bind]
    rw [h]
    congr 2
    refine Array.ext' ?_
    rw [Array.toList_setIfInBounds, List.set_eq_take_append_cons_drop, if_pos (by simpa using hl)]
    simp
end
section
variable {P : Program} {ops : Array Oper} {w w0 w00 : World} {Q : Exit → Act → World → Prop} {Qw : Act → World → Prop} {o : Oper} {rest : List Oper} {A : Act} {M : List Blk} {k : Nat} {Ps : List PkW} {ns : List Nat} {md : Region.Mode} {fuel : Nat} {listed : Array Bool} {S : World → Prop}
theorem wl_cell (hM : Mem w0 M w) (i : Nat) {ty : TypeId} {x : Operand} {b off : Nat} {t : TypeId} {cs : Array Value} {fr : Nat × Nat} {v : Value} (ho : o.op = .load ty x) (hx : A.eval x = .pointer (some ⟨b, off, none⟩)) (hi : M[i]? = some (b, .cells cs t fr)) (hv : cs[off]? = some v) (hT : CellTy P ty)
    (hgd : Region.wanted o (yielded ops A.tmps) = true) (hr : wpList P ops Q rest (A.put o.dst v) w) : wpList P ops Q (o :: rest) A w := by
  refine wpList_step fun K hK => ?_
  rw [if_pos hgd]
  unfold Oper.wp
  rw [run_load_cell ho hx (hM.get i hi) hv hT]
  exact hK _ _ hr
theorem inw_cell (hM : Mem w00 M w0) (i : Nat) {ty : TypeId} {x : Operand} {b off : Nat} {t : TypeId} {cs : Array Value} {fr : Nat × Nat} {v : Value} (ho : o.op = .load ty x) (hx : A.eval x = .pointer (some ⟨b, off, none⟩)) (hi : M[i]? = some (b, .cells cs t fr)) (hv : cs[off]? = some v) (hT : CellTy P ty)
    (hf : Ps.filter (waits ops o) = []) (hw : Region.wanted o (yielded ops A.tmps) = true) (hr : wpInw P ops w0 Qw rest (k + 1) (A.put o.dst v) Ps ns) : wpInw P ops w0 Qw (o :: rest) k A Ps ns :=
  inw_val hf hw (fun d os => run_load_cell ho hx ((hM.calls (below_regrown w0 d os)).get i hi) hv hT) hr
theorem hd_cell (n : Nat) (d : Tmp) {v : Value} {ty : TypeId} {x : Operand} {b off : Nat} {t : TypeId} {cs : Array Value} {fr : Nat × Nat} (L : Array Bool) (hL : listed.setIfInBounds n true = L) (hn : ops[n]? = some o) (hdd : o.dst = some d) (ho : o.op = .load ty x) (hx : A.eval x = .pointer (some ⟨b, off, none⟩)) (hg : ∀ W, S W → W.heap[b]? = some (.cells cs t fr)) (hv : cs[off]? = some v) (hT : CellTy P ty) (hs : Region.noSelect ops = true) (hf : Region.free md ops listed n = true) (hr : (Region.ready md ops listed).contains n = true) (hw : Region.wanted o (yielded ops A.tmps) = true) (hS : S w)
    (h : wpAnyH P md ops (NoPanic Q) S fuel L (A.put (some d) v) w) : wpAnyH P md ops (NoPanic Q) S (fuel + 1) listed A w :=
  hd_take n d L hL hn hdd hs hf hr hw (fun W hW => run_load_cell ho hx (hg W hW) hv hT) hS h
/-- A value of one cell is stored. -/
theorem wp_setat (hM : Mem w0 M w) (i : Nat) {K : Act → World → Prop} {ty : TypeId} {x y : Operand} {b off : Nat} {t : TypeId} {cs cs' : Array Value} {v : Value} (ho : o.op = .store ty x y) (hx : A.eval x = .pointer (some ⟨b, off, none⟩)) (hy : A.eval y = v) (hi : M[i]? = some (b, .cells cs t (0, 0))) (hl : off < cs.size) (hc : cs.setIfInBounds off v = cs') (hT : CellTy P ty) (h1 : v.oneCell' = true)
    (hr : ∀ W, Mem w0 (M.set i (b, .cells cs' t (0, 0))) W → K (A.put o.dst undef) W) : o.wp P A w K Q := by
  subst hc
  unfold Oper.wp execOp
  simp only [ho, hx, hy, Instr.storeAt, Instr.sureAddr, Sem.run_bind, Sem.run_pure, Result.andThen_ok, run_store_at (hM.get i hi) hl hT h1]
  exact hr _ (hM.set i hi)
theorem wl_setat (hM : Mem w0 M w) (i : Nat) {ty : TypeId} {x y : Operand} {b off : Nat} {t : TypeId} {cs cs' : Array Value} {v : Value} (ho : o.op = .store ty x y) (hx : A.eval x = .pointer (some ⟨b, off, none⟩)) (hy : A.eval y = v) (hi : M[i]? = some (b, .cells cs t (0, 0))) (hl : off < cs.size) (hc : cs.setIfInBounds off v = cs') (hT : CellTy P ty) (h1 : v.oneCell' = true)
    (hgd : Region.wanted o (yielded ops A.tmps) = true) (hd : o.dst = none) (hr : ∀ W, Mem w0 (M.set i (b, .cells cs' t (0, 0))) W → wpList P ops Q rest A W) : wpList P ops Q (o :: rest) A w := by
  refine wpList_step fun K hK => ?_
  rw [if_pos hgd]
  refine wp_setat hM i ho hx hy hi hl hc hT h1 fun W hW => ?_
  rw [hd]
  exact hK _ _ (hr W hW)
theorem any_setat {n : Nat} (hr : Region.ready md ops listed = [n]) (hn : ops[n]? = some o) (hM : Mem w0 M w) (i : Nat) {ty : TypeId} {x y : Operand} {b off : Nat} {t : TypeId} {cs cs' : Array Value} {v : Value} (ho : o.op = .store ty x y) (hx : A.eval x = .pointer (some ⟨b, off, none⟩)) (hy : A.eval y = v) (hi : M[i]? = some (b, .cells cs t (0, 0))) (hl : off < cs.size) (hc : cs.setIfInBounds off v = cs') (hT : CellTy P ty) (h1 : v.oneCell' = true)
    (hgd : o.guard = none) (hd : o.dst = none) (hk : ∀ W, Mem w0 (M.set i (b, .cells cs' t (0, 0))) W → wpAny P md ops Q fuel (listed.setIfInBounds n true) A W) : wpAny P md ops Q (fuel + 1) listed A w :=
  any_one hr hn fun K hK => by
    rw [if_pos (by simp [Region.wanted, hgd])]
    refine wp_setat hM i ho hx hy hi hl hc hT h1 fun W hW => ?_
    rw [hd]
    exact hK _ _ (hk W hW)
theorem hd_setat {n : Nat} (L : Array Bool) (hL : listed.setIfInBounds n true = L) (hr : Region.ready md ops listed = [n]) (hn : ops[n]? = some o) (hM : Mem w0 M w) (i : Nat) {ty : TypeId} {x y : Operand} {b off : Nat} {t : TypeId} {cs cs' : Array Value} {v : Value} (ho : o.op = .store ty x y) (hx : A.eval x = .pointer (some ⟨b, off, none⟩)) (hy : A.eval y = v) (hi : M[i]? = some (b, .cells cs t (0, 0))) (hl : off < cs.size) (hc : cs.setIfInBounds off v = cs') (hT : CellTy P ty) (h1 : v.oneCell' = true)
    (hgd : o.guard = none) (hd : o.dst = none) (hSW : ∀ W, Mem w0 (M.set i (b, .cells cs' t (0, 0))) W → S W) (hk : ∀ W, Mem w0 (M.set i (b, .cells cs' t (0, 0))) W → wpAnyH P md ops Q S fuel L A W) : wpAnyH P md ops Q S (fuel + 1) listed A w :=
  wpAnyH_ready hr (by simp) fun j hj => by
    obtain rfl : j = n := by simpa using hj
    unfold wpOp
    simp only [hn]
    rw [if_pos (by simp [Region.wanted, hgd])]
    refine .inl (wp_setat hM i ho hx hy hi hl hc hT h1 fun W hW => ?_)
    rw [hd, hL]
    exact ⟨hSW W hW, hk W hW⟩
end
end Go.Proofs.Ytigfoophimjgdaa
namespace Go.Proofs.Ytigfoophimjgdaa
set_option maxRecDepth 20000
set_option linter.unusedSimpArgs false
set_option linter.unusedVariables false
open Go.RowKit Go.Sort
theorem cellU : CellTy Try.prog 23 := ⟨⟨_, Try.underlying23, rfl⟩, by kernel_rfl⟩
theorem or63 (a : Nat) (h : a < 9223372036854775808) (x y : Operand) (W : World) : (do eqGuard .or 23 x y (.int .u64 (a : Int)) (.int .u64 9223372036854775808); binOp .or 23 (.int .u64 (a : Int)) (.int .u64 9223372036854775808) : Sem Value).run Try.prog W = .ok (.int .u64 ((a + 9223372036854775808 : Nat) : Int)) W := by
  have e : bits .or .u64 (a : Int) 9223372036854775808 = ((a + 9223372036854775808 : Nat) : Int) := by
    have h1 := u64_or_nat a 9223372036854775808 (by omega) (by omega)
    have h2 := Nat.two_pow_add_eq_or_of_lt (i := 63) (b := a) (by omega) 1
    have h3 : a ||| 9223372036854775808 = a + 9223372036854775808 := by
      rw [Nat.or_comm, Nat.add_comm]
      exact h2.symm
    rw [h3] at h1
    exact h1
  go_simp
theorem andnot63 (a : Nat) (h : a < 18446744073709551616) (x y : Operand) (W : World) : (do eqGuard .andNot 23 x y (.int .u64 (a : Int)) (.int .u64 9223372036854775808); binOp .andNot 23 (.int .u64 (a : Int)) (.int .u64 9223372036854775808) : Sem Value).run Try.prog W = .ok (.int .u64 ((a % 9223372036854775808 : Nat) : Int)) W := by
  have e : bits .andNot .u64 (a : Int) 9223372036854775808 = ((a % 9223372036854775808 : Nat) : Int) := by
    have h1 := u64_andNot_nat a 9223372036854775808 (by omega) (by omega)
    have h2 : a &&& 9223372036854775807 = a % 9223372036854775808 := Nat.and_two_pow_sub_one_eq_mod a 63
    rw [show (18446744073709551615 - 9223372036854775808 : Nat) = 9223372036854775807 from rfl, h2] at h1
    exact h1
  go_simp
/-- The highest bit set, and struck. -/
theorem wd_low (n : Nat) (hn : n < PN) : wd n 3 < 9223372036854775808 := by
  have h : n < 9223372036854775808 * B64 ^ 3 := Nat.lt_trans hn (by decide +kernel)
  unfold wd
  exact Nat.lt_of_le_of_lt (Nat.mod_le _ _) (Nat.div_lt_of_lt_mul (by rw [Nat.mul_comm]; exact h))
theorem el_high (n : Nat) (hn : n < PN) : (elR n).setIfInBounds 3 (.int .u64 ((wd n 3 + 9223372036854775808 : Nat) : Int)) = elR (n + 9223372036854775808 * B64 ^ 3) := by
  have hB : 0 < B64 := by decide
  have e0 : wd (n + 9223372036854775808 * B64 ^ 3) 0 = wd n 0 := by
    unfold wd
    rw [Nat.pow_zero, Nat.div_one, Nat.div_one, show 9223372036854775808 * B64 ^ 3 = (9223372036854775808 * B64 ^ 2) * B64 by decide +kernel, Nat.add_mul_mod_self_right]
  have e1 : wd (n + 9223372036854775808 * B64 ^ 3) 1 = wd n 1 := by
    unfold wd
    rw [show 9223372036854775808 * B64 ^ 3 = (9223372036854775808 * B64 * B64) * B64 ^ 1 by decide +kernel, Nat.add_mul_div_right _ _ (by decide), Nat.add_mul_mod_self_right]
  have e2 : wd (n + 9223372036854775808 * B64 ^ 3) 2 = wd n 2 := by
    unfold wd
    rw [show 9223372036854775808 * B64 ^ 3 = (9223372036854775808 * B64) * B64 ^ 2 by decide +kernel, Nat.add_mul_div_right _ _ (by decide +kernel), Nat.add_mul_mod_self_right]
  have e3 : wd (n + 9223372036854775808 * B64 ^ 3) 3 = wd n 3 + 9223372036854775808 := by
    have hl := wd_low n hn
    unfold wd at hl ⊢
    rw [Nat.add_mul_div_right _ _ (by decide +kernel)]
    have hd : n / B64 ^ 3 < 9223372036854775808 := Nat.div_lt_of_lt_mul (by rw [Nat.mul_comm]; exact Nat.lt_trans hn (by decide +kernel))
    rw [Nat.mod_eq_of_lt (Nat.lt_trans hd (by decide))] at hl ⊢
    obtain ⟨q, hq⟩ : ∃ q, n / B64 ^ 3 = q := ⟨_, rfl⟩
    rw [hq] at hd ⊢
    exact Nat.mod_eq_of_lt (by have hB2 : B64 = 18446744073709551616 := rfl; omega)
  unfold elR
  rw [e0, e1, e2, e3]
  rfl
end Go.Proofs.Ytigfoophimjgdaa
namespace Go.Proofs.Ytigfoophimjgdaa
set_option maxRecDepth 20000
set_option linter.unusedSimpArgs false
set_option linter.unusedVariables false
section
variable {α : Type} [Lean.Grind.CommRing α]
theorem neg_of (a : α) (h : a + 1 = 0) : (-1 : α) = a := by grind
theorem zero_form (d y : α) (h : y = 0) : d * (y * y) + 1 = 1 := by grind
theorem on_form (x y d : α) : (y * y - x * x = 1 + d * (x * x) * (y * y)) ↔ (x * x) * (d * (y * y) + 1) = y * y - 1 := ⟨fun h => by grind, fun h => by grind⟩
theorem mul_back (a b c : α) (h : c * b = 1) : a * b * c = a := by grind
theorem sq_two (a b : α) (h : a * a = b * b) : (a - b) * (a + b) = 0 := by grind
theorem sub_is (a b : α) (h : a - b = 0) : a = b := by grind
theorem add_is (a b : α) (h : a + b = 0) : a = -b := by grind
theorem neg_neg' (a b : α) (h : a = -b) : -a = b := by grind
end
theorem under_ne (y : Fp) : dF * (y * y) + 1 ≠ 0 := fun h => by
  have h1 : iF * iF = dF * (y * y) := by rw [i_sqF]; exact neg_of _ h
  have h2 := d_nsq iF y h1
  rw [zero_form dF y h2] at h
  exact absurd h (by decide +kernel)
theorem sqR_fz (Y : Nat) : fz (sqR Y) * (dF * (fz Y * fz Y) + 1) = fz Y * fz Y - 1 := by
  have hu : fz ((dN * (Y * Y % PN) % PN + 1) % PN) = dF * (fz Y * fz Y) + 1 := by
    rw [fz_mod, fz_add, fz_mod, fz_mul, fz_mod, fz_mul, fz_one]
  have hn : fz ((Y * Y % PN + PN - 1) % PN) = fz Y * fz Y - 1 := by
    rw [fz_mod, fz_sub _ _ (Nat.le_of_lt one_below), fz_mod, fz_mul, fz_one]
  unfold sqR
  rw [fz_mod, fz_mul, iv_fz _ (Nat.mod_lt _ PN_pos), hu, hn]
  exact mul_back _ _ _ (inv_ok _ (under_ne _))
theorem root_on (Y : Nat) (h : okN iV (sqR Y) = true) : On (fz (rootN iV (sqR Y)), fz Y) := by
  have h1 := (root_sq (sqR Y) h).1
  obtain ⟨r, hr⟩ : ∃ r, rootN iV (sqR Y) = r := ⟨_, rfl⟩
  rw [hr] at h1 ⊢
  refine (on_form _ _ _).2 ?_
  show fz r * fz r * _ = _
  rw [← fz_mul, ← fz_mod, h1]
  exact sqR_fz Y
theorem on_root (p : Pt) (hp : On p) : okN iV (sqR p.2.val) = true ∧ (fz (rootN iV (sqR p.2.val)) = p.1 ∨ fz (rootN iV (sqR p.2.val)) = -p.1) := by
  have h1 := (on_form p.1 p.2 dF).1 hp
  have h2 := sqR_fz p.2.val
  rw [fz_of] at h2
  have h3 : fz (sqR p.2.val) = p.1 * p.1 := fp_cancel _ _ _ (under_ne p.2) (h2.trans h1.symm)
  have h4 : sqR p.2.val = p.1.val * p.1.val % PN := by
    refine fz_inj (sqR_lt _) (Nat.mod_lt _ PN_pos) ?_
    rw [h3, fz_mod, fz_mul, fz_of]
  have h5 : okN iV (sqR p.2.val) = true := by rw [h4]; exact square_ok _
  refine ⟨h5, ?_⟩
  have h6 := (root_sq (sqR p.2.val) h5).1
  obtain ⟨r, hr⟩ : ∃ r, rootN iV (sqR p.2.val) = r := ⟨_, rfl⟩
  rw [hr] at h6 ⊢
  have h7 : fz r * fz r = p.1 * p.1 := by rw [← fz_mul, ← fz_mod, h6, h3]
  rcases fp_dom _ _ (sq_two _ _ h7) with h | h
  · exact .inl (sub_is _ _ h)
  · exact .inr (add_is _ _ h)
/-- The x of a point is its y's root, or what is left of p. -/
theorem signed (p : Pt) (hp : On p) : (p.1.val % 2 = 1 → -(fz (rootN iV (sqR p.2.val))) = p.1 ∧ rootN iV (sqR p.2.val) ≠ 0) ∧ (p.1.val % 2 = 0 → fz (rootN iV (sqR p.2.val)) = p.1) := by
  obtain ⟨hk, hs⟩ := on_root p hp
  have hev := (root_sq (sqR p.2.val) hk).2
  have hlt := rootN_below (sqR p.2.val)
  obtain ⟨r, hr⟩ : ∃ r, rootN iV (sqR p.2.val) = r := ⟨_, rfl⟩
  rw [hr] at hs hev hlt ⊢
  clear hr hk
  have hx := p.1.isLt
  have hfx := fz_of p.1
  have hodd := PN_odd
  obtain ⟨x, ex⟩ : ∃ x, p.1.val = x := ⟨_, rfl⟩
  rw [ex] at hx hfx ⊢
  rw [← hfx] at hs ⊢
  have hn := fz_negm x hx
  rcases hs with h | h
  · have e := fz_inj hlt hx h
    subst e
    exact ⟨fun h1 => by omega, fun _ => rfl⟩
  · rw [← hn] at h
    have e := fz_inj hlt (Nat.mod_lt _ PN_pos) h
    have hcases : (x = 0 ∧ r = 0) ∨ (x ≠ 0 ∧ r = PN - x) := by
      by_cases h0 : x = 0
      · left
        refine ⟨h0, ?_⟩
        rw [e, h0, Nat.zero_add, Nat.sub_zero, Nat.mod_self]
      · right
        refine ⟨h0, ?_⟩
        rw [e, Nat.zero_add]
        exact Nat.mod_eq_of_lt (by omega)
    rcases hcases with ⟨h0, h1⟩ | ⟨h0, h1⟩
    · subst h0 h1
      exact ⟨fun h2 => by omega, fun _ => rfl⟩
    · refine ⟨fun h2 => ⟨?_, by omega⟩, fun h2 => by omega⟩
      exact neg_neg' _ _ (by rw [h, hn])
/-- A number's highest bit, and the others. -/
def decY (N : Nat) : Nat := N % (9223372036854775808 * B64 ^ 3)
def decB (N : Nat) : Bool := decide (bitN N 255 = 1)
def encN (x n : Nat) : Nat := if x % 2 = 1 then n + 9223372036854775808 * B64 ^ 3 else n
def HB : Nat := 57896044618658097711785492504343953926634992332820282019728792003956564819968
theorem HB_is : 9223372036854775808 * B64 ^ 3 = HB ∧ 2 ^ 255 = HB ∧ B64 ^ 4 = 2 * HB ∧ PN < HB := by decide +kernel
theorem decY_lt (N : Nat) : decY N < HB := by unfold decY; rw [HB_is.1]; exact Nat.mod_lt _ (by decide +kernel)
theorem two_parts (N : Nat) (h : N < B64 ^ 4) : N = decY N + (if decB N = true then HB else 0) := by
  unfold decY decB bitN
  rw [HB_is.1, HB_is.2.1]
  rw [HB_is.2.2.1] at h
  have hp : 0 < HB := by decide +kernel
  obtain ⟨H, hH⟩ : ∃ H, HB = H := ⟨_, rfl⟩
  rw [hH] at h hp ⊢
  have h1 := Nat.div_add_mod N H
  have h2 : N / H < 2 := Nat.div_lt_of_lt_mul (by omega)
  have h3 : N / H = 0 ∨ N / H = 1 := by
    generalize N / H = q at h2
    omega
  rcases h3 with h3 | h3
  · rw [h3] at h1 ⊢
    simp
    omega
  · rw [h3] at h1 ⊢
    simp
    omega
theorem enc_dec (x n : Nat) (hn : n < PN) : decY (encN x n) = n ∧ decB (encN x n) = decide (x % 2 = 1) ∧ encN x n < B64 ^ 4 := by
  unfold decY decB bitN encN
  rw [HB_is.1, HB_is.2.1, HB_is.2.2.1]
  have hn2 : n < HB := Nat.lt_trans hn HB_is.2.2.2
  obtain ⟨H, hH⟩ : ∃ H, HB = H := ⟨_, rfl⟩
  rw [hH] at hn2 ⊢
  have hp : 0 < H := by omega
  by_cases h : x % 2 = 1
  · rw [if_pos h, decide_eq_true h]
    have h1 : (n + H) / H = 1 := by rw [Nat.add_div_right _ hp, Nat.div_eq_of_lt hn2]
    have h2 : (n + H) % H = n := by rw [Nat.add_mod_right, Nat.mod_eq_of_lt hn2]
    rw [h1, h2]
    exact ⟨rfl, rfl, by omega⟩
  · rw [if_neg h, decide_eq_false h]
    rw [Nat.div_eq_of_lt hn2, Nat.mod_eq_of_lt hn2]
    exact ⟨rfl, rfl, by omega⟩
/-- What Decode comes to: the error, the point. -/
def decE (N : Nat) : Nat := if decY N < PN then (if okN iV (sqR (decY N)) = true then (if decB N = true ∧ rootN iV (sqR (decY N)) = 0 then 22 else 0) else 22) else 2
def decX (N : Nat) : Nat := if decB N = true then (0 + PN - rootN iV (sqR (decY N))) % PN else rootN iV (sqR (decY N))
def decP (N : Nat) : Pt := if decE N = 0 then (fz (decX N), fz (decY N)) else zeroE
theorem decE_zero (N : Nat) (h : decE N = 0) : decY N < PN ∧ okN iV (sqR (decY N)) = true ∧ ¬ (decB N = true ∧ rootN iV (sqR (decY N)) = 0) := by
  unfold decE at h
  split at h
  · rename_i h1
    split at h
    · rename_i h2
      split at h
      · cases h
      · rename_i h3
        exact ⟨h1, h2, h3⟩
    · cases h
  · cases h
theorem decX_lt (N : Nat) : decX N < PN := by
  unfold decX
  split
  · exact Nat.mod_lt _ PN_pos
  · exact rootN_below _
theorem decP_on (N : Nat) : On (decP N) := by
  unfold decP
  split
  · rename_i h
    obtain ⟨h1, h2, h3⟩ := decE_zero N h
    have ho := root_on _ h2
    have hrl := rootN_below (sqR (decY N))
    unfold decX
    obtain ⟨r, hr⟩ : ∃ r, rootN iV (sqR (decY N)) = r := ⟨_, rfl⟩
    obtain ⟨y, hy⟩ : ∃ y, decY N = y := ⟨_, rfl⟩
    rw [hr] at ho hrl ⊢
    rw [hy] at ho ⊢
    split
    · rw [fz_negm r hrl]
      exact on_neg (fz r, fz y) ho
    · exact ho
  · exact on_zero
theorem dec_enc (p : Pt) (hp : On p) : decE (encN p.1.val p.2.val) = 0 ∧ decP (encN p.1.val p.2.val) = p := by
  obtain ⟨e1, e2, _⟩ := enc_dec p.1.val p.2.val p.2.isLt
  obtain ⟨s1, s2⟩ := signed p hp
  have hk := (on_root p hp).1
  have h0 : decE (encN p.1.val p.2.val) = 0 := by
    unfold decE
    rw [e1, e2, if_pos p.2.isLt, if_pos hk, if_neg]
    rintro ⟨h1, h2⟩
    exact (s1 (of_decide_eq_true h1)).2 h2
  refine ⟨h0, ?_⟩
  unfold decP decX
  rw [if_pos h0, e1, e2, fz_of]
  by_cases h : p.1.val % 2 = 1
  · rw [decide_eq_true h, if_pos rfl, fz_negm _ (rootN_below _), (s1 h).1]
  · rw [decide_eq_false h, if_neg (by decide), s2 (by omega)]
theorem enc_of_dec (N : Nat) (hN : N < B64 ^ 4) (h : decE N = 0) : encN (decP N).1.val (decP N).2.val = N := by
  obtain ⟨h1, h2, h3⟩ := decE_zero N h
  have hw := two_parts N hN
  have hlt := decX_lt N
  have hev := (root_sq _ h2).2
  have hrl := rootN_below (sqR (decY N))
  have ho := PN_odd
  unfold decP
  rw [if_pos h]
  show encN ((decX N) % PN) ((decY N) % PN) = N
  rw [Nat.mod_eq_of_lt hlt, Nat.mod_eq_of_lt h1]
  unfold encN
  rw [HB_is.1]
  have hx : decX N % 2 = 1 ↔ decB N = true := by
    unfold decX
    obtain ⟨r, hr⟩ : ∃ r, rootN iV (sqR (decY N)) = r := ⟨_, rfl⟩
    rw [hr] at h3 hev hrl ⊢
    cases hb : decB N
    · rw [if_neg (by decide)]
      exact ⟨fun h => by omega, fun h => by cases h⟩
    · rw [if_pos rfl]
      have hr0 : r ≠ 0 := fun e => h3 ⟨hb, e⟩
      rw [Nat.zero_add, Nat.mod_eq_of_lt (show PN - r < PN by omega)]
      exact ⟨fun _ => rfl, fun _ => by omega⟩
  by_cases hb : decB N = true
  · rw [if_pos (hx.2 hb)]
    rw [if_pos hb] at hw
    exact hw.symm
  · rw [if_neg (fun h => hb (hx.1 h))]
    rw [if_neg hb] at hw
    exact hw.symm
end Go.Proofs.Ytigfoophimjgdaa
namespace Go.Proofs.Ytigfoophimjgdaa
set_option maxRecDepth 20000
set_option linter.unusedSimpArgs false
set_option linter.unusedVariables false
open Go.RowKit Go.Sort
theorem rowWn : RowTy Try.prog 25 4 := ⟨.inr ⟨_, _, Try.underlying25⟩, by kernel_rfl⟩
theorem bx_Wn (a : Nat) (W : World) : (Instr.box 25 (numV a)).run Try.prog W = .ok (.pointer (some ⟨W.heap.size, 0, none⟩)) (W.alloc (.cells (elR a) 25 (0, 0))) := by
  unfold numV elR
  go_simp
theorem ix_Wn3 (b : Nat) (W : World) : (Instr.indexAt 25 (.pointer (some ⟨b, 0, none⟩)) (.int .i64 3)).run Try.prog W = .ok (.pointer (some ⟨b, 3, none⟩)) W := by
  go_simp
set_option maxRecDepth 20000 in
set_option maxHeartbeats 8000000 in
theorem enc1_any (x n g : Nat) (w : World) (hn : n < PN) (hg : w.heap[g]? = some (.cells (elR x) 27 (0, 0))) : Calls Try.prog 47 #[numV n, .pointer (some ⟨g, 0, none⟩)] w fun E w' => E = .returned (.string ⟨(byL (encN x n)).toArray⟩) ∧ Below w.heap.size w w' := by
  have HMIX := Lib.hid (show Try.prog.follows .mixedOrders = true by kernel_rfl)
  go_enter Try.func47, Try.ntmps47
  have hM0 := Mem.start w
  (go_step; go_step; refine wp_region_lit ?_)
  refine wl_new hM0 (f := fun b => .pointer (some ⟨b, 0, none⟩)) (ob := .cells (elR n) 25 (0, 0)) (fun W => run_box_of rfl rfl (bx_Wn n W)) rfl fun b1 W1 hM1 => ?_
  simp only [Act.put, List.setIfInBounds_toArray, List.set_cons_zero, List.set_cons_succ]
  refine wl_pure (v := .string ⟨#[]⟩) (fun _ => rfl) rfl ?_
  simp only [Act.put, List.setIfInBounds_toArray, List.set_cons_zero, List.set_cons_succ]
  refine wpList_nil ?_
  (go_step; go_step; go_step; go_step; refine wp_region_lit ?_)
  refine wl_far (hM1.old hg) (v := numV x) (sub := elR x) rfl rfl rfl rfl rowEl rfl ?_
  simp only [Act.put, List.setIfInBounds_toArray, List.set_cons_zero, List.set_cons_succ]
  obtain ⟨c1, hc1⟩ : ∃ y, y = decide (x % 2 = 1) := ⟨_, rfl⟩
  have KO := fun W => podd_any x W
  simp only [← hc1] at KO
  refine wl_call hM1 (args := #[numV x]) (v := .bool c1) (fun W => run_call_fn W (enters_of Try.func48 rfl rfl) rfl (by simp [Act.eval])) (KO W1) rfl fun W2 hM2 => ?_
  simp only [Act.put, List.setIfInBounds_toArray, List.set_cons_zero, List.set_cons_succ]
  refine wpList_nil ?_
  cases c1
  · skip
    (go_step; go_step; go_step; go_step; go_step; go_step; go_step; refine wp_region_lit ?_)
    refine wl_row hM2 0 (v := numV n) rfl rfl rfl rfl rowWn rfl ?_
    simp only [Act.put, List.setIfInBounds_toArray, List.set_cons_zero, List.set_cons_succ]
    refine wl_call hM2 (args := #[numV n]) (v := .string ⟨(byL n).toArray⟩) (fun W => run_call_fn W (enters_of Try.func49 rfl rfl) rfl (by simp [Act.eval])) (bytes_any n W2) rfl fun W3 hM3 => ?_
    simp only [Act.put, List.setIfInBounds_toArray, List.set_cons_zero, List.set_cons_succ]
    refine wl_pure (v := .string ⟨(byL n).toArray⟩) (fun _ => rfl) rfl ?_
    simp only [Act.put, List.setIfInBounds_toArray, List.set_cons_zero, List.set_cons_succ]
    refine wpList_nil ?_
    (go_step; go_step; go_step; refine bodyPost_ret (v := .string ⟨(byL n).toArray⟩) (results_slot Try.results47 rfl) rfl ⟨?_, hM3.below⟩)
    exact by
        have h1 := of_decide_eq_false hc1.symm
        unfold encN
        rw [if_neg h1]
  · skip
    (go_step; go_step; go_step; refine wp_region_lit ?_)
    refine wl_pure (v := .pointer (some ⟨b1, 3, none⟩)) (fun W => run_index_of rfl rfl rfl (ix_Wn3 b1 W)) rfl ?_
    simp only [Act.put, List.setIfInBounds_toArray, List.set_cons_zero, List.set_cons_succ]
    refine wl_cell hM2 0 (v := .int .u64 (wd n 3 : Int)) rfl rfl rfl rfl cellU rfl ?_
    simp only [Act.put, List.setIfInBounds_toArray, List.set_cons_zero, List.set_cons_succ]
    refine wl_pure (v := .int .u64 (((wd n 3) + 9223372036854775808 : Nat) : Int)) (fun W => run_bin_of rfl rfl rfl (or63 (wd n 3) (wd_low n hn) _ _ W)) rfl ?_
    simp only [Act.put, List.setIfInBounds_toArray, List.set_cons_zero, List.set_cons_succ]
    refine wl_pure (v := .pointer (some ⟨b1, 3, none⟩)) (fun W => run_index_of rfl rfl rfl (ix_Wn3 b1 W)) rfl ?_
    simp only [Act.put, List.setIfInBounds_toArray, List.set_cons_zero, List.set_cons_succ]
    refine wl_setat hM2 0 (cs' := (elR (n + 9223372036854775808 * B64 ^ 3))) rfl rfl rfl rfl (by show 3 < 4; decide) (el_high n hn) cellU rfl rfl rfl fun W3 hM3 => ?_
    simp only [List.set_cons_zero, List.set_cons_succ] at hM3
    refine wpList_nil ?_
    (go_step; go_step; go_step; refine wp_region_lit ?_)
    refine wl_row hM3 0 (v := numV (n + 9223372036854775808 * B64 ^ 3)) rfl rfl rfl rfl rowWn rfl ?_
    simp only [Act.put, List.setIfInBounds_toArray, List.set_cons_zero, List.set_cons_succ]
    refine wl_call hM3 (args := #[numV (n + 9223372036854775808 * B64 ^ 3)]) (v := .string ⟨(byL (n + 9223372036854775808 * B64 ^ 3)).toArray⟩) (fun W => run_call_fn W (enters_of Try.func49 rfl rfl) rfl (by simp [Act.eval])) (bytes_any (n + 9223372036854775808 * B64 ^ 3) W3) rfl fun W4 hM4 => ?_
    simp only [Act.put, List.setIfInBounds_toArray, List.set_cons_zero, List.set_cons_succ]
    refine wl_pure (v := .string ⟨(byL (n + 9223372036854775808 * B64 ^ 3)).toArray⟩) (fun _ => rfl) rfl ?_
    simp only [Act.put, List.setIfInBounds_toArray, List.set_cons_zero, List.set_cons_succ]
    refine wpList_nil ?_
    (go_step; go_step; go_step; refine bodyPost_ret (v := .string ⟨(byL (n + 9223372036854775808 * B64 ^ 3)).toArray⟩) (results_slot Try.results47 rfl) rfl ⟨?_, hM4.below⟩)
    exact by
        have h1 := of_decide_eq_true hc1.symm
        unfold encN
        rw [if_pos h1]
set_option maxRecDepth 20000 in
set_option maxHeartbeats 8000000 in
theorem encode_any {a : N4} {p : Pt} (ha : Ok4 a p) (w : World) : Calls Try.prog 12 #[pv4 a] w fun E w' => E = .returned (.string ⟨(byL (encN p.1.val p.2.val)).toArray⟩) ∧ Below w.heap.size w w' := by
  have HMIX := Lib.hid (show Try.prog.follows .mixedOrders = true by kernel_rfl)
  go_enter Try.func12, Try.ntmps12
  have hM0 := Mem.start w
  (go_step; go_step; refine wp_region_lit ?_)
  refine wl_new hM0 (f := fun b => .pointer (some ⟨b, 0, none⟩)) (ob := .cells ((pc4 a)) 30 (0, 0)) (fun W => run_box_of rfl rfl (bx_P4 _ W)) rfl fun b1 W1 hM1 => ?_
  simp only [Act.put, List.setIfInBounds_toArray, List.set_cons_zero, List.set_cons_succ]
  refine wl_pure (v := .string ⟨#[]⟩) (fun _ => rfl) rfl ?_
  simp only [Act.put, List.setIfInBounds_toArray, List.set_cons_zero, List.set_cons_succ]
  refine wpList_nil ?_
  (go_step; go_step; go_step; refine wp_region_lit ?_)
  refine wl_row hM1 0 (v := pv4 a) rfl rfl rfl rfl rowPt rfl ?_
  simp only [Act.put, List.setIfInBounds_toArray, List.set_cons_zero, List.set_cons_succ]
  obtain ⟨v1, ev1⟩ : ∃ x, x = p.1.val := ⟨_, rfl⟩
  have pv1 : v1 < PN := by rw [ev1]; exact Fin.isLt _
  obtain ⟨v2, ev2⟩ : ∃ x, x = p.2.val := ⟨_, rfl⟩
  have pv2 : v2 < PN := by rw [ev2]; exact Fin.isLt _
  have KX14 := Lib.hid (fun W => xyp4 ha W)
  simp only [← ev1, ← ev2] at KX14
  refine wl_call hM1 (args := #[pv4 a]) (v := .tuple #[numV v1, numV v2]) (fun W => run_call_fn W (enters_of Try.func46 rfl rfl) rfl (by simp [Act.eval])) (KX14.out W1) rfl fun W2 hM2 => ?_
  simp only [Act.put, List.setIfInBounds_toArray, List.set_cons_zero, List.set_cons_succ]
  refine wl_pure (v := .tuple #[numV v1, numV v2]) (fun _ => rfl) rfl ?_
  simp only [Act.put, List.setIfInBounds_toArray, List.set_cons_zero, List.set_cons_succ]
  refine wl_pure (v := numV v1) (fun _ => rfl) rfl ?_
  simp only [Act.put, List.setIfInBounds_toArray, List.set_cons_zero, List.set_cons_succ]
  refine wl_pure (v := numV v2) (fun _ => rfl) rfl ?_
  simp only [Act.put, List.setIfInBounds_toArray, List.set_cons_zero, List.set_cons_succ]
  refine wl_new hM2 (f := fun b => .pointer (some ⟨b, 0, none⟩)) (ob := .cells z4 27 (0, 0)) (fun W => run_alloc_of rfl (al_El W)) rfl fun b2 W3 hM3 => ?_
  simp only [Act.put, List.setIfInBounds_toArray, List.set_cons_zero, List.set_cons_succ]
  refine wl_new hM3 (f := fun b => .pointer (some ⟨b, 0, none⟩)) (ob := .cells z4 27 (0, 0)) (fun W => run_alloc_of rfl (al_El W)) rfl fun b3 W4 hM4 => ?_
  simp only [Act.put, List.setIfInBounds_toArray, List.set_cons_zero, List.set_cons_succ]
  refine wl_set hM4 1 (cs := (elR v1)) rfl rfl rfl rfl rowEl rfl (one_el v1) rfl rfl fun W5 hM5 => ?_
  simp only [List.set_cons_zero, List.set_cons_succ] at hM5
  refine wl_set hM5 0 (cs := (elR v2)) rfl rfl rfl rfl rowEl rfl (one_el v2) rfl rfl fun W6 hM6 => ?_
  simp only [List.set_cons_zero, List.set_cons_succ] at hM6
  refine wpList_nil ?_
  (go_step; go_step; go_step; refine wp_region_lit ?_)
  refine wl_pure (v := .func (.func 47) #[] #[.pointer (some ⟨b2, 0, none⟩)]) (fun W => run_makeFunc_of rfl (by simp [Instr.makeFunc, Act.eval])) rfl ?_
  simp only [Act.put, List.setIfInBounds_toArray, List.set_cons_zero, List.set_cons_succ]
  refine wl_pure (v := .func (.func 47) #[] #[.pointer (some ⟨b2, 0, none⟩)]) (fun _ => rfl) rfl ?_
  simp only [Act.put, List.setIfInBounds_toArray, List.set_cons_zero, List.set_cons_succ]
  refine wpList_nil ?_
  (go_step; go_step; go_step; refine wp_region_lit ?_)
  refine wl_pure (v := .func (.func 47) #[] #[.pointer (some ⟨b2, 0, none⟩)]) (fun _ => rfl) rfl ?_
  simp only [Act.put, List.setIfInBounds_toArray, List.set_cons_zero, List.set_cons_succ]
  refine wl_row hM6 0 (v := numV v2) rfl rfl rfl rfl rowEl rfl ?_
  simp only [Act.put, List.setIfInBounds_toArray, List.set_cons_zero, List.set_cons_succ]
  refine wl_call hM6 (args := #[numV v2]) (v := numV v2) (fun W => run_call_fn W (enters_of Try.func50 rfl rfl) rfl (by simp [Act.eval])) (pnum_any v2 W6) rfl fun W7 hM7 => ?_
  simp only [Act.put, List.setIfInBounds_toArray, List.set_cons_zero, List.set_cons_succ]
  refine wl_call hM7 (args := #[numV v2, .pointer (some ⟨b2, 0, none⟩)]) (v := .string ⟨(byL (encN v1 v2)).toArray⟩) (fun W => run_call_dyn W (enters_of Try.func47 rfl rfl) rfl rfl (by simp [Act.eval]; rfl) rfl) (enc1_any v1 v2 b2 W7 pv2 (hM7.get 1 rfl)) rfl fun W8 hM8 => ?_
  simp only [Act.put, List.setIfInBounds_toArray, List.set_cons_zero, List.set_cons_succ]
  refine wl_pure (v := .string ⟨(byL (encN v1 v2)).toArray⟩) (fun _ => rfl) rfl ?_
  simp only [Act.put, List.setIfInBounds_toArray, List.set_cons_zero, List.set_cons_succ]
  refine wpList_nil ?_
  (go_step; go_step; go_step; refine bodyPost_ret (v := .string ⟨(byL (encN v1 v2)).toArray⟩) (results_slot Try.results12 rfl) rfl ⟨?_, hM8.below⟩)
  exact by rw [ev1, ev2]
end Go.Proofs.Ytigfoophimjgdaa
namespace Go.Proofs.Ytigfoophimjgdaa
set_option maxRecDepth 20000
set_option linter.unusedSimpArgs false
set_option linter.unusedVariables false
open Go.RowKit
theorem Try.info_u8 : (Try.prog.info? 5).map (fun i => (i.zero, i.size, i.bytes)) = some (some (.int .u8 0), 1, 1) := by kernel_rfl
theorem bc_mod (z : Int) : bc (ofI (z % 256)) = .int .u8 (z % 256) := bc_ofI _ (by omega) (by omega)
def dk (x : Int) (k : Nat) : Int := x / ((256 ^ k : Nat) : Int)
theorem dk_zero (x : Int) : dk x 0 = x := by simp [dk]
theorem dk_succ (x : Int) (k : Nat) : dk x k / 256 = dk x (k + 1) := by
  unfold dk
  rw [Nat.pow_succ, Int.natCast_mul, ← Int.ediv_ediv_of_nonneg (Int.natCast_nonneg _)]; rfl
theorem dk_bd (x : Int) (k : Nat) (x0 : 0 ≤ x) (x1 : x < 18446744073709551616) : 0 ≤ dk x k ∧ dk x k < 18446744073709551616 := by
  induction k with
  | zero => rw [dk_zero]; exact ⟨x0, x1⟩
  | succ k ih => rw [← dk_succ x k]; omega
/-- A number's lowest bytes, the highest one first. -/
def putR (x : Int) : Nat → List UInt8
  | 0 => []
  | k + 1 => ofI (dk x k % 256) :: putR x k
theorem putR_length (x : Int) : ∀ k, (putR x k).length = k
  | 0 => rfl
  | k + 1 => by simp [putR, putR_length x k]
theorem rput_any (x : Int) (n : Nat) (w : World) (x0 : 0 ≤ x) (x1 : x < 18446744073709551616) (hn : n ≤ 1000) :
    Calls Try.prog 94 #[.int .u64 x, .int .i64 n] w fun e w' => e = .returned (.string ⟨(putR x n).toArray⟩) ∧ Below w.heap.size w w' := by
  obtain ⟨i0, hi, hz0, hz1, hz2⟩ := info_parts Try.info_u8
  go_enter Try.func94, Try.ntmps94
  go_wp2_with fail
  go_loopw [0, 5, 6] (fun y v i wr => ∃ k : Nat, k ≤ n ∧ i = .int .i64 k ∧ y = .int .u64 (dk x k) ∧ wr.ownsRow w.heap.size 5 1 v k ((putR x k).map bc) ∧ Below w.heap.size w wr) (fun _ _ i _ => n - (intOf i).toNat)
  case atStart => exact ⟨0, by omega, rfl, by rw [dk_zero], World.ownsRow_nil _ _ _ _, Below.refl _ _⟩
  case round =>
    obtain ⟨k, hk, rfl, rfl, hown, hb⟩ := hrel
    by_cases hlt : k < n
    · obtain ⟨d0, d1⟩ := dk_bd x k x0 x1
      have DS := Lib.hid (dk_succ x k)
      have hlit := World.ownsRow_lit (base := w.heap.size) (e := 5) (size := 1) wr #[.int .u8 (dk x k % 256)] 1 (by exact hb.size) (by decide) rfl
      have hsz := hb.size
      rcases hown with ⟨hl, ⟨rfl, hk0⟩ | ⟨g, cap, cur, rfl, hg, hh, r1, r2, r3, r4⟩⟩
      · subst hk0
        have HL := Lib.hid hlit
        clear hlit
        go_wp2_with fail
        go_roundw
        case rel =>
          refine ⟨1, by omega, rfl, congrArg (Value.int .u64) DS.out, ?_, hb.alloc hb.size _⟩
          have e : (putR x 1).map bc = [Value.int .u8 (dk x 0 % 256)] := by
            show [bc (ofI (dk x 0 % 256))] = _
            rw [bc_mod]
          rw [e]; exact HL.out
        case measure => simp [intOf]; omega
      · have hrow : wr.ownsRow w.heap.size 5 1 (.slice (some ⟨g, 0, none⟩) k cap) k ((putR x k).map bc) := ⟨hl, .inr ⟨g, cap, cur, rfl, hg, hh, r1, r2, r3, r4⟩⟩
        have hnews := (hrow.alloc (.cells #[.int .u8 (dk x k % 256)] 5)).cells rfl
        have HN := Lib.hid hnews
        have HL := Lib.hid hlit
        have Hl := Lib.hid hl
        clear hnews hlit hh r2 r3 r4 hl
        go_wp2_with (at_builtin; refine wpList_append_own _ (by rfl) (.tmp 15) (.tmp 16) 94 (by rfl) w.heap.size 5 i0 (.int .u8 0) 1 1 Try.underlying94 hi hz0 hz1 hz2 rfl (by decide) _ 1 _ (by simp [Act.eval]; rfl) (by exact HL.out) ⟨g, 0, none⟩ k cap ((putR x k).map bc) (by simp [Act.eval]) (by exact Hl.out) (by exact HN.out) (by simp [bc, Value.oneCell']) (by unfold maxLen; omega) (by omega) (by have := hb.size; simp; omega) ?_; intro v2 w2 hown2 hgrow2 _)
        go_roundw
        case rel =>
          refine ⟨k + 1, by omega, by go_num, congrArg (Value.int .u64) DS.out, ?_, (hb.alloc hb.size _).grown hgrow2 (by have := hb.size; simp; omega) (fun j hj => by simp [Value.ownBlock] at hj; omega)⟩
          rw [show k + 1 = 1 + k from by omega]
          have e : (putR x (1 + k)).map bc = [Value.int .u8 (dk x k % 256)] ++ (putR x k).map bc := by
            rw [Nat.add_comm]
            show bc (ofI (dk x k % 256)) :: _ = _
            rw [bc_mod]; rfl
          rw [e]; exact hown2
        case measure => simp [intOf]; omega
    · obtain rfl : k = n := by omega
      have ks := own_string (P := Try.prog) (t := 94) (ty := 9) Try.underlying94 Try.underlying5 Try.underlying9 hown
      go_wp2_with fail
      go_ret
      exact ⟨rfl, hb⟩
theorem rturn_any (s : ByteArray) (w : World) (hs : s.size ≤ 100000) :
    Calls Try.prog 93 #[.string s] w fun e w' => e = .returned (.string ⟨s.data.toList.reverse.toArray⟩) ∧ Below w.heap.size w w' := by
  obtain ⟨i0, hi, hz0, hz1, hz2⟩ := info_parts Try.info_u8
  have hlen : Hid (s.data.toList.length = s.size) := Array.length_toList
  go_enter Try.func93, Try.ntmps93
  go_wp2_with fail
  go_loopw [3, 4] (fun v i wr => ∃ k : Nat, k ≤ s.size ∧ i = .int .i64 ((k : Int) - 1) ∧ wr.ownsRow w.heap.size 5 1 v (s.size - k) ((s.data.toList.drop k).reverse.map bc) ∧ Below w.heap.size w wr) (fun _ i _ => (intOf i + 1).toNat)
  case atStart => exact ⟨s.size, by omega, rfl, by rw [List.drop_of_length_le (by have := hlen.out; omega), Nat.sub_self]; exact World.ownsRow_nil _ _ _ _, Below.refl _ _⟩
  case round =>
    obtain ⟨k, hk, rfl, hown, hb⟩ := hrel
    have hsz := hb.size
    by_cases hlt : 0 < k
    · obtain ⟨j, rfl⟩ : ∃ j, k = j + 1 := ⟨k - 1, by omega⟩
      have c1 : (((j + 1 : Nat) : Int) - 1) = (j : Int) := by omega
      rw [c1]
      have hj : j < s.size := by omega
      have hji : (j : Int) < (s.size : Int) := by omega
      have c2 : IntKind.i64.wrap ((j : Int) - 1) = (j : Int) - 1 := IntWalk.i64_in _ (by omega)
      have HD : Hid (s.data.toList.drop j = s[j] :: s.data.toList.drop (j + 1)) := List.drop_eq_getElem_cons (by have := hlen.out; omega)
      have HO := Lib.hid hown
      clear hown c1
      go_wp2_with (at_builtin; refine wpList_append_own _ (by rfl) (.tmp 12) (.tmp 16) 94 (by rfl) w.heap.size 5 i0 (.int .u8 0) 1 1 Try.underlying94 hi hz0 hz1 hz2 rfl (by decide) _ (s.size - (j + 1)) _ (by simp [Act.eval]; rfl) (by exact HO.out.alloc _) ⟨wr.heap.size, 0, none⟩ 1 1 [bc s[j]] (by simp [Act.eval]) rfl (by exact news_new wr #[_] _) (by simp [bc, Value.oneCell']) (by unfold maxLen; omega) (by omega) (by simp; omega) ?_; intro v2 w2 hown2 hgrow2 _)
      go_roundw
      case rel =>
        refine ⟨j, by omega, rfl, ?_, (hb.alloc hb.size _).grown hgrow2 (by simp; omega) (fun i hi => (HO.out.lt i hi).1)⟩
        rw [HD.out, List.reverse_cons, List.map_append, show s.size - j = s.size - (j + 1) + 1 from by omega]
        exact hown2
      case measure => simp [intOf]
    · obtain rfl : k = 0 := by omega
      rw [List.drop_zero] at hown
      have ks := own_string (P := Try.prog) (t := 94) (ty := 9) Try.underlying94 Try.underlying5 Try.underlying9 hown
      go_wp2_with fail
      go_ret
      exact ⟨rfl, hb⟩
end Go.Proofs.Ytigfoophimjgdaa
namespace Go.Proofs.Ytigfoophimjgdaa
set_option maxRecDepth 20000
set_option linter.unusedSimpArgs false
set_option linter.unusedVariables false
open Go.RowKit
theorem byW_eq (m : Nat) : (putR (m : Int) 8).reverse = (List.range 8).map fun j => UInt8.ofNat (m / 256 ^ j % 256) := by
  have h : ∀ k, ofI (dk (m : Int) k % 256) = UInt8.ofNat (m / 256 ^ k % 256) := fun k => by
    unfold ofI dk
    rw [← Int.natCast_ediv]
    congr 1
  simp only [putR, h]
  rfl
theorem byte_wd (n i j : Nat) (hj : j < 8) : wd n i / 256 ^ j % 256 = n / 256 ^ (8 * i + j) % 256 := by
  have h := wd_byte n (8 * i + j)
  rw [show (8 * i + j) / 8 = i by omega, show (8 * i + j) % 8 = j by omega, Nat.pow_mul] at h
  exact h
theorem byW_wd (n i : Nat) : (putR (wd n i : Int) 8).reverse = (List.range 8).map fun j => UInt8.ofNat (n / 256 ^ (8 * i + j) % 256) := by
  rw [byW_eq]
  refine List.map_congr_left fun j hj => ?_
  rw [byte_wd n i j (List.mem_range.1 hj)]
theorem byL_parts (n : Nat) : (List.range 4).flatMap (fun i => (putR (wd n i : Int) 8).reverse) = byL n := by
  simp only [byW_wd]
  rfl
set_option maxHeartbeats 1000000 in
theorem rbytes_any (n : Nat) (w : World) :
    Calls Try.prog 58 #[numV n] w fun e w' => e = .returned (.string ⟨(byL n).toArray⟩) ∧ Below w.heap.size w w' := by
  rw [show numV n = .agg #[.int .u64 (wd n 0 : Int), .int .u64 (wd n 1 : Int), .int .u64 (wd n 2 : Int), .int .u64 (wd n 3 : Int)] from rfl]
  have x0 : (w.alloc (.cells (numL n).toArray 24)).heap[w.heap.size]? = some (.cells (numL n).toArray 24 (0, 0)) := alloc_new _ _
  have xb : Below w.heap.size w (w.alloc (.cells (numL n).toArray 24)) := gr_alloc (Below.refl _ _) _
  go_enter Try.func58, Try.ntmps58
  go_wp2_with fail
  change Code.wp _ _ _ _ (w.alloc (.cells (numL n).toArray 24))
  generalize w.alloc (.cells (numL n).toArray 24) = X at *
  go_loopw [3, 4] (fun s i wr => ∃ k : Nat, k ≤ 4 ∧ i = .int .i64 (k : Int) ∧ s = .string ⟨((List.range k).flatMap (fun i => (putR (wd n i : Int) 8).reverse)).toArray⟩ ∧ wr.heap[w.heap.size]? = some (.cells (numL n).toArray 24 (0, 0)) ∧ Below w.heap.size w wr) (fun _ i _ => 4 - (intOf i).toNat)
  case atStart => exact ⟨0, by omega, rfl, rfl, x0, xb⟩
  case round =>
    clear x0 xb
    obtain ⟨k, hk, rfl, rfl, y0, hb⟩ := hrel
    by_cases hlt : k < 4
    · have k1 : (k : Int) < 4 := by omega
      have c0 := (arr_get y0 (numL_get n k hlt)).1
      have KP : Hid (∀ w, Calls Try.prog 94 #[.int .u64 (wd n k : Int), .int .i64 8] w fun e w' => e = .returned (.string ⟨(putR (wd n k : Int) 8).toArray⟩) ∧ Below w.heap.size w w') := fun w => rput_any (wd n k : Int) 8 w (by omega) (by have := wd_lt n k; omega) (by omega)
      have KT := Lib.hid (fun w => rturn_any ⟨(putR (wd n k : Int) 8).toArray⟩ w (by show (putR _ 8).toArray.size ≤ _; simp [putR_length]))
      have HS := Lib.hid (show (List.range (k + 1)).flatMap (fun i => (putR (wd n i : Int) 8).reverse) = (List.range k).flatMap (fun i => (putR (wd n i : Int) 8).reverse) ++ (putR (wd n k : Int) 8).reverse from by rw [List.range_succ, List.flatMap_append]; simp)
      have HY := Lib.hid y0
      clear y0
      have hlen : ((List.range k).flatMap (fun i => (putR (wd n i : Int) 8).reverse)).length ≤ 32 := by
        have : k = 0 ∨ k = 1 ∨ k = 2 ∨ k = 3 := by omega
        rcases this with rfl | rfl | rfl | rfl <;> simp [List.range_succ, putR_length]
      have hlen2 : (putR (wd n k : Int) 8).length ≤ 8 := by rw [putR_length]; exact Nat.le_refl _
      generalize hL : (List.range k).flatMap (fun i => (putR (wd n i : Int) 8).reverse) = L at *
      generalize hP : putR (wd n k : Int) 8 = P at *
      clear hL hP
      have hlen3 : ¬ 9223372036854775807 < L.length + P.length := by omega
      clear hlen hlen2
      generalize (wd n k : Int) = x at *
      go_wp2_with fail
      refine (KP.out _).mono ?_
      rintro e w1 ⟨rfl, hb1⟩
      go_wp2_with fail
      refine (KT.out _).mono ?_
      rintro e w2 ⟨rfl, hb2⟩
      have hb3 := hb.trans ((gr_step hb1 hb2).mono hb.size)
      have hlt0 : w.heap.size < wr.heap.size := lt_blk HY.out
      have HY2 := Lib.hid (((gr_step hb1 hb2).block w.heap.size hlt0).trans HY.out)
      clear hb1 hb2
      go_wp2_with fail
      go_roundw
      case rel =>
        refine ⟨k + 1, by omega, by go_num, ?_, HY2.out, hb3⟩
        rw [HS.out]
        refine congrArg Value.string ?_
        apply ByteArray.ext
        simp
      case measure => simp [intOf]; omega
    · obtain rfl : k = 4 := by omega
      rw [byL_parts]
      go_wp2_with fail
      go_ret
      exact ⟨rfl, hb⟩
end Go.Proofs.Ytigfoophimjgdaa
namespace Go.Proofs.Ytigfoophimjgdaa
set_option maxRecDepth 20000
set_option linter.unusedSimpArgs false
set_option linter.unusedVariables false
open Go.RowKit
theorem leN_B (s : ByteArray) (hs : s.size = 32) : leN s.data.toList < B64 ^ 4 := by
  have h := leN_lt s.data.toList
  rw [show s.data.toList.length = 32 by rw [← hs]; rfl, show (256 : Nat) ^ 32 = B64 ^ 4 by decide +kernel] at h
  exact h
set_option maxHeartbeats 4000000 in
theorem pof_short (s : ByteArray) (w : World) (hs : s.size ≠ 32) : Calls Try.prog 54 #[.string s] w fun e w' => e = .returned (.tuple #[numV 0, .int .i64 1]) ∧ Below w.heap.size w w' := by
  have K1 := Lib.hid (fun w => of_short s w hs)
  obtain ⟨xr, xz, xB⟩ := z1_at 27 w
  rw [num_zero] at K1 ⊢
  clear hs
  go_enter Try.func54, Try.ntmps54
  go_wp2_with fail
  change Calls _ _ _ (Z1 27 w) _
  generalize Z1 27 w = X at *
  refine (K1.out X).mono ?_
  rintro e w1 ⟨rfl, hb1⟩
  have xr2 := isA_zero' ((xr.keep hb1).alloc (.cells #[.int .u64 0, .int .u64 0, .int .u64 0, .int .u64 0] 25))
  obtain ⟨⟨d0, d1, d2, d3⟩, e0, e1, e2, e3⟩ := fourV xr2
  have kl := load_el (isA_zero (set4_row (v0 := .int .u64 0) (v1 := .int .u64 0) (v2 := .int .u64 0) (v3 := .int .u64 0) xr2))
  rw [num_zero] at kl
  have KL := Lib.hid kl
  have BR := Lib.hid (b_set4 (b_alloc (b_callsS hb1 xB (Nat.le_refl _)) (.cells #[.int .u64 0, .int .u64 0, .int .u64 0, .int .u64 0] 25)) (v0 := .int .u64 0) (v1 := .int .u64 0) (v2 := .int .u64 0) (v3 := .int .u64 0) (b := w.heap.size) (Nat.le_refl _))
  clear kl xr2 xr xB hb1
  go_wp2_with fail
  exact bodyPost_ret (results_arr_tmp Try.results54 (by rfl) (by rfl) KL.out) rfl ⟨rfl, BR.out⟩
set_option maxHeartbeats 8000000 in
theorem pof_any (s : ByteArray) (w : World) (hs : s.size = 32) : Calls Try.prog 54 #[.string s] w fun e w' => e = .returned (.tuple (if leN s.data.toList < PN then #[numV (leN s.data.toList), .int .i64 0] else #[numV 0, .int .i64 2])) ∧ Below w.heap.size w w' := by
  have HMIX := Lib.hid (show Try.prog.follows .mixedOrders = true by kernel_rfl)
  have hnB := leN_B s hs
  have K1 := Lib.hid (fun w => of_any s w hs)
  obtain ⟨n, hn⟩ : ∃ n, leN s.data.toList = n := ⟨_, rfl⟩
  rw [hn] at K1 hnB
  rw [hn]
  have K2 := Lib.hid p_any
  have K3 := Lib.hid (fun w => cmp_any n PN w hnB PN_B)
  have cge := mod_cmp_ge n
  have clt := mod_cmp_lt n
  obtain ⟨C, hC⟩ : ∃ C, cmpI n PN = C := ⟨_, rfl⟩
  rw [hC] at K3 cge clt
  obtain ⟨p, hp⟩ : ∃ p, PN = p := ⟨_, rfl⟩
  rw [hp] at K2 K3 cge clt ⊢
  obtain ⟨xr, xz, xB⟩ := z1_at 27 w
  rw [num_zero]
  simp only [numV_agg] at K1 K2 K3 ⊢
  have hc1 : p ≤ n → (0 : Int) ≤ C := cge
  have hc2 : n < p → ¬ (0 : Int) ≤ C := clt
  clear hs hn hnB hC hp cge clt
  by_cases hlt : n < p
  · have q1 := hc2 hlt
    rw [if_pos hlt]
    clear hc1 hc2 hlt
    go_enter Try.func54, Try.ntmps54
    go_wp2_with fail
    change Calls _ _ _ (Z1 27 w) _
    generalize Z1 27 w = X at *
    refine (K1.out X).mono ?_
    rintro e w1 ⟨rfl, hb1⟩
    have hs1 : w.heap.size + 1 ≤ w1.heap.size := by have := hb1.size; omega
    have XR := Lib.hid ((xr.keep hb1).alloc (.cells #[.int .u64 (wd n 0 : Int), .int .u64 (wd n 1 : Int), .int .u64 (wd n 2 : Int), .int .u64 (wd n 3 : Int)] 25))
    have XB := Lib.hid (b_alloc (b_callsS hb1 xB (Nat.le_refl _)) (.cells #[.int .u64 (wd n 0 : Int), .int .u64 (wd n 1 : Int), .int .u64 (wd n 2 : Int), .int .u64 (wd n 3 : Int)] 25))
    have XA : Hid (IsA (w1.alloc (.cells #[.int .u64 (wd n 0 : Int), .int .u64 (wd n 1 : Int), .int .u64 (wd n 2 : Int), .int .u64 (wd n 3 : Int)] 25)) w1.heap.size n 25) := (alloc_new w1 _ :)
    clear xr xz xB hb1 K1
    obtain ⟨⟨p0, p1, p2, p3⟩, _⟩ := fourV XA.out
    have D0 := fun d os => cell_regrown p0 d os
    have D1 := fun d os => cell_regrown p1 d os
    have D2 := fun d os => cell_regrown p2 d os
    have D3 := fun d os => cell_regrown p3 d os
    clear p0 p1 p2 p3
    go_wp2_with fail
    generalize w1.alloc (.cells #[.int .u64 (wd n 0 : Int), .int .u64 (wd n 1 : Int), .int .u64 (wd n 2 : Int), .int .u64 (wd n 3 : Int)] 25) = Y at *
    refine wp_region_quiet_below HMIX.out (by kernel_rfl) ?_
    repeat (go_big_quiet_step (first
      | (go_at_call 91; exact Calls.regrown_of (K2.out _))
      | (go_at_call 90; exact Calls.regrown_of (K3.out _))))
    refine wpQuiet_nil ?_
    intro _ hw'
    obtain ⟨⟨nq1, os1⟩, hw''⟩ := hw'
    subst hw''
    have xa := isA_calls (below_regrown Y nq1 os1) XA.out (Nat.le_refl _)
    have xr := isA_zero' (isA_calls (below_regrown Y nq1 os1) XR.out (Nat.le_refl _))
    have xB := b_callsS (below_regrown Y nq1 os1) XB.out (Nat.le_refl _)
    clear D0 D1 D2 D3 XA XR XB K2 K3
    generalize Sort.grow (redrawn Y nq1) os1 = U2 at xa xr xB ⊢
    obtain ⟨⟨p0, p1, p2, p3⟩, _⟩ := fourV xa
    obtain ⟨⟨d0, d1, d2, d3⟩, e0, e1, e2, e3⟩ := fourV xr
    have KL := Lib.hid (load_el (isA_set (n := n) xr))
    have BR := Lib.hid (b_set4 xB (v0 := .int .u64 (wd n 0 : Int)) (v1 := .int .u64 (wd n 1 : Int)) (v2 := .int .u64 (wd n 2 : Int)) (v3 := .int .u64 (wd n 3 : Int)) (b := w.heap.size) (Nat.le_refl _))
    clear xa xr xB
    go_wp2_with fail
    exact bodyPost_ret (results_arr_tmp Try.results54 (by rfl) (by rfl) KL.out) rfl ⟨rfl, BR.out⟩
  · have q1 := hc1 (Nat.le_of_not_lt hlt)
    rw [if_neg hlt]
    clear hc1 hc2 hlt
    go_enter Try.func54, Try.ntmps54
    go_wp2_with fail
    change Calls _ _ _ (Z1 27 w) _
    generalize Z1 27 w = X at *
    refine (K1.out X).mono ?_
    rintro e w1 ⟨rfl, hb1⟩
    have hs1 : w.heap.size + 1 ≤ w1.heap.size := by have := hb1.size; omega
    have XR := Lib.hid ((xr.keep hb1).alloc (.cells #[.int .u64 (wd n 0 : Int), .int .u64 (wd n 1 : Int), .int .u64 (wd n 2 : Int), .int .u64 (wd n 3 : Int)] 25))
    have XB := Lib.hid (b_alloc (b_callsS hb1 xB (Nat.le_refl _)) (.cells #[.int .u64 (wd n 0 : Int), .int .u64 (wd n 1 : Int), .int .u64 (wd n 2 : Int), .int .u64 (wd n 3 : Int)] 25))
    have XA : Hid (IsA (w1.alloc (.cells #[.int .u64 (wd n 0 : Int), .int .u64 (wd n 1 : Int), .int .u64 (wd n 2 : Int), .int .u64 (wd n 3 : Int)] 25)) w1.heap.size n 25) := (alloc_new w1 _ :)
    clear xr xz xB hb1 K1
    obtain ⟨⟨p0, p1, p2, p3⟩, _⟩ := fourV XA.out
    have D0 := fun d os => cell_regrown p0 d os
    have D1 := fun d os => cell_regrown p1 d os
    have D2 := fun d os => cell_regrown p2 d os
    have D3 := fun d os => cell_regrown p3 d os
    clear p0 p1 p2 p3
    go_wp2_with fail
    generalize w1.alloc (.cells #[.int .u64 (wd n 0 : Int), .int .u64 (wd n 1 : Int), .int .u64 (wd n 2 : Int), .int .u64 (wd n 3 : Int)] 25) = Y at *
    refine wp_region_quiet_below HMIX.out (by kernel_rfl) ?_
    repeat (go_big_quiet_step (first
      | (go_at_call 91; exact Calls.regrown_of (K2.out _))
      | (go_at_call 90; exact Calls.regrown_of (K3.out _))))
    refine wpQuiet_nil ?_
    intro _ hw'
    obtain ⟨⟨nq1, os1⟩, hw''⟩ := hw'
    subst hw''
    have xr := isA_zero' (isA_calls (below_regrown Y nq1 os1) XR.out (Nat.le_refl _))
    have xB := b_callsS (below_regrown Y nq1 os1) XB.out (Nat.le_refl _)
    clear D0 D1 D2 D3 XA XR XB K2 K3
    generalize Sort.grow (redrawn Y nq1) os1 = U2 at xr xB ⊢
    obtain ⟨⟨d0, d1, d2, d3⟩, e0, e1, e2, e3⟩ := fourV xr
    have kl := load_el (isA_zero (set4_row (v0 := .int .u64 0) (v1 := .int .u64 0) (v2 := .int .u64 0) (v3 := .int .u64 0) xr))
    rw [num_zero] at kl
    have KL := Lib.hid kl
    have BR := Lib.hid (b_set4 xB (v0 := .int .u64 0) (v1 := .int .u64 0) (v2 := .int .u64 0) (v3 := .int .u64 0) (b := w.heap.size) (Nat.le_refl _))
    clear xr xB kl
    go_wp2_with fail
    exact bodyPost_ret (results_arr_tmp Try.results54 (by rfl) (by rfl) KL.out) rfl ⟨rfl, BR.out⟩
end Go.Proofs.Ytigfoophimjgdaa
namespace Go.Proofs.Ytigfoophimjgdaa
set_option maxRecDepth 20000
set_option linter.unusedSimpArgs false
set_option linter.unusedVariables false
open Go.RowKit Go.Sort
section
variable {P : Program} {ops : Array Oper} {w : World} {Q : Exit → Act → World → Prop} {o : Oper} {rest : List Oper} {A : Act}
theorem wl_defer {d : Deferred} (h : ∀ W, (execOp A.eval o).run P W = .ok (.defer d) W) (hd : o.dst = none) (hgd : Region.wanted o (yielded ops A.tmps) = true) (hr : wpList P ops Q rest { tmps := A.tmps, defers := d :: A.defers } w) : wpList P ops Q (o :: rest) A w := by
  refine wpList_step fun K hK => ?_
  rw [if_pos hgd]
  unfold Oper.wp
  rw [h]
  refine hK _ _ ?_
  rw [hd]
  exact hr
theorem run_defer_of {x : Operand} {fn : Fn} {first cap : Array Value} (W : World) (ho : o.op = .defer { callee := .value x, args := #[], argTypes := #[] }) (hx : A.eval x = .func fn first cap) : (execOp A.eval o).run P W = .ok (.defer { target := .fn fn cap, args := first }) W := by
  unfold execOp
  simp [ho, resolve, hx, Deferred.ofValue]
end
end Go.Proofs.Ytigfoophimjgdaa
