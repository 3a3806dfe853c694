/- pcode.Decode (layer 21): its contract. Parts of rows: a store behind a row's begin, a row that grows by append, what a row's tail forgets. No program in it. mult.bitsOf (layer 23): its contract. mult.multiples (layer 23): its contract. -/
import Derived.Laws.AppendOwn
import Derived.Deep.LoopGhost
import Derived.Test.YtigfoophimjgdaaM21
import Derived.Test.YtigfoophimjgdaaM20
namespace Go.Proofs.Ytigfoophimjgdaa
set_option maxRecDepth 20000
set_option linter.unusedSimpArgs false
set_option linter.unusedVariables false
open Go.RowKit Go.Sort
theorem cellErr : CellTy Try.prog 40 := ⟨⟨_, Try.underlying40, rfl⟩, by kernel_rfl⟩
theorem al_Err (W : World) : (Instr.alloc 40 true (.tuple #[])).run Try.prog W = .ok (.pointer (some ⟨W.heap.size, 0, none⟩)) (W.alloc (.cells #[.int .i64 0] 40 (0, 0))) := by
  go_simp
theorem al_Wn (W : World) : (Instr.alloc 25 true (.tuple #[])).run Try.prog W = .ok (.pointer (some ⟨W.heap.size, 0, none⟩)) (W.alloc (.cells z4 25 (0, 0))) := by
  unfold z4
  go_simp
theorem bin_neq_err (a : Nat) (x y : Operand) (W : World) : (do eqGuard .neq 40 x y (.int .i64 (a : Int)) (.int .i64 0); binOp .neq 40 (.int .i64 (a : Int)) (.int .i64 0) : Sem Value).run Try.prog W = .ok (.bool (!decide (a = 0))) W := by
  have e : ((a : Int) == 0) = decide (a = 0) := by
    rw [Bool.eq_iff_iff]
    simp
  go_simp
  rw [bne, e]
/-- The highest bit struck. -/
theorem num_low (n : Nat) : (elR n).setIfInBounds 3 (.int .u64 ((wd n 3 % 9223372036854775808 : Nat) : Int)) = elR (n % (9223372036854775808 * B64 ^ 3)) := by
  have e0 : wd (n % (9223372036854775808 * B64 ^ 3)) 0 = wd n 0 := by
    unfold wd
    rw [Nat.pow_zero, Nat.div_one, Nat.div_one, show 9223372036854775808 * B64 ^ 3 = B64 * (9223372036854775808 * B64 ^ 2) by decide +kernel, Nat.mod_mul_right_mod]
  have e1 : wd (n % (9223372036854775808 * B64 ^ 3)) 1 = wd n 1 := by
    unfold wd
    rw [show 9223372036854775808 * B64 ^ 3 = B64 ^ 1 * (B64 * (9223372036854775808 * B64)) by decide +kernel, Nat.mod_mul_right_div_self, Nat.mod_mul_right_mod]
  have e2 : wd (n % (9223372036854775808 * B64 ^ 3)) 2 = wd n 2 := by
    unfold wd
    rw [show 9223372036854775808 * B64 ^ 3 = B64 ^ 2 * (B64 * 9223372036854775808) by decide +kernel, Nat.mod_mul_right_div_self, Nat.mod_mul_right_mod]
  have e3 : wd (n % (9223372036854775808 * B64 ^ 3)) 3 = wd n 3 % 9223372036854775808 := by
    unfold wd
    rw [show 9223372036854775808 * B64 ^ 3 = B64 ^ 3 * 9223372036854775808 by decide +kernel, Nat.mod_mul_right_div_self]
    obtain ⟨q, hq⟩ : ∃ q, n / B64 ^ 3 = q := ⟨_, rfl⟩
    rw [hq]
    rw [show B64 = 18446744073709551616 from rfl]
    omega
  unfold elR
  rw [e0, e1, e2, e3]
  rfl
theorem dec1_any (w0 w : World) (M : List Blk) (i j be bp e : Nat) (old : Array Value) (hM : Mem w0 M w) (hi : M[i]? = some (be, .cells #[.int .i64 (e : Int)] 40 (0, 0))) (hj : M[j]? = some (bp, .cells old 30 (0, 0))) (ho : old.size = 16) :
    CallsD Try.prog 51 #[.pointer (some ⟨be, 0, none⟩), .pointer (some ⟨bp, 0, none⟩)] .returning w fun E u w' => u = .returning ∧ (E = .returned (.tuple #[]) ∧ Mem w0 (if e = 0 then M else M.set j (bp, .cells (pc4 zero4) 30 (0, 0))) w') := by
  by_cases h0 : e = 0
  · rw [if_pos h0]
    have KB := fun x y W => bin_neq_err e x y W
    rw [decide_eq_true h0] at KB
    go_enter_d Try.func51, Try.ntmps51
    (first | (refine wp_region_lit ?_) | (go_step; (first | (refine wp_region_lit ?_) | (go_step; (first | (refine wp_region_lit ?_) | (go_step; (first | (refine wp_region_lit ?_) | (go_step; (first | (refine wp_region_lit ?_) | (go_step; (first | (refine wp_region_lit ?_) | (go_step; (first | (refine wp_region_lit ?_) | (go_step; (refine wp_region_lit ?_)))))))))))))))
    refine wl_cell hM i (v := .int .i64 (e : Int)) rfl rfl hi rfl cellErr rfl ?_
    simp only [Act.put, List.setIfInBounds_toArray, List.set_cons_zero, List.set_cons_succ]
    refine wl_pure (v := .bool false) (fun W => run_bin_of rfl rfl rfl (KB _ _ W)) rfl ?_
    simp only [Act.put, List.setIfInBounds_toArray, List.set_cons_zero, List.set_cons_succ]
    refine wpList_nil ?_
    (first | (refine bodyPost_end (v := .tuple #[]) (results_none Try.results51 _ _ _) rfl ⟨rfl, hM⟩) | (go_step; (first | (refine bodyPost_end (v := .tuple #[]) (results_none Try.results51 _ _ _) rfl ⟨rfl, hM⟩) | (go_step; (first | (refine bodyPost_end (v := .tuple #[]) (results_none Try.results51 _ _ _) rfl ⟨rfl, hM⟩) | (go_step; (first | (refine bodyPost_end (v := .tuple #[]) (results_none Try.results51 _ _ _) rfl ⟨rfl, hM⟩) | (go_step; (first | (refine bodyPost_end (v := .tuple #[]) (results_none Try.results51 _ _ _) rfl ⟨rfl, hM⟩) | (go_step; (first | (refine bodyPost_end (v := .tuple #[]) (results_none Try.results51 _ _ _) rfl ⟨rfl, hM⟩) | (go_step; (first | (refine bodyPost_end (v := .tuple #[]) (results_none Try.results51 _ _ _) rfl ⟨rfl, hM⟩) | (go_step; (refine bodyPost_end (v := .tuple #[]) (results_none Try.results51 _ _ _) rfl ⟨rfl, hM⟩)))))))))))))))
  · rw [if_neg h0]
    have KB := fun x y W => bin_neq_err e x y W
    rw [decide_eq_false h0] at KB
    go_enter_d Try.func51, Try.ntmps51
    (first | (refine wp_region_lit ?_) | (go_step; (first | (refine wp_region_lit ?_) | (go_step; (first | (refine wp_region_lit ?_) | (go_step; (first | (refine wp_region_lit ?_) | (go_step; (first | (refine wp_region_lit ?_) | (go_step; (first | (refine wp_region_lit ?_) | (go_step; (first | (refine wp_region_lit ?_) | (go_step; (refine wp_region_lit ?_)))))))))))))))
    refine wl_cell hM i (v := .int .i64 (e : Int)) rfl rfl hi rfl cellErr rfl ?_
    simp only [Act.put, List.setIfInBounds_toArray, List.set_cons_zero, List.set_cons_succ]
    refine wl_pure (v := .bool true) (fun W => run_bin_of rfl rfl rfl (KB _ _ W)) rfl ?_
    simp only [Act.put, List.setIfInBounds_toArray, List.set_cons_zero, List.set_cons_succ]
    refine wpList_nil ?_
    (first | (refine wp_region_lit ?_) | (go_step; (first | (refine wp_region_lit ?_) | (go_step; (first | (refine wp_region_lit ?_) | (go_step; (first | (refine wp_region_lit ?_) | (go_step; (first | (refine wp_region_lit ?_) | (go_step; (first | (refine wp_region_lit ?_) | (go_step; (first | (refine wp_region_lit ?_) | (go_step; (refine wp_region_lit ?_)))))))))))))))
    refine wl_call hM (args := #[]) (v := pv4 zero4) (fun W => run_call_fn W (enters_of Try.func40 rfl rfl) rfl (by simp)) (zero4_any w) rfl fun W1 hM1 => ?_
    simp only [Act.put, List.setIfInBounds_toArray, List.set_cons_zero, List.set_cons_succ]
    refine wl_set hM1 j (cs := pc4 zero4) rfl rfl rfl hj rowPt ho (one_p4 _) rfl rfl fun W2 hM2 => ?_
    refine wpList_nil ?_
    (first | (refine bodyPost_end (v := .tuple #[]) (results_none Try.results51 _ _ _) rfl ⟨rfl, hM2⟩) | (go_step; (first | (refine bodyPost_end (v := .tuple #[]) (results_none Try.results51 _ _ _) rfl ⟨rfl, hM2⟩) | (go_step; (first | (refine bodyPost_end (v := .tuple #[]) (results_none Try.results51 _ _ _) rfl ⟨rfl, hM2⟩) | (go_step; (first | (refine bodyPost_end (v := .tuple #[]) (results_none Try.results51 _ _ _) rfl ⟨rfl, hM2⟩) | (go_step; (first | (refine bodyPost_end (v := .tuple #[]) (results_none Try.results51 _ _ _) rfl ⟨rfl, hM2⟩) | (go_step; (first | (refine bodyPost_end (v := .tuple #[]) (results_none Try.results51 _ _ _) rfl ⟨rfl, hM2⟩) | (go_step; (first | (refine bodyPost_end (v := .tuple #[]) (results_none Try.results51 _ _ _) rfl ⟨rfl, hM2⟩) | (go_step; (refine bodyPost_end (v := .tuple #[]) (results_none Try.results51 _ _ _) rfl ⟨rfl, hM2⟩)))))))))))))))
end Go.Proofs.Ytigfoophimjgdaa
namespace Go.Proofs.Ytigfoophimjgdaa
set_option maxRecDepth 20000
set_option linter.unusedSimpArgs false
set_option linter.unusedVariables false
open Go.RowKit Go.Sort
section
variable {P : Program} {w w0 w' W : World} {M : List Blk} {o : Oper} {A : Act}
theorem Mem.tail {x : Blk} (h : Mem w0 (x :: M) w) : Mem w0 M w :=
  ⟨h.below, fun p hp => h.low p (List.mem_cons_of_mem _ hp), (List.pairwise_cons.1 h.nod).2, fun p hp => h.at_ p (List.mem_cons_of_mem _ hp)⟩
theorem Mem.swap {x y : Blk} (h : Mem w0 (x :: y :: M) w) : Mem w0 (y :: x :: M) w := by
  refine ⟨h.below, fun p hp => h.low p ?_, ?_, fun p hp => h.at_ p ?_⟩
  · simp only [List.mem_cons] at hp ⊢
    rcases hp with h1 | h1 | h1
    · exact .inr (.inl h1)
    · exact .inl h1
    · exact .inr (.inr h1)
  · have h1 := List.pairwise_cons.1 h.nod
    have h2 := List.pairwise_cons.1 h1.2
    refine List.pairwise_cons.2 ⟨fun p hp => ?_, List.pairwise_cons.2 ⟨fun p hp => h1.1 p (List.mem_cons_of_mem _ hp), h2.2⟩⟩
    rcases List.mem_cons.1 hp with rfl | hp
    · exact fun e => h1.1 y (by simp) e.symm
    · exact h2.1 p hp
  · simp only [List.mem_cons] at hp ⊢
    rcases hp with h1 | h1 | h1
    · exact .inr (.inl h1)
    · exact .inl h1
    · exact .inr (.inr h1)
/-- A value of several cells goes into a row, behind its begin. -/
theorem run_store_part {b off : Nat} {cs sub : Array Value} {t ty : TypeId} (hg : w.heap[b]? = some (.cells cs t (0, 0))) (hl : off + sub.size ≤ cs.size) (hT : (P.info? ty).map (·.size) = some sub.size) (h1 : sub.all (·.oneCell') = true) : (storeVar ty ⟨b, off, none⟩ (.agg sub)).run P w = .ok () (w.setRow b (cs.toList.take off ++ sub.toList ++ cs.toList.drop (off + sub.size)).toArray) := by
  have h := run_storeCells_at (P := P) b off t sub.toList 0 cs w hg (by simpa using hl) (fun x hx => by
    have := Array.all_eq_true'.1 h1 x (by simpa using hx)
    exact this)
  cases hq : P.info? ty with
  | none => simp [hq] at hT
  | some i =>
    have hs : i.size = sub.size := by simpa [hq] using hT
    have hc : (Value.agg sub).cells = sub := rfl
    simp [storeVar, hc, sizeOf, typeInfo, hq, hs, Sem.run_bind]
    rw [h]
    simp
theorem wp_setpart {K : Act → World → Prop} {Q : Exit → Act → World → Prop} (hM : Mem w0 M w) (i : Nat) {ty : TypeId} {x y : Operand} {b off : Nat} {t : TypeId} {cs sub new : Array Value} (ho : o.op = .store ty x y) (hx : A.eval x = .pointer (some ⟨b, off, none⟩)) (hy : A.eval y = .agg sub) (hi : M[i]? = some (b, .cells cs t (0, 0))) (hl : off + sub.size ≤ cs.size) (hn : cs.toList.take off ++ sub.toList ++ cs.toList.drop (off + sub.size) = new.toList) (hT : RowTy P ty sub.size) (h1 : sub.all (·.oneCell') = true)
    (hr : ∀ W, Mem w0 (M.set i (b, .cells new t (0, 0))) W → K (A.put o.dst undef) W) : o.wp P A w K Q := by
  unfold Oper.wp execOp
  simp only [ho, hx, hy, Instr.storeAt, Instr.sureAddr, Sem.run_bind, Sem.run_pure, Result.andThen_ok, run_store_part (hM.get i hi) hl hT.2 h1]
  rw [hn, Array.toArray_toList]
  exact hr _ (hM.set i hi)
theorem any_setpart {ops : Array Oper} {md : Region.Mode} {fuel : Nat} {listed : Array Bool} {Q : Exit → Act → World → Prop} {n : Nat} (hr : Region.ready md ops listed = [n]) (hn : ops[n]? = some o) (hM : Mem w0 M w) (i : Nat) {ty : TypeId} {x y : Operand} {b off : Nat} {t : TypeId} {cs sub new : Array Value} (ho : o.op = .store ty x y) (hx : A.eval x = .pointer (some ⟨b, off, none⟩)) (hy : A.eval y = .agg sub) (hi : M[i]? = some (b, .cells cs t (0, 0))) (hl : off + sub.size ≤ cs.size) (hnw : cs.toList.take off ++ sub.toList ++ cs.toList.drop (off + sub.size) = new.toList) (hT : RowTy P ty sub.size) (h1 : sub.all (·.oneCell') = true)
    (hgd : o.guard = none) (hd : o.dst = none) (hk : ∀ W, Mem w0 (M.set i (b, .cells new t (0, 0))) W → wpAny P md ops Q fuel (listed.setIfInBounds n true) A W) : wpAny P md ops Q (fuel + 1) listed A w :=
  any_one hr hn fun K hK => by
    rw [if_pos (by simp [Region.wanted, hgd])]
    refine wp_setpart hM i ho hx hy hi hl hnw hT h1 fun W hW => ?_
    rw [hd]
    exact hK _ _ (hk W hW)
/-- A call that turns blocks of the caller's. -/
theorem wl_callM {ops : Array Oper} {Q : Exit → Act → World → Prop} {rest : List Oper} {M' : List Blk} {f : FuncId} {args : Array Value} {v : Value} (h : ∀ W, (execOp A.eval o).run P W = .ok (.enter f args) W) (hc : Calls P f args w fun e w' => e = .returned v ∧ Mem w0 M' w') (hgd : Region.wanted o (yielded ops A.tmps) = true) (hr : ∀ W, Mem w0 M' W → wpList P ops Q rest (A.put o.dst v) W) : wpList P ops Q (o :: rest) A w := by
  refine wpList_step fun K hK => ?_
  rw [if_pos hgd]
  unfold Oper.wp
  rw [h]
  exact hc.mono fun e w' he => by
    obtain ⟨rfl, hm⟩ := he
    exact hK _ _ (hr _ hm)
/-- In a region without calls: one of several that may come, which makes a block. -/
theorem hdop_new {ops : Array Oper} {md : Region.Mode} {fuel : Nat} {listed : Array Bool} {Q : Exit → Act → World → Prop} {S : World → Prop} {n : Nat} {d : Tmp} {f : Nat → Value} {ob : Obj} (hn : ops[n]? = some o) (hdd : o.dst = some d) (hgd : o.guard = none) (hM : Mem w0 M w) (h : ∀ W, (execOp A.eval o).run P W = .ok (.value (f W.heap.size)) (W.alloc ob)) (L : Array Bool) (hL : listed.setIfInBounds n true = L)
    (hk : ∀ b W, Mem w0 ((b, ob) :: M) W → S W ∧ wpAnyH P md ops Q S fuel L (A.put (some d) (f b)) W) : Go.wpOp P ops Q n (fun a' w' => S w' ∧ wpAnyH P md ops Q S fuel (listed.setIfInBounds n true) a' w') A w := by
  unfold Go.wpOp
  simp only [hn]
  rw [if_pos (by simp [Region.wanted, hgd])]
  refine .inl ?_
  unfold Oper.wp
  rw [h]
  show S _ ∧ wpAnyH P md ops Q S fuel _ (A.put o.dst _) _
  rw [hdd, hL]
  exact hk _ _ (hM.new1 ob)
theorem wp_region_cut {id : Nat} {ops : Array Oper} {d : Bool} {Q Q' : Exit → Act → World → Prop} (hq : ∀ e a w, Q' e a w → Q e a w) (h : (Code.region id ops d).wp P Q' A w) : (Code.region id ops d).wp P Q A w := Code.wp_mono hq h
theorem below_grown {g : Nat} (hb : Below w0.heap.size w0 w) (hg : w.grownBy w' (some g)) (hl : w0.heap.size ≤ g) : Below w0.heap.size w0 w' := by
  exact ⟨hg.os.trans hb.os, hg.tape.trans hb.tape, hg.output.trans hb.output, Nat.le_trans hb.size hg.size, fun k hk => (hg.block k (Nat.lt_of_lt_of_le hk hb.size) (fun e => by cases e; omega)).trans (hb.block k hk)⟩
end
end Go.Proofs.Ytigfoophimjgdaa
namespace Go.Proofs.Ytigfoophimjgdaa
set_option maxRecDepth 20000
set_option linter.unusedSimpArgs false
set_option linter.unusedVariables false
open Go.RowKit Go.Sort
theorem bits4 (n s : Nat) : bitN n (4 * s) + bitN n (4 * s + 1) * 2 + bitN n (4 * s + 2) * 4 + bitN n (4 * s + 3) * 8 = n / 16 ^ s % 16 := by
  unfold bitN
  rw [show (16 : Nat) ^ s = 2 ^ (4 * s) by rw [show (16 : Nat) = 2 ^ 4 from rfl, ← Nat.pow_mul], Nat.pow_succ, Nat.pow_succ 2 (4 * s + 1), Nat.pow_succ 2 (4 * s + 2), Nat.pow_succ 2 (4 * s + 1), Nat.pow_succ 2 (4 * s)]
  simp only [← Nat.div_div_eq_div_mul]
  omega
theorem or_at (i : Nat) (hi : i < 4) : ∀ a, a < 2 ^ i → ∀ b, b < 2 → a ||| (b * 2 ^ i) = a + b * 2 ^ i := by
  intro a ha b hb
  have h := Nat.two_pow_add_eq_or_of_lt ha b
  rw [Nat.or_comm, Nat.mul_comm b, Nat.add_comm]
  exact h.symm
theorem bin_or_u (i : Nat) (hi : i < 4) (a b : Nat) (ha : a < 2 ^ i) (hb : b < 2) (c : Nat) (hc : b * 2 ^ i = c) (x y : Operand) (W : World) : (do eqGuard .or 85 x y (.int .u64 (a : Int)) (.int .u64 (c : Int)); binOp .or 85 (.int .u64 (a : Int)) (.int .u64 (c : Int)) : Sem Value).run Try.prog W = .ok (.int .u64 ((a + c : Nat) : Int)) W := by
  have h16 : 2 ^ i ≤ 8 := Nat.pow_le_pow_right (n := 2) (by decide) (show i ≤ 3 by omega)
  have hcl : c ≤ 8 := by rw [← hc]; exact Nat.le_trans (Nat.mul_le_mul_right _ (show b ≤ 1 by omega)) (by omega)
  have e : bits .or .u64 (a : Int) (c : Int) = ((a + c : Nat) : Int) := by
    have h1 := u64_or_nat a c (by omega) (by omega)
    have h2 := or_at i hi a ha b hb
    rw [hc] at h2
    rw [h2] at h1
    exact h1
  obtain ⟨m, hm⟩ : ∃ m, a + c = m := ⟨_, rfl⟩
  rw [hm] at e ⊢
  clear hm ha hb hc h16 hcl
  go_simp
theorem bin_shl_u0 (b : Nat) (hb : b < 2) (x y : Operand) (W : World) : (do eqGuard .shl 85 x y (.int .u64 (b : Int)) (.int .i64 0); binOp .shl 85 (.int .u64 (b : Int)) (.int .i64 0) : Sem Value).run Try.prog W = .ok (.int .u64 ((b * 1 : Nat) : Int)) W := by
  have h : b = 0 ∨ b = 1 := by omega
  rcases h with rfl | rfl <;> rfl
theorem bin_shl_u1 (b : Nat) (hb : b < 2) (x y : Operand) (W : World) : (do eqGuard .shl 85 x y (.int .u64 (b : Int)) (.int .i64 1); binOp .shl 85 (.int .u64 (b : Int)) (.int .i64 1) : Sem Value).run Try.prog W = .ok (.int .u64 ((b * 2 : Nat) : Int)) W := by
  have h : b = 0 ∨ b = 1 := by omega
  rcases h with rfl | rfl <;> rfl
theorem bin_shl_u2 (b : Nat) (hb : b < 2) (x y : Operand) (W : World) : (do eqGuard .shl 85 x y (.int .u64 (b : Int)) (.int .i64 2); binOp .shl 85 (.int .u64 (b : Int)) (.int .i64 2) : Sem Value).run Try.prog W = .ok (.int .u64 ((b * 4 : Nat) : Int)) W := by
  have h : b = 0 ∨ b = 1 := by omega
  rcases h with rfl | rfl <;> rfl
theorem bin_shl_u3 (b : Nat) (hb : b < 2) (x y : Operand) (W : World) : (do eqGuard .shl 85 x y (.int .u64 (b : Int)) (.int .i64 3); binOp .shl 85 (.int .u64 (b : Int)) (.int .i64 3) : Sem Value).run Try.prog W = .ok (.int .u64 ((b * 8 : Nat) : Int)) W := by
  have h : b = 0 ∨ b = 1 := by omega
  rcases h with rfl | rfl <;> rfl
theorem bitd (n i d : Nat) (hd : d = bitN n i) (hi : i < 256) (w : World) : Calls Try.prog 53 #[numV n, .int .i64 (i : Int)] w fun e w' => e = .returned (.int .u64 (d : Int)) ∧ Below w.heap.size w w' := by
  rw [hd]
  exact bit_any n i w hi
theorem bin_mul4 (s : Nat) (h : s ≤ 63) (x y : Operand) (W : World) : (do eqGuard .mul 3 x y (.int .i64 4) (.int .i64 (s : Int)); binOp .mul 3 (.int .i64 4) (.int .i64 (s : Int)) : Sem Value).run Try.prog W = .ok (.int .i64 ((4 * s : Nat) : Int)) W := by
  have e : IntKind.i64.wrap (4 * (s : Int)) = ((4 * s : Nat) : Int) := by rw [IntWalk.i64_in _ (by omega)]; omega
  obtain ⟨m, hm⟩ : ∃ m, 4 * s = m := ⟨_, rfl⟩
  rw [hm] at e ⊢
  go_simp
theorem bin_add_i0 (a c : Nat) (h : a ≤ 1000) (hc : a + 0 = c) (x y : Operand) (W : World) : (do eqGuard .add 3 x y (.int .i64 (a : Int)) (.int .i64 0); binOp .add 3 (.int .i64 (a : Int)) (.int .i64 0) : Sem Value).run Try.prog W = .ok (.int .i64 (c : Int)) W := by
  have e : IntKind.i64.wrap ((a : Int) + 0) = (c : Int) := by rw [IntWalk.i64_in _ (by omega)]; omega
  rw [Int.add_zero] at e
  go_simp
theorem bin_add_i1 (a c : Nat) (h : a ≤ 1000) (hc : a + 1 = c) (x y : Operand) (W : World) : (do eqGuard .add 3 x y (.int .i64 (a : Int)) (.int .i64 1); binOp .add 3 (.int .i64 (a : Int)) (.int .i64 1) : Sem Value).run Try.prog W = .ok (.int .i64 (c : Int)) W := by
  have e : IntKind.i64.wrap ((a : Int) + 1) = (c : Int) := by rw [IntWalk.i64_in _ (by omega)]; omega
  go_simp
theorem bin_add_i2 (a c : Nat) (h : a ≤ 1000) (hc : a + 2 = c) (x y : Operand) (W : World) : (do eqGuard .add 3 x y (.int .i64 (a : Int)) (.int .i64 2); binOp .add 3 (.int .i64 (a : Int)) (.int .i64 2) : Sem Value).run Try.prog W = .ok (.int .i64 (c : Int)) W := by
  have e : IntKind.i64.wrap ((a : Int) + 2) = (c : Int) := by rw [IntWalk.i64_in _ (by omega)]; omega
  go_simp
theorem bin_add_i3 (a c : Nat) (h : a ≤ 1000) (hc : a + 3 = c) (x y : Operand) (W : World) : (do eqGuard .add 3 x y (.int .i64 (a : Int)) (.int .i64 3); binOp .add 3 (.int .i64 (a : Int)) (.int .i64 3) : Sem Value).run Try.prog W = .ok (.int .i64 (c : Int)) W := by
  have e : IntKind.i64.wrap ((a : Int) + 3) = (c : Int) := by rw [IntWalk.i64_in _ (by omega)]; omega
  go_simp
set_option maxRecDepth 20000 in
set_option maxHeartbeats 8000000 in
theorem bitsof_any (n s : Nat) (hs : s ≤ 63) (w : World) : Calls Try.prog 102 #[numV n, .int .i64 (s : Int)] w fun E w' => E = .returned (.int .u64 ((n / 16 ^ s % 16 : Nat) : Int)) ∧ Below w.heap.size w w' := by
  have HB := bits4 n s
  obtain ⟨d0, hd0⟩ : ∃ b, b = bitN n (4 * s + 0) := ⟨_, rfl⟩
  have hl0 : d0 < 2 := by rw [hd0]; exact bitN_lt _ _
  obtain ⟨d1, hd1⟩ : ∃ b, b = bitN n (4 * s + 1) := ⟨_, rfl⟩
  have hl1 : d1 < 2 := by rw [hd1]; exact bitN_lt _ _
  obtain ⟨d2, hd2⟩ : ∃ b, b = bitN n (4 * s + 2) := ⟨_, rfl⟩
  have hl2 : d2 < 2 := by rw [hd2]; exact bitN_lt _ _
  obtain ⟨d3, hd3⟩ : ∃ b, b = bitN n (4 * s + 3) := ⟨_, rfl⟩
  have hl3 : d3 < 2 := by rw [hd3]; exact bitN_lt _ _
  rw [show bitN n (4 * s) = d0 from hd0.symm, ← hd1, ← hd2, ← hd3] at HB
  obtain ⟨a0, ea0⟩ : ∃ a, a = 0 := ⟨_, rfl⟩
  obtain ⟨a1, ea1⟩ : ∃ a, a = a0 + d0 * 1 := ⟨_, rfl⟩
  obtain ⟨a2, ea2⟩ : ∃ a, a = a1 + d1 * 2 := ⟨_, rfl⟩
  obtain ⟨a3, ea3⟩ : ∃ a, a = a2 + d2 * 4 := ⟨_, rfl⟩
  obtain ⟨a4, ea4⟩ : ∃ a, a = a3 + d3 * 8 := ⟨_, rfl⟩
  have ha0 : a0 < 2 ^ 0 := by rw [ea0]; decide
  have ha1 : a1 < 2 ^ 1 := by simp only [show (2 : Nat) ^ 0 = 1 from rfl, show (2 : Nat) ^ 1 = 2 from rfl] at *; omega
  have ha2 : a2 < 2 ^ 2 := by simp only [show (2 : Nat) ^ 1 = 2 from rfl, show (2 : Nat) ^ 2 = 4 from rfl] at *; omega
  have ha3 : a3 < 2 ^ 3 := by simp only [show (2 : Nat) ^ 2 = 4 from rfl, show (2 : Nat) ^ 3 = 8 from rfl] at *; omega
  have EA : a4 = n / 16 ^ s % 16 := by rw [← HB]; omega
  rw [← EA]
  go_enter Try.func102, Try.ntmps102
  have hM0 := Mem.start w
  (go_step; go_step; refine wp_region_lit ?_)
  refine wl_new hM0 (f := fun b => .pointer (some ⟨b, 0, none⟩)) (ob := .cells (elR n) 25 (0, 0)) (fun W => run_box_of rfl rfl (bx_Wn n W)) rfl fun b1 W1 hM1 => ?_
  simp only [Act.put, List.setIfInBounds_toArray, List.set_cons_zero, List.set_cons_succ]
  refine wl_pure (v := .int .u64 ((0 : Nat) : Int)) (fun _ => rfl) rfl ?_
  simp only [Act.put, List.setIfInBounds_toArray, List.set_cons_zero, List.set_cons_succ]
  refine wpList_nil ?_
  (go_step; go_step; go_step; refine wp_region_lit ?_)
  refine wl_pure (v := .int .u64 ((0 : Nat) : Int)) (fun _ => rfl) rfl ?_
  simp only [Act.put, List.setIfInBounds_toArray, List.set_cons_zero, List.set_cons_succ]
  refine wpList_nil ?_
  simp only [show ((0 : Nat) : Int) = (a0 : Int) by rw [ea0]]
  (go_step; go_step; go_step; go_step; refine wp_region_lit ?_)
  refine wl_pure (v := .int .i64 0) (fun _ => rfl) rfl ?_
  simp only [Act.put, List.setIfInBounds_toArray, List.set_cons_zero, List.set_cons_succ]
  refine wpList_nil ?_
  (go_step; go_step; go_step; refine wp_loop_rounds 5 ?_)
  rw [rounds_succ]
  (go_step; refine wp_region_lit ?_)
  refine wl_pure (v := .bool true) (fun W => by go_simp) rfl ?_
  simp only [Act.put, List.setIfInBounds_toArray, List.set_cons_zero, List.set_cons_succ]
  refine wpList_nil ?_
  (go_step; go_step; go_step; go_step; go_step; go_step; go_step; go_step; go_step; go_step; refine wp_region_lit ?_)
  refine wl_pure (v := .int .i64 0) (fun _ => rfl) rfl ?_
  simp only [Act.put, List.setIfInBounds_toArray, List.set_cons_zero, List.set_cons_succ]
  refine wl_pure (v := .int .i64 0) (fun _ => rfl) rfl ?_
  simp only [Act.put, List.setIfInBounds_toArray, List.set_cons_zero, List.set_cons_succ]
  refine wpList_nil ?_
  (go_step; go_step; refine wp_region_lit ?_)
  refine wl_pure (v := .int .u64 (a0 : Int)) (fun _ => rfl) rfl ?_
  simp only [Act.put, List.setIfInBounds_toArray, List.set_cons_zero, List.set_cons_succ]
  refine wl_row hM1 0 (v := numV n) rfl rfl rfl rfl rowWn rfl ?_
  simp only [Act.put, List.setIfInBounds_toArray, List.set_cons_zero, List.set_cons_succ]
  refine wl_pure (v := .int .i64 (s : Int)) (fun _ => rfl) rfl ?_
  simp only [Act.put, List.setIfInBounds_toArray, List.set_cons_zero, List.set_cons_succ]
  refine wl_pure (v := .int .i64 ((4 * s : Nat) : Int)) (fun W => run_bin_of rfl rfl rfl (bin_mul4 s hs _ _ W)) rfl ?_
  simp only [Act.put, List.setIfInBounds_toArray, List.set_cons_zero, List.set_cons_succ]
  refine wl_pure (v := .int .i64 0) (fun _ => rfl) rfl ?_
  simp only [Act.put, List.setIfInBounds_toArray, List.set_cons_zero, List.set_cons_succ]
  refine wl_pure (v := .int .i64 ((4 * s + 0 : Nat) : Int)) (fun W => run_bin_of rfl rfl rfl (bin_add_i0 (4 * s) _ (by omega) rfl _ _ W)) rfl ?_
  simp only [Act.put, List.setIfInBounds_toArray, List.set_cons_zero, List.set_cons_succ]
  refine wl_call hM1 (args := #[numV n, .int .i64 ((4 * s + 0 : Nat) : Int)]) (v := .int .u64 (d0 : Int)) (fun W => run_call_fn W (enters_of Try.func53 rfl rfl) rfl (by simp [Act.eval])) ((fun W => bitd n (4 * s + 0) d0 hd0 (by omega) W) W1) rfl fun W2 hM2 => ?_
  simp only [Act.put, List.setIfInBounds_toArray, List.set_cons_zero, List.set_cons_succ]
  refine wl_pure (v := .int .i64 0) (fun _ => rfl) rfl ?_
  simp only [Act.put, List.setIfInBounds_toArray, List.set_cons_zero, List.set_cons_succ]
  refine wl_pure (v := .int .u64 ((d0 * 1 : Nat) : Int)) (fun W => run_bin_of rfl rfl rfl (bin_shl_u0 d0 hl0 _ _ W)) rfl ?_
  simp only [Act.put, List.setIfInBounds_toArray, List.set_cons_zero, List.set_cons_succ]
  refine wl_pure (v := .int .u64 (a1 : Int)) (fun W => run_bin_of rfl rfl rfl (by rw [ea1]; exact bin_or_u 0 (by decide) a0 d0 ha0 hl0 _ rfl _ _ W)) rfl ?_
  simp only [Act.put, List.setIfInBounds_toArray, List.set_cons_zero, List.set_cons_succ]
  refine wl_pure (v := .int .u64 (a1 : Int)) (fun _ => rfl) rfl ?_
  simp only [Act.put, List.setIfInBounds_toArray, List.set_cons_zero, List.set_cons_succ]
  refine wpList_nil ?_
  (go_step; go_step; refine wp_region_lit ?_)
  refine wl_pure (v := .int .i64 1) (fun W => by go_simp; decide) rfl ?_
  simp only [Act.put, List.setIfInBounds_toArray, List.set_cons_zero, List.set_cons_succ]
  refine wl_pure (v := .int .i64 1) (fun _ => rfl) rfl ?_
  simp only [Act.put, List.setIfInBounds_toArray, List.set_cons_zero, List.set_cons_succ]
  refine wpList_nil ?_
  go_step
  rw [rounds_succ]
  (go_step; refine wp_region_lit ?_)
  refine wl_pure (v := .bool true) (fun W => by go_simp) rfl ?_
  simp only [Act.put, List.setIfInBounds_toArray, List.set_cons_zero, List.set_cons_succ]
  refine wpList_nil ?_
  (go_step; go_step; go_step; go_step; go_step; go_step; go_step; go_step; go_step; go_step; refine wp_region_lit ?_)
  refine wl_pure (v := .int .i64 1) (fun _ => rfl) rfl ?_
  simp only [Act.put, List.setIfInBounds_toArray, List.set_cons_zero, List.set_cons_succ]
  refine wl_pure (v := .int .i64 1) (fun _ => rfl) rfl ?_
  simp only [Act.put, List.setIfInBounds_toArray, List.set_cons_zero, List.set_cons_succ]
  refine wpList_nil ?_
  (go_step; go_step; refine wp_region_lit ?_)
  refine wl_pure (v := .int .u64 (a1 : Int)) (fun _ => rfl) rfl ?_
  simp only [Act.put, List.setIfInBounds_toArray, List.set_cons_zero, List.set_cons_succ]
  refine wl_row hM2 0 (v := numV n) rfl rfl rfl rfl rowWn rfl ?_
  simp only [Act.put, List.setIfInBounds_toArray, List.set_cons_zero, List.set_cons_succ]
  refine wl_pure (v := .int .i64 (s : Int)) (fun _ => rfl) rfl ?_
  simp only [Act.put, List.setIfInBounds_toArray, List.set_cons_zero, List.set_cons_succ]
  refine wl_pure (v := .int .i64 ((4 * s : Nat) : Int)) (fun W => run_bin_of rfl rfl rfl (bin_mul4 s hs _ _ W)) rfl ?_
  simp only [Act.put, List.setIfInBounds_toArray, List.set_cons_zero, List.set_cons_succ]
  refine wl_pure (v := .int .i64 1) (fun _ => rfl) rfl ?_
  simp only [Act.put, List.setIfInBounds_toArray, List.set_cons_zero, List.set_cons_succ]
  refine wl_pure (v := .int .i64 ((4 * s + 1 : Nat) : Int)) (fun W => run_bin_of rfl rfl rfl (bin_add_i1 (4 * s) _ (by omega) rfl _ _ W)) rfl ?_
  simp only [Act.put, List.setIfInBounds_toArray, List.set_cons_zero, List.set_cons_succ]
  refine wl_call hM2 (args := #[numV n, .int .i64 ((4 * s + 1 : Nat) : Int)]) (v := .int .u64 (d1 : Int)) (fun W => run_call_fn W (enters_of Try.func53 rfl rfl) rfl (by simp [Act.eval])) ((fun W => bitd n (4 * s + 1) d1 hd1 (by omega) W) W2) rfl fun W3 hM3 => ?_
  simp only [Act.put, List.setIfInBounds_toArray, List.set_cons_zero, List.set_cons_succ]
  refine wl_pure (v := .int .i64 1) (fun _ => rfl) rfl ?_
  simp only [Act.put, List.setIfInBounds_toArray, List.set_cons_zero, List.set_cons_succ]
  refine wl_pure (v := .int .u64 ((d1 * 2 : Nat) : Int)) (fun W => run_bin_of rfl rfl rfl (bin_shl_u1 d1 hl1 _ _ W)) rfl ?_
  simp only [Act.put, List.setIfInBounds_toArray, List.set_cons_zero, List.set_cons_succ]
  refine wl_pure (v := .int .u64 (a2 : Int)) (fun W => run_bin_of rfl rfl rfl (by rw [ea2]; exact bin_or_u 1 (by decide) a1 d1 ha1 hl1 _ rfl _ _ W)) rfl ?_
  simp only [Act.put, List.setIfInBounds_toArray, List.set_cons_zero, List.set_cons_succ]
  refine wl_pure (v := .int .u64 (a2 : Int)) (fun _ => rfl) rfl ?_
  simp only [Act.put, List.setIfInBounds_toArray, List.set_cons_zero, List.set_cons_succ]
  refine wpList_nil ?_
  (go_step; go_step; refine wp_region_lit ?_)
  refine wl_pure (v := .int .i64 2) (fun W => by go_simp; decide) rfl ?_
  simp only [Act.put, List.setIfInBounds_toArray, List.set_cons_zero, List.set_cons_succ]
  refine wl_pure (v := .int .i64 2) (fun _ => rfl) rfl ?_
  simp only [Act.put, List.setIfInBounds_toArray, List.set_cons_zero, List.set_cons_succ]
  refine wpList_nil ?_
  go_step
  rw [rounds_succ]
  (go_step; refine wp_region_lit ?_)
  refine wl_pure (v := .bool true) (fun W => by go_simp) rfl ?_
  simp only [Act.put, List.setIfInBounds_toArray, List.set_cons_zero, List.set_cons_succ]
  refine wpList_nil ?_
  (go_step; go_step; go_step; go_step; go_step; go_step; go_step; go_step; go_step; go_step; refine wp_region_lit ?_)
  refine wl_pure (v := .int .i64 2) (fun _ => rfl) rfl ?_
  simp only [Act.put, List.setIfInBounds_toArray, List.set_cons_zero, List.set_cons_succ]
  refine wl_pure (v := .int .i64 2) (fun _ => rfl) rfl ?_
  simp only [Act.put, List.setIfInBounds_toArray, List.set_cons_zero, List.set_cons_succ]
  refine wpList_nil ?_
  (go_step; go_step; refine wp_region_lit ?_)
  refine wl_pure (v := .int .u64 (a2 : Int)) (fun _ => rfl) rfl ?_
  simp only [Act.put, List.setIfInBounds_toArray, List.set_cons_zero, List.set_cons_succ]
  refine wl_row hM3 0 (v := numV n) rfl rfl rfl rfl rowWn rfl ?_
  simp only [Act.put, List.setIfInBounds_toArray, List.set_cons_zero, List.set_cons_succ]
  refine wl_pure (v := .int .i64 (s : Int)) (fun _ => rfl) rfl ?_
  simp only [Act.put, List.setIfInBounds_toArray, List.set_cons_zero, List.set_cons_succ]
  refine wl_pure (v := .int .i64 ((4 * s : Nat) : Int)) (fun W => run_bin_of rfl rfl rfl (bin_mul4 s hs _ _ W)) rfl ?_
  simp only [Act.put, List.setIfInBounds_toArray, List.set_cons_zero, List.set_cons_succ]
  refine wl_pure (v := .int .i64 2) (fun _ => rfl) rfl ?_
  simp only [Act.put, List.setIfInBounds_toArray, List.set_cons_zero, List.set_cons_succ]
  refine wl_pure (v := .int .i64 ((4 * s + 2 : Nat) : Int)) (fun W => run_bin_of rfl rfl rfl (bin_add_i2 (4 * s) _ (by omega) rfl _ _ W)) rfl ?_
  simp only [Act.put, List.setIfInBounds_toArray, List.set_cons_zero, List.set_cons_succ]
  refine wl_call hM3 (args := #[numV n, .int .i64 ((4 * s + 2 : Nat) : Int)]) (v := .int .u64 (d2 : Int)) (fun W => run_call_fn W (enters_of Try.func53 rfl rfl) rfl (by simp [Act.eval])) ((fun W => bitd n (4 * s + 2) d2 hd2 (by omega) W) W3) rfl fun W4 hM4 => ?_
  simp only [Act.put, List.setIfInBounds_toArray, List.set_cons_zero, List.set_cons_succ]
  refine wl_pure (v := .int .i64 2) (fun _ => rfl) rfl ?_
  simp only [Act.put, List.setIfInBounds_toArray, List.set_cons_zero, List.set_cons_succ]
  refine wl_pure (v := .int .u64 ((d2 * 4 : Nat) : Int)) (fun W => run_bin_of rfl rfl rfl (bin_shl_u2 d2 hl2 _ _ W)) rfl ?_
  simp only [Act.put, List.setIfInBounds_toArray, List.set_cons_zero, List.set_cons_succ]
  refine wl_pure (v := .int .u64 (a3 : Int)) (fun W => run_bin_of rfl rfl rfl (by rw [ea3]; exact bin_or_u 2 (by decide) a2 d2 ha2 hl2 _ rfl _ _ W)) rfl ?_
  simp only [Act.put, List.setIfInBounds_toArray, List.set_cons_zero, List.set_cons_succ]
  refine wl_pure (v := .int .u64 (a3 : Int)) (fun _ => rfl) rfl ?_
  simp only [Act.put, List.setIfInBounds_toArray, List.set_cons_zero, List.set_cons_succ]
  refine wpList_nil ?_
  (go_step; go_step; refine wp_region_lit ?_)
  refine wl_pure (v := .int .i64 3) (fun W => by go_simp; decide) rfl ?_
  simp only [Act.put, List.setIfInBounds_toArray, List.set_cons_zero, List.set_cons_succ]
  refine wl_pure (v := .int .i64 3) (fun _ => rfl) rfl ?_
  simp only [Act.put, List.setIfInBounds_toArray, List.set_cons_zero, List.set_cons_succ]
  refine wpList_nil ?_
  go_step
  rw [rounds_succ]
  (go_step; refine wp_region_lit ?_)
  refine wl_pure (v := .bool true) (fun W => by go_simp) rfl ?_
  simp only [Act.put, List.setIfInBounds_toArray, List.set_cons_zero, List.set_cons_succ]
  refine wpList_nil ?_
  (go_step; go_step; go_step; go_step; go_step; go_step; go_step; go_step; go_step; go_step; refine wp_region_lit ?_)
  refine wl_pure (v := .int .i64 3) (fun _ => rfl) rfl ?_
  simp only [Act.put, List.setIfInBounds_toArray, List.set_cons_zero, List.set_cons_succ]
  refine wl_pure (v := .int .i64 3) (fun _ => rfl) rfl ?_
  simp only [Act.put, List.setIfInBounds_toArray, List.set_cons_zero, List.set_cons_succ]
  refine wpList_nil ?_
  (go_step; go_step; refine wp_region_lit ?_)
  refine wl_pure (v := .int .u64 (a3 : Int)) (fun _ => rfl) rfl ?_
  simp only [Act.put, List.setIfInBounds_toArray, List.set_cons_zero, List.set_cons_succ]
  refine wl_row hM4 0 (v := numV n) rfl rfl rfl rfl rowWn rfl ?_
  simp only [Act.put, List.setIfInBounds_toArray, List.set_cons_zero, List.set_cons_succ]
  refine wl_pure (v := .int .i64 (s : Int)) (fun _ => rfl) rfl ?_
  simp only [Act.put, List.setIfInBounds_toArray, List.set_cons_zero, List.set_cons_succ]
  refine wl_pure (v := .int .i64 ((4 * s : Nat) : Int)) (fun W => run_bin_of rfl rfl rfl (bin_mul4 s hs _ _ W)) rfl ?_
  simp only [Act.put, List.setIfInBounds_toArray, List.set_cons_zero, List.set_cons_succ]
  refine wl_pure (v := .int .i64 3) (fun _ => rfl) rfl ?_
  simp only [Act.put, List.setIfInBounds_toArray, List.set_cons_zero, List.set_cons_succ]
  refine wl_pure (v := .int .i64 ((4 * s + 3 : Nat) : Int)) (fun W => run_bin_of rfl rfl rfl (bin_add_i3 (4 * s) _ (by omega) rfl _ _ W)) rfl ?_
  simp only [Act.put, List.setIfInBounds_toArray, List.set_cons_zero, List.set_cons_succ]
  refine wl_call hM4 (args := #[numV n, .int .i64 ((4 * s + 3 : Nat) : Int)]) (v := .int .u64 (d3 : Int)) (fun W => run_call_fn W (enters_of Try.func53 rfl rfl) rfl (by simp [Act.eval])) ((fun W => bitd n (4 * s + 3) d3 hd3 (by omega) W) W4) rfl fun W5 hM5 => ?_
  simp only [Act.put, List.setIfInBounds_toArray, List.set_cons_zero, List.set_cons_succ]
  refine wl_pure (v := .int .i64 3) (fun _ => rfl) rfl ?_
  simp only [Act.put, List.setIfInBounds_toArray, List.set_cons_zero, List.set_cons_succ]
  refine wl_pure (v := .int .u64 ((d3 * 8 : Nat) : Int)) (fun W => run_bin_of rfl rfl rfl (bin_shl_u3 d3 hl3 _ _ W)) rfl ?_
  simp only [Act.put, List.setIfInBounds_toArray, List.set_cons_zero, List.set_cons_succ]
  refine wl_pure (v := .int .u64 (a4 : Int)) (fun W => run_bin_of rfl rfl rfl (by rw [ea4]; exact bin_or_u 3 (by decide) a3 d3 ha3 hl3 _ rfl _ _ W)) rfl ?_
  simp only [Act.put, List.setIfInBounds_toArray, List.set_cons_zero, List.set_cons_succ]
  refine wl_pure (v := .int .u64 (a4 : Int)) (fun _ => rfl) rfl ?_
  simp only [Act.put, List.setIfInBounds_toArray, List.set_cons_zero, List.set_cons_succ]
  refine wpList_nil ?_
  (go_step; go_step; refine wp_region_lit ?_)
  refine wl_pure (v := .int .i64 4) (fun W => by go_simp; decide) rfl ?_
  simp only [Act.put, List.setIfInBounds_toArray, List.set_cons_zero, List.set_cons_succ]
  refine wl_pure (v := .int .i64 4) (fun _ => rfl) rfl ?_
  simp only [Act.put, List.setIfInBounds_toArray, List.set_cons_zero, List.set_cons_succ]
  refine wpList_nil ?_
  go_step
  rw [rounds_succ]
  (go_step; refine wp_region_lit ?_)
  refine wl_pure (v := .bool false) (fun W => by go_simp) rfl ?_
  simp only [Act.put, List.setIfInBounds_toArray, List.set_cons_zero, List.set_cons_succ]
  refine wpList_nil ?_
  (go_step; go_step; go_step; go_step; go_step; go_step; go_step; go_step; refine wp_region_lit ?_)
  refine wl_pure (v := .int .u64 (a4 : Int)) (fun _ => rfl) rfl ?_
  simp only [Act.put, List.setIfInBounds_toArray, List.set_cons_zero, List.set_cons_succ]
  refine wl_pure (v := .int .u64 (a4 : Int)) (fun _ => rfl) rfl ?_
  simp only [Act.put, List.setIfInBounds_toArray, List.set_cons_zero, List.set_cons_succ]
  refine wpList_nil ?_
  (go_step; go_step; go_step; refine bodyPost_ret (v := .int .u64 (a4 : Int)) (results_slot Try.results102 rfl) rfl ⟨?_, hM5.below⟩)
  exact rfl
end Go.Proofs.Ytigfoophimjgdaa
namespace Go.Proofs.Ytigfoophimjgdaa
set_option maxRecDepth 20000
set_option linter.unusedSimpArgs false
set_option linter.unusedVariables false
open Go.RowKit Go.Sort
def z256 : Array Value := (List.replicate 256 (Value.int .u64 0)).toArray
theorem one_z256 : z256.all (·.oneCell') = true := by kernel_rfl
theorem al_T (W : World) : (Instr.alloc 135 true (.tuple #[])).run Try.prog W = .ok (.pointer (some ⟨W.heap.size, 0, none⟩)) (W.alloc (.cells z256 135 (0, 0))) := by
  kernel_rfl
theorem rowT : RowTy Try.prog 135 256 := ⟨.inr ⟨_, _, Try.underlying135⟩, by kernel_rfl⟩
theorem bdT (a : N4) (W : World) : (Instr.build 135 #[(0, pv4 a)]).run Try.prog W = .ok (.agg (pl4 a ++ List.replicate 240 (Value.int .u64 0)).toArray) W := by
  kernel_rfl
theorem one_T (a : N4) : ((pl4 a ++ List.replicate 240 (Value.int .u64 0)).toArray).all (·.oneCell') = true := by
  kernel_rfl
theorem tab_succ (a : N4) (n : Nat) : tab a (n + 1) = add4 (tab a n) a := by rw [tab]
theorem tab_zero (a : N4) : tab a 0 = zero4 := by rw [tab]
/-- The table so far, and what is not there yet. -/
def trow (a : N4) (j : Nat) : Array Value := (tabL a (j + 1) ++ List.replicate (16 * (15 - j)) (Value.int .u64 0)).toArray
theorem trow_zero (a : N4) : (pl4 zero4 ++ List.replicate 240 (Value.int .u64 0)).toArray = trow a 0 := by
  unfold trow
  rw [tabL_succ, tab_zero]
  rfl
theorem trow_size (a : N4) (j : Nat) (h : j ≤ 15) : (trow a j).size = 256 := by
  show (tabL a (j + 1) ++ List.replicate (16 * (15 - j)) (Value.int .u64 0)).toArray.size = 256
  rw [List.size_toArray, List.length_append, tabL_length, List.length_replicate]
  omega
theorem trow_at (a : N4) (j : Nat) : ((trow a j).toList.drop (16 * j)).take (pc4 (tab a j)).size = (pc4 (tab a j)).toList := tabL_at a (j + 1) j (Nat.lt_succ_self _) _
theorem trow_set (a : N4) (j : Nat) (h : j < 15) : (trow a j).toList.take (16 * (j + 1)) ++ (pc4 (tab a (j + 1))).toList ++ (trow a j).toList.drop (16 * (j + 1) + (pc4 (tab a (j + 1))).size) = (trow a (j + 1)).toList := by
  show (tabL a (j + 1) ++ List.replicate (16 * (15 - j)) (Value.int .u64 0)).take (16 * (j + 1)) ++ pl4 (tab a (j + 1)) ++ (tabL a (j + 1) ++ List.replicate (16 * (15 - j)) (Value.int .u64 0)).drop (16 * (j + 1) + 16) = tabL a (j + 1 + 1) ++ List.replicate (16 * (15 - (j + 1))) (Value.int .u64 0)
  rw [List.take_left' (tabL_length a (j + 1)), ← List.drop_drop, List.drop_left' (tabL_length a (j + 1)), List.drop_replicate, tabL_succ a (j + 1)]
  congr 2
  omega
theorem trow_full (a : N4) : trow a 15 = (tabL a 16).toArray := by
  unfold trow
  rw [show 16 * (15 - 15) = 0 from rfl, List.replicate_zero, List.append_nil]
theorem one_p4' (a : N4) : (pc4 a).all (·.oneCell') = true := one_p4 a
theorem ix_T (b j : Nat) (hj : j < 16) (n : Int) (hn : n = (j : Int)) (W : World) : (Instr.indexAt 135 (.pointer (some ⟨b, 0, none⟩)) (.int .i64 n)).run Try.prog W = .ok (.pointer (some ⟨b, 16 * j, none⟩)) W := by
  subst hn
  have h1 : (0 : Int) ≤ (j : Int) := by omega
  have h2 : (j : Int) < 16 := by omega
  have e : (⟨b, 0, none⟩ : Addr).add (j * 16) = ⟨b, 16 * j, none⟩ := by unfold Addr.add; rw [Nat.mul_comm]; split <;> simp_all
  go_simp
theorem bin_lss16 (n : Int) (x y : Operand) (W : World) : (do eqGuard .lss 3 x y (.int .i64 n) (.int .i64 16); binOp .lss 3 (.int .i64 n) (.int .i64 16) : Sem Value).run Try.prog W = .ok (.bool (decide (n < 16))) W := by
  go_simp
theorem bin_dec (n m : Int) (x y : Operand) (W : World) (h : n - 1 = m) (h0 : 0 ≤ m) (h1 : m ≤ 1000000) : (do eqGuard .sub 3 x y (.int .i64 n) (.int .i64 1); binOp .sub 3 (.int .i64 n) (.int .i64 1) : Sem Value).run Try.prog W = .ok (.int .i64 m) W := by
  have e : IntKind.i64.wrap (n - 1) = m := by rw [IntWalk.i64_in _ (by omega)]; exact h
  clear h
  go_simp
theorem bin_inc (n m : Int) (x y : Operand) (W : World) (h : n + 1 = m) (h0 : 0 ≤ m) (h1 : m ≤ 1000000) : (do eqGuard .add 3 x y (.int .i64 n) (.int .i64 1); binOp .add 3 (.int .i64 n) (.int .i64 1) : Sem Value).run Try.prog W = .ok (.int .i64 m) W := by
  have e : IntKind.i64.wrap (n + 1) = m := by rw [IntWalk.i64_in _ (by omega)]; exact h
  clear h
  go_simp
theorem one_all (a : N4) : ∀ n, ((tabL a n).toArray).all (·.oneCell') = true
  | 0 => by
    unfold tabL
    simp
  | n + 1 => by
    have h1 := one_all a n
    have h2 := one_p4 (tab a n)
    rw [tabL_succ]
    simp only [List.all_toArray, List.all_append, Bool.and_eq_true] at h1 h2 ⊢
    exact ⟨h1, by simpa [pc4] using h2⟩
theorem one_tab (a : N4) : ((tabL a 16).toArray).all (·.oneCell') = true := one_all a 16
set_option maxRecDepth 20000 in
set_option maxHeartbeats 8000000 in
theorem multiples_any {a : N4} {p : Pt} (ha : Ok4 a p) (w : World) : Calls Try.prog 98 #[pv4 a, .func (.func 42) #[numV dN] #[]] w fun E w' => E = .returned (.agg (tabL a 16).toArray) ∧ Below w.heap.size w w' := by
  have HMIX := Lib.hid (show Try.prog.follows .mixedOrders = true by kernel_rfl)
  go_enter Try.func98, Try.ntmps98
  have hM0 := Mem.start w
  (go_step; go_step; refine wp_region_lit ?_)
  refine wl_new hM0 (f := fun b => .pointer (some ⟨b, 0, none⟩)) (ob := .cells ((pc4 a)) 30 (0, 0)) (fun W => run_box_of rfl rfl (bx_P4 _ W)) rfl fun b1 W1 hM1 => ?_
  simp only [Act.put, List.setIfInBounds_toArray, List.set_cons_zero, List.set_cons_succ]
  refine wl_new hM1 (f := fun b => .pointer (some ⟨b, 0, none⟩)) (ob := .cells z256 135 (0, 0)) (fun W => run_alloc_of rfl (al_T W)) rfl fun b2 W2 hM2 => ?_
  simp only [Act.put, List.setIfInBounds_toArray, List.set_cons_zero, List.set_cons_succ]
  refine wpList_nil ?_
  (go_step; go_step; go_step; refine wp_region_lit ?_)
  refine wl_call hM2 (args := #[]) (v := pv4 zero4) (fun W => run_call_fn W (enters_of Try.func40 rfl rfl) rfl (by simp [Act.eval])) (zero4_any W2) rfl fun W3 hM3 => ?_
  simp only [Act.put, List.setIfInBounds_toArray, List.set_cons_zero, List.set_cons_succ]
  refine wl_pure (v := .agg (pl4 zero4 ++ List.replicate 240 (Value.int .u64 0)).toArray) (fun W => run_build_of rfl (by simp [Act.eval]) (bdT zero4 W)) rfl ?_
  simp only [Act.put, List.setIfInBounds_toArray, List.set_cons_zero, List.set_cons_succ]
  refine wl_new hM3 (f := fun b => .pointer (some ⟨b, 0, none⟩)) (ob := .cells z256 135 (0, 0)) (fun W => run_alloc_of rfl (al_T W)) rfl fun b3 W4 hM4 => ?_
  simp only [Act.put, List.setIfInBounds_toArray, List.set_cons_zero, List.set_cons_succ]
  refine wl_set hM4 0 (cs := ((pl4 zero4 ++ List.replicate 240 (Value.int .u64 0)).toArray)) rfl rfl rfl rfl rowT rfl (one_T _) rfl rfl fun W5 hM5 => ?_
  simp only [List.set_cons_zero, List.set_cons_succ] at hM5
  refine wpList_nil ?_
  (go_step; go_step; go_step; go_step; refine wp_region_lit ?_)
  refine wl_pure (v := .int .i64 1) (fun _ => rfl) rfl ?_
  simp only [Act.put, List.setIfInBounds_toArray, List.set_cons_zero, List.set_cons_succ]
  refine wpList_nil ?_
  rw [trow_zero a] at hM5
  (go_step; go_step; go_step; go_loopw [6] (fun i wr => ∃ j : Nat, j ≤ 15 ∧ i = .int .i64 ((j : Int) + 1) ∧ Mem w [(b3, .cells (trow a j) 135 (0, 0)), (b2, .cells z256 135 (0, 0)), (b1, .cells ((pc4 a)) 30 (0, 0))] wr) (fun i _ => (17 - Go.RowKit.intOf i).toNat))
  case atStart => exact ⟨0, by omega, rfl, hM5⟩
  case round =>
    obtain ⟨j, hj, rfl, hR⟩ := hrel
    clear hM1 hM2 hM3 hM4 hM5
    obtain ⟨n, hn⟩ : ∃ n : Int, n = (j : Int) + 1 := ⟨_, rfl⟩
    rw [← hn]
    (go_step; go_step; go_step; refine wp_region_lit ?_)
    refine wl_pure (v := .int .i64 n) (fun _ => rfl) rfl ?_
    simp only [Act.put, List.setIfInBounds_toArray, List.set_cons_zero, List.set_cons_succ]
    obtain ⟨c1, hc1⟩ : ∃ x, x = decide (n < 16) := ⟨_, rfl⟩
    refine wl_pure (v := .bool c1) (fun W => run_bin_of rfl rfl rfl (by rw [hc1]; exact bin_lss16 n _ _ W)) rfl ?_
    simp only [Act.put, List.setIfInBounds_toArray, List.set_cons_zero, List.set_cons_succ]
    refine wpList_nil ?_
    cases c1
    · skip
      have hj15 : j = 15 := by
        have h9 := of_decide_eq_false hc1.symm
        omega
      subst hj15
      rw [trow_full a] at hR
      (go_step; go_step; go_step; go_step; go_step; go_step; go_step; go_step; go_step; refine wp_region_lit ?_)
      refine wl_row hR 0 (v := .agg (tabL a 16).toArray) rfl rfl rfl rfl rowT rfl ?_
      simp only [Act.put, List.setIfInBounds_toArray, List.set_cons_zero, List.set_cons_succ]
      refine wl_set hR 1 (cs := ((tabL a 16).toArray)) rfl rfl rfl rfl rowT rfl (one_tab a) rfl rfl fun W7 hM7 => ?_
      simp only [List.set_cons_zero, List.set_cons_succ] at hM7
      refine wpList_nil ?_
      (go_step; go_step; go_step; refine bodyPost_ret (v := .agg (tabL a 16).toArray) (results_arr Try.results98 rfl (hM7.load 1 rfl rowT)) rfl ⟨?_, hM7.below⟩)
      exact rfl
    · skip
      have hj15 : j < 15 := by
        have h9 := of_decide_eq_true hc1.symm
        omega
      obtain ⟨m, em⟩ : ∃ m : Int, m = (j : Int) := ⟨_, rfl⟩
      have hnm : n - 1 = m := by omega
      obtain ⟨j1, ej1⟩ : ∃ x, x = j + 1 := ⟨_, rfl⟩
      obtain ⟨n2, en2⟩ : ∃ m : Int, m = n + 1 := ⟨_, rfl⟩
      have hn2 : n + 1 = n2 := en2.symm
      have KA := Lib.hid (fun W => adderadd4 (ok4_tab ha j) ha W)
      rw [← tab_succ] at KA
      obtain ⟨tj, etj⟩ : ∃ x, x = tab a j := ⟨_, rfl⟩
      obtain ⟨tj1, etj1⟩ : ∃ x, x = tab a (j + 1) := ⟨_, rfl⟩
      rw [← etj, ← etj1] at KA
      (go_step; go_step; go_step; go_step; go_step; go_step; go_step; go_step; refine wp_region_inw 9 HMIX.out (by decide) (by kernel_rfl) (by kernel_rfl) ?_)
      refine inw_pure (v := .int .i64 n) (fun _ => rfl) rfl rfl ?_; simp only [Act.put, List.setIfInBounds_toArray, List.set_cons_zero, List.set_cons_succ]
      refine inw_pure (v := .func (.func 42) #[numV dN] #[]) (fun _ => rfl) rfl rfl ?_; simp only [Act.put, List.setIfInBounds_toArray, List.set_cons_zero, List.set_cons_succ]
      refine inw_pure (v := .int .i64 n) (fun _ => rfl) rfl rfl ?_; simp only [Act.put, List.setIfInBounds_toArray, List.set_cons_zero, List.set_cons_succ]
      refine inw_pure (v := .int .i64 m) (fun W => run_bin_of rfl rfl rfl (bin_dec n m _ _ W hnm (by omega) (by omega))) rfl rfl ?_; simp only [Act.put, List.setIfInBounds_toArray, List.set_cons_zero, List.set_cons_succ]
      refine inw_pure (v := .pointer (some ⟨b3, 16 * j, none⟩)) (fun W => run_index_of rfl rfl rfl (ix_T b3 j (by omega) m (by omega) W)) rfl rfl ?_; simp only [Act.put, List.setIfInBounds_toArray, List.set_cons_zero, List.set_cons_succ]
      refine inw_part hR 0 (v := pv4 tj) (sub := ((pc4 tj))) rfl rfl rfl rfl (by rw [etj]; exact trow_at a j) rowPt rfl rfl ?_; simp only [Act.put, List.setIfInBounds_toArray, List.set_cons_zero, List.set_cons_succ]
      refine inw_row hR 2 (v := pv4 a) rfl rfl rfl rfl rowPt rfl rfl ?_; simp only [Act.put, List.setIfInBounds_toArray, List.set_cons_zero, List.set_cons_succ]
      refine inw_callV (args := #[numV dN, pv4 tj, pv4 a]) (v := pv4 tj1) (fun W => run_call_dyn W (enters_of Try.func42 rfl rfl) rfl rfl (by simp [Act.eval]; rfl) rfl) (fun W _ => KA.out W) rfl rfl ?_; simp only [Act.put, List.setIfInBounds_toArray, List.set_cons_zero, List.set_cons_succ]
      refine inw_pure (v := .pointer (some ⟨b3, 16 * j1, none⟩)) (fun W => run_index_of rfl rfl rfl (ix_T b3 j1 (by omega) n (by omega) W)) rfl rfl ?_; simp only [Act.put, List.setIfInBounds_toArray, List.set_cons_zero, List.set_cons_succ]
      refine inw_fin fun d os => ?_
      refine given_nil fun hap => ?_
      have hM7 := hR.calls (below_regrown wr d os)
      clear hap 
      generalize grow (redrawn wr d) os = W7 at hM7 ⊢
      change wpAny _ _ _ _ 1 _ _ _
      refine any_setpart (n := 9) (by kernel_rfl) rfl hM7 0 (sub := ((pc4 tj1))) (new := (trow a j1)) rfl rfl rfl rfl (by rw [trow_size a j (by omega)]; show 16 * j1 + 16 ≤ 256; omega) (by rw [ej1, etj1]; exact trow_set a j hj15) rowPt (one_p4 _) rfl rfl fun W8 hM8 => ?_
      simp only [List.set_cons_zero, List.set_cons_succ] at hM8
      refine wpAny_done (by kernel_rfl) ?_ _
      (go_step; go_step; refine wp_region_lit ?_)
      refine wl_pure (v := .int .i64 n) (fun _ => rfl) rfl ?_
      simp only [Act.put, List.setIfInBounds_toArray, List.set_cons_zero, List.set_cons_succ]
      refine wl_pure (v := .int .i64 n2) (fun W => run_bin_of rfl rfl rfl (bin_inc n n2 _ _ W hn2 (by omega) (by omega))) rfl ?_
      simp only [Act.put, List.setIfInBounds_toArray, List.set_cons_zero, List.set_cons_succ]
      refine wl_pure (v := .int .i64 n2) (fun _ => rfl) rfl ?_
      simp only [Act.put, List.setIfInBounds_toArray, List.set_cons_zero, List.set_cons_succ]
      refine wpList_nil ?_
      go_roundw
      case rel =>
        refine ⟨_, _, _, _, _, _, _, _, _, _, _, _, _, _, ?_, rfl⟩
        refine ⟨j1, by omega, congrArg (Value.int .i64) (by omega), ?_⟩
        exact hM8
      case measure => simp [Go.RowKit.intOf]; omega
end Go.Proofs.Ytigfoophimjgdaa
