/- Parts of rows: a store behind a row's begin, a row that grows by append, what a row's tail forgets. No program in it. -/
import Derived.Test.YtdnkpclpcelbaaaDoorRoc
import Derived.Laws.AppendOwn
namespace Go.Proofs.YtdnkpclpcelbaaaDoor
set_option maxRecDepth 20000
set_option linter.unusedSimpArgs false
set_option linter.unusedVariables false
open Go.RowKit Go.Sort
section
variable {P : Program} {w w0 w' W : World} {M : List Blk} {o : Oper} {A : Act}
theorem Mem.tail {x : Blk} (h : Mem w0 (x :: M) w) : Mem w0 M w :=
  ⟨h.below, fun p hp => h.low p (List.mem_cons_of_mem _ hp), (List.pairwise_cons.1 h.nod).2, fun p hp => h.at_ p (List.mem_cons_of_mem _ hp)⟩
theorem Mem.swap {x y : Blk} (h : Mem w0 (x :: y :: M) w) : Mem w0 (y :: x :: M) w := by
  refine ⟨h.below, fun p hp => h.low p ?_, ?_, fun p hp => h.at_ p ?_⟩
  · simp only [List.mem_cons] at hp ⊢
    rcases hp with h1 | h1 | h1
    · exact .inr (.inl h1)
    · exact .inl h1
    · exact .inr (.inr h1)
  · have h1 := List.pairwise_cons.1 h.nod
    have h2 := List.pairwise_cons.1 h1.2
    refine List.pairwise_cons.2 ⟨fun p hp => ?_, List.pairwise_cons.2 ⟨fun p hp => h1.1 p (List.mem_cons_of_mem _ hp), h2.2⟩⟩
    rcases List.mem_cons.1 hp with rfl | hp
    · exact fun e => h1.1 y (by simp) e.symm
    · exact h2.1 p hp
  · simp only [List.mem_cons] at hp ⊢
    rcases hp with h1 | h1 | h1
    · exact .inr (.inl h1)
    · exact .inl h1
    · exact .inr (.inr h1)
/-- A value of several cells goes into a row, behind its begin. -/
theorem run_store_part {b off : Nat} {cs sub : Array Value} {t ty : TypeId} (hg : w.heap[b]? = some (.cells cs t (0, 0))) (hl : off + sub.size ≤ cs.size) (hT : (P.info? ty).map (·.size) = some sub.size) (h1 : sub.all (·.oneCell') = true) : (storeVar ty ⟨b, off, none⟩ (.agg sub)).run P w = .ok () (w.setRow b (cs.toList.take off ++ sub.toList ++ cs.toList.drop (off + sub.size)).toArray) := by
  have h := run_storeCells_at (P := P) b off t sub.toList 0 cs w hg (by simpa using hl) (fun x hx => by
    have := Array.all_eq_true'.1 h1 x (by simpa using hx)
    exact this)
  cases hq : P.info? ty with
  | none => simp [hq] at hT
  | some i =>
    have hs : i.size = sub.size := by simpa [hq] using hT
    have hc : (Value.agg sub).cells = sub := rfl
    simp [storeVar, hc, sizeOf, typeInfo, hq, hs, Sem.run_bind]
    rw [h]
    simp
theorem wp_setpart {K : Act → World → Prop} {Q : Exit → Act → World → Prop} (hM : Mem w0 M w) (i : Nat) {ty : TypeId} {x y : Operand} {b off : Nat} {t : TypeId} {cs sub new : Array Value} (ho : o.op = .store ty x y) (hx : A.eval x = .pointer (some ⟨b, off, none⟩)) (hy : A.eval y = .agg sub) (hi : M[i]? = some (b, .cells cs t (0, 0))) (hl : off + sub.size ≤ cs.size) (hn : cs.toList.take off ++ sub.toList ++ cs.toList.drop (off + sub.size) = new.toList) (hT : RowTy P ty sub.size) (h1 : sub.all (·.oneCell') = true)
    (hr : ∀ W, Mem w0 (M.set i (b, .cells new t (0, 0))) W → K (A.put o.dst undef) W) : o.wp P A w K Q := by
  unfold Oper.wp execOp
  simp only [ho, hx, hy, Instr.storeAt, Instr.sureAddr, Sem.run_bind, Sem.run_pure, Result.andThen_ok, run_store_part (hM.get i hi) hl hT.2 h1]
  rw [hn, Array.toArray_toList]
  exact hr _ (hM.set i hi)
theorem any_setpart {ops : Array Oper} {md : Region.Mode} {fuel : Nat} {listed : Array Bool} {Q : Exit → Act → World → Prop} {n : Nat} (hr : Region.ready md ops listed = [n]) (hn : ops[n]? = some o) (hM : Mem w0 M w) (i : Nat) {ty : TypeId} {x y : Operand} {b off : Nat} {t : TypeId} {cs sub new : Array Value} (ho : o.op = .store ty x y) (hx : A.eval x = .pointer (some ⟨b, off, none⟩)) (hy : A.eval y = .agg sub) (hi : M[i]? = some (b, .cells cs t (0, 0))) (hl : off + sub.size ≤ cs.size) (hnw : cs.toList.take off ++ sub.toList ++ cs.toList.drop (off + sub.size) = new.toList) (hT : RowTy P ty sub.size) (h1 : sub.all (·.oneCell') = true)
    (hgd : o.guard = none) (hd : o.dst = none) (hk : ∀ W, Mem w0 (M.set i (b, .cells new t (0, 0))) W → wpAny P md ops Q fuel (listed.setIfInBounds n true) A W) : wpAny P md ops Q (fuel + 1) listed A w :=
  any_one hr hn fun K hK => by
    rw [if_pos (by simp [Region.wanted, hgd])]
    refine wp_setpart hM i ho hx hy hi hl hnw hT h1 fun W hW => ?_
    rw [hd]
    exact hK _ _ (hk W hW)
/-- A call that turns blocks of the caller's. -/
theorem wl_callM {ops : Array Oper} {Q : Exit → Act → World → Prop} {rest : List Oper} {M' : List Blk} {f : FuncId} {args : Array Value} {v : Value} (h : ∀ W, (execOp A.eval o).run P W = .ok (.enter f args) W) (hc : Calls P f args w fun e w' => e = .returned v ∧ Mem w0 M' w') (hgd : Region.wanted o (yielded ops A.tmps) = true) (hr : ∀ W, Mem w0 M' W → wpList P ops Q rest (A.put o.dst v) W) : wpList P ops Q (o :: rest) A w := by
  refine wpList_step fun K hK => ?_
  rw [if_pos hgd]
  unfold Oper.wp
  rw [h]
  exact hc.mono fun e w' he => by
    obtain ⟨rfl, hm⟩ := he
    exact hK _ _ (hr _ hm)
/-- In a region without calls: one of several that may come, which makes a block. -/
theorem hdop_new {ops : Array Oper} {md : Region.Mode} {fuel : Nat} {listed : Array Bool} {Q : Exit → Act → World → Prop} {S : World → Prop} {n : Nat} {d : Tmp} {f : Nat → Value} {ob : Obj} (hn : ops[n]? = some o) (hdd : o.dst = some d) (hgd : o.guard = none) (hM : Mem w0 M w) (h : ∀ W, (execOp A.eval o).run P W = .ok (.value (f W.heap.size)) (W.alloc ob)) (L : Array Bool) (hL : listed.setIfInBounds n true = L)
    (hk : ∀ b W, Mem w0 ((b, ob) :: M) W → S W ∧ wpAnyH P md ops Q S fuel L (A.put (some d) (f b)) W) : Go.wpOp P ops Q n (fun a' w' => S w' ∧ wpAnyH P md ops Q S fuel (listed.setIfInBounds n true) a' w') A w := by
  unfold Go.wpOp
  simp only [hn]
  rw [if_pos (by simp [Region.wanted, hgd])]
  refine .inl ?_
  unfold Oper.wp
  rw [h]
  show S _ ∧ wpAnyH P md ops Q S fuel _ (A.put o.dst _) _
  rw [hdd, hL]
  exact hk _ _ (hM.new1 ob)
theorem wp_region_cut {id : Nat} {ops : Array Oper} {d : Bool} {Q Q' : Exit → Act → World → Prop} (hq : ∀ e a w, Q' e a w → Q e a w) (h : (Code.region id ops d).wp P Q' A w) : (Code.region id ops d).wp P Q A w := Code.wp_mono hq h
theorem below_grown {g : Nat} (hb : Below w0.heap.size w0 w) (hg : w.grownBy w' (some g)) (hl : w0.heap.size ≤ g) : Below w0.heap.size w0 w' := by
  exact ⟨hg.os.trans hb.os, hg.tape.trans hb.tape, hg.output.trans hb.output, Nat.le_trans hb.size hg.size, fun k hk => (hg.block k (Nat.lt_of_lt_of_le hk hb.size) (fun e => by cases e; omega)).trans (hb.block k hk)⟩
end
end Go.Proofs.YtdnkpclpcelbaaaDoor
