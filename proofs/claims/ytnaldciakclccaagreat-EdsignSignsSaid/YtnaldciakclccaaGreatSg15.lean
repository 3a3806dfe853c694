/- Lemmas of this proof. -/
import Derived.Laws.AppendOwn
import Derived.Deep.LoopGhost
import Derived.Test.YtnaldciakclccaaGreatSg14
import Derived.Test.YtnaldciakclccaaGreatSg04
namespace Go.Proofs.YtnaldciakclccaaGreat
set_option maxRecDepth 20000
set_option maxHeartbeats 8000000
set_option linter.unusedSimpArgs false
set_option linter.unusedVariables false
open Go.RowKit Go.Sort
section
variable {P:Program} {w w0 w' W:World} {M:List Blk} {o:Oper} {A:Act}
theorem Mem.tail {x:Blk} (h:Mem w0 (x::M) w):Mem w0 M w :=
 ⟨h.below,fun p hp=>h.low p (List.mem_cons_of_mem _ hp),(List.pairwise_cons.1 h.nod).2,fun p hp=>h.at_ p (List.mem_cons_of_mem _ hp)⟩
theorem Mem.swap {x y:Blk} (h:Mem w0 (x::y::M) w):Mem w0 (y::x::M) w:=by
 refine⟨h.below,fun p hp=>h.low p ?_,?_,fun p hp=>h.at_ p ?_⟩
 ·simp only[List.mem_cons] at hp ⊢
  rcases hp with h1 | h1 | h1
  ·exact .inr (.inl h1)
  ·exact .inl h1
  ·exact .inr (.inr h1)
 ·have h1:=List.pairwise_cons.1 h.nod
  have h2:=List.pairwise_cons.1 h1.2
  refine List.pairwise_cons.2 ⟨fun p hp=>?_,List.pairwise_cons.2 ⟨fun p hp=>h1.1 p (List.mem_cons_of_mem _ hp),h2.2⟩⟩
  rcases List.mem_cons.1 hp with rfl | hp
  ·exact fun e=>h1.1 y (by simp) e.symm
  ·exact h2.1 p hp
 ·simp only[List.mem_cons] at hp ⊢
  rcases hp with h1 | h1 | h1
  ·exact .inr (.inl h1)
  ·exact .inl h1
  ·exact .inr (.inr h1)
theorem Lb {b off:Nat} {cs sub:Array Value} {t ty:TypeId} (hg:w.heap[b]?=some (.cells cs t (0,0))) (hl:off+sub.size≤cs.size) (hT:(P.info? ty).map (·.size)=some sub.size) (h1:sub.all (·.oneCell')=true):(storeVar ty ⟨b,off,none⟩ (.agg sub)).run P w=.ok () (w.setRow b (cs.toList.take off++sub.toList++cs.toList.drop (off+sub.size)).toArray):=by
 have h:=run_storeCells_at (P:=P) b off t sub.toList 0 cs w hg (by simpa using hl) (fun x hx=>by
  have:=Array.all_eq_true'.1 h1 x (by simpa using hx)
  exact this)
 cases hq:P.info? ty with
 | none=>simp[hq] at hT
 | some i =>
   have hs:i.size=sub.size:=by simpa [hq] using hT
   have hc:(Value.agg sub).cells=sub:=rfl
   simp[storeVar,hc,sizeOf,typeInfo,hq,hs,Sem.run_bind]
   rw[h]
   simp
theorem SJ {K:Act→World→Prop} {Q:Exit→Act→World→Prop} (hM:Mem w0 M w) (i:Nat) {ty:TypeId} {x y:Operand} {b off:Nat} {t:TypeId} {cs sub new:Array Value} (ho:o.op=.store ty x y) (hx:A.eval x=.pointer (some ⟨b,off,none⟩)) (hy:A.eval y=.agg sub) (hi:M[i]?=some (b,.cells cs t (0,0))) (hl:off+sub.size≤cs.size) (hn:cs.toList.take off++sub.toList++cs.toList.drop (off+sub.size)=new.toList) (hT:C9 P ty sub.size) (h1:sub.all (·.oneCell')=true)
    (hr:∀ W,Mem w0 (M.set i (b,.cells new t (0,0))) W→K (A.put o.dst undef) W):o.wp P A w K Q:=by
 unfold Oper.wp execOp
 simp only[ho,hx,hy,Instr.storeAt,Instr.sureAddr,Sem.run_bind,Sem.run_pure,Result.andThen_ok,Lb (hM.get i hi) hl hT.2 h1]
 rw[hn,Array.toArray_toList]
 exact hr _ (hM.set i hi)
theorem PM {ops:Array Oper} {md:Region.Mode} {fuel:Nat} {listed:Array Bool} {Q:Exit→Act→World→Prop} {n:Nat} (hr:Region.ready md ops listed=[n]) (hn:ops[n]?=some o) (hM:Mem w0 M w) (i:Nat) {ty:TypeId} {x y:Operand} {b off:Nat} {t:TypeId} {cs sub new:Array Value} (ho:o.op=.store ty x y) (hx:A.eval x=.pointer (some ⟨b,off,none⟩)) (hy:A.eval y=.agg sub) (hi:M[i]?=some (b,.cells cs t (0,0))) (hl:off+sub.size≤cs.size) (hnw:cs.toList.take off++sub.toList++cs.toList.drop (off+sub.size)=new.toList) (hT:C9 P ty sub.size) (h1:sub.all (·.oneCell')=true)
    (hgd:o.guard=none) (hd:o.dst=none) (hk:∀ W,Mem w0 (M.set i (b,.cells new t (0,0))) W→wpAny P md ops Q fuel (listed.setIfInBounds n true) A W):wpAny P md ops Q (fuel+1) listed A w :=
 Eh hr hn fun K hK=>by
  rw[if_pos (by simp[Region.wanted,hgd])]
  refine SJ hM i ho hx hy hi hl hnw hT h1 fun W hW=>?_
  rw[hd]
  exact hK _ _ (hk W hW)
theorem IR {ops:Array Oper} {Q:Exit→Act→World→Prop} {rest:List Oper} {M':List Blk} {f:FuncId} {args:Array Value} {v:Value} (h:∀ W,(execOp A.eval o).run P W=.ok (.enter f args) W) (hc:Calls P f args w fun e w'=>e=.returned v∧Mem w0 M' w') (hgd:Region.wanted o (yielded ops A.tmps)=true) (hr:∀ W,Mem w0 M' W→wpList P ops Q rest (A.put o.dst v) W):wpList P ops Q (o::rest) A w:=by
 refine wpList_step fun K hK=>?_
 rw[if_pos hgd]
 unfold Oper.wp
 rw[h]
 exact hc.mono fun e w' he=>by
  obtain⟨rfl,hm⟩:=he
  exact hK _ _ (hr _ hm)
theorem Ra {g:Nat} (hb:Below w0.heap.size w0 w) (hg:w.grownBy w' (some g)) (hl:w0.heap.size≤g):Below w0.heap.size w0 w':=by
 exact⟨hg.os.trans hb.os,hg.tape.trans hb.tape,hg.output.trans hb.output,Nat.le_trans hb.size hg.size,fun k hk=>(hg.block k (Nat.lt_of_lt_of_le hk hb.size) (fun e=>by cases e;omega)).trans (hb.block k hk)⟩
end
theorem aK (a k:Nat) (M:Nat) (h:a<18446744073709551616) (hk:k<64) (hM:∀ i,M.testBit i=(decide (k≤i) && decide (i<64))):a &&& M=a/2^k*2^k:=by
 apply Nat.eq_of_testBit_eq
 intro i
 rw[Nat.testBit_and,hM,Nat.testBit_mul_two_pow,Nat.testBit_div_two_pow]
 by_cases h1:k≤i
 ·rw[show i-k+k=i by omega]
  by_cases h2:i<64
  ·simp[h1,h2]
  ·have h3:a.testBit i=false:=Nat.testBit_lt_two_pow (Nat.lt_of_lt_of_le h (by rw[show (18446744073709551616:Nat)=2^64 from rfl];exact Nat.pow_le_pow_right (by decide) (by omega)))
   simp[h1,h3]
 ·simp[h1]
theorem VY (k:Nat) (M:Nat) (hk:k<64) (e:M=(2^(64-k)-1)*2^k):∀ i,M.testBit i=(decide (k≤i) && decide (i<64)):=fun i=>by
 rw[e,Nat.testBit_mul_two_pow,Nat.testBit_two_pow_sub_one]
 by_cases h1:k≤i
 ·simp only[h1,decide_true,Bool.true_and]
  rw[decide_eq_decide]
  omega
 ·simp[h1]
theorem gI (a:Nat) (h:a<18446744073709551616):((a &&& 18446744073709551614) &&& 18446744073709551613) &&& 18446744073709551611=a/8*8:=by
 rw[Nat.and_assoc,Nat.and_assoc]
 rw[show 18446744073709551614 &&& (18446744073709551613 &&& 18446744073709551611)=18446744073709551608 from rfl]
 exact aK a 3 _ h (by decide) (VY 3 _ (by decide) (by decide))
theorem dX (a:Nat):((a &&& 9223372036854775807) &&& 13835058055282163711) ||| 4611686018427387904=a%4611686018427387904+4611686018427387904:=by
 rw[Nat.and_assoc,show 9223372036854775807 &&& 13835058055282163711=4611686018427387903 from rfl,show a &&& 4611686018427387903=a%4611686018427387904 from Nat.and_two_pow_sub_one_eq_mod a 62]
 have h2:=Nat.two_pow_add_eq_or_of_lt (i:=62) (b:=a%4611686018427387904) (by omega) 1
 rw[Nat.or_comm,Nat.add_comm]
 exact h2.symm
theorem Hp (a m d:Nat) (ha:a<18446744073709551616) (hm:m<18446744073709551616) (hd:a &&& (18446744073709551615-m)=d) (x y:Operand) (W:World):(do eqGuard .andNot 22 x y (.int .u64 (a:Int)) (.int .u64 (m:Int));binOp .andNot 22 (.int .u64 (a:Int)) (.int .u64 (m:Int)):Sem Value).run Tryz.prog W=.ok (.int .u64 (d:Int)) W:=by
 have e:bits .andNot .u64 (a:Int) (m:Int)=(d:Int):=by
  rw[← hd]
  exact u64_andNot_nat a m (by omega) (by omega)
 clear hd
 go_simp
theorem IY (a m d:Nat) (ha:a<18446744073709551616) (hm:m<18446744073709551616) (hd:a ||| m=d) (x y:Operand) (W:World):(do eqGuard .or 22 x y (.int .u64 (a:Int)) (.int .u64 (m:Int));binOp .or 22 (.int .u64 (a:Int)) (.int .u64 (m:Int)):Sem Value).run Tryz.prog W=.ok (.int .u64 (d:Int)) W:=by
 have e:bits .or .u64 (a:Int) (m:Int)=(d:Int):=by
  rw[← hd]
  exact u64_or_nat a m (by omega) (by omega)
 clear hd
 go_simp
theorem JT (b:Nat) (W:World):(Instr.indexAt 24 (.pointer (some ⟨b,0,none⟩)) (.int .i64 0)).run Tryz.prog W=.ok (.pointer (some ⟨b,0,none⟩)) W:=by
 go_simp
theorem Jr:Df Tryz.prog 3:=⟨⟨_,Tryz.underlying3,rfl⟩,by kernel_rfl⟩
theorem gH (a b c d:Int) (W:World):(Instr.buildSlice 142 4 #[(0,.int .i64 a),(1,.int .i64 b),(2,.int .i64 c),(3,.int .i64 d)]).run Tryz.prog W=.ok (.slice (some ⟨W.heap.size,0,none⟩) 4 4) (W.alloc (.cells #[.int .i64 a,.int .i64 b,.int .i64 c,.int .i64 d] 3 (0,0))):=by
 go_simp
theorem ie (a:Int) (W:World):(Instr.buildSlice 142 1 #[(0,.int .i64 a)]).run Tryz.prog W=.ok (.slice (some ⟨W.heap.size,0,none⟩) 1 1) (W.alloc (.cells #[.int .i64 a] 3 (0,0))):=by
 go_simp
def clN (n:Nat):Nat:=Dq (fun i=>if i=0 then wd n 0/8*8 else if i=3 then wd n 3%4611686018427387904+4611686018427387904 else wd n i) 4
theorem Hm (n i:Nat) (h:i<4):wd (clN n) i=if i=0 then wd n 0/8*8 else if i=3 then wd n 3%4611686018427387904+4611686018427387904 else wd n i:=by
 have hB:B64=18446744073709551616:=rfl
 exact Km _ (fun k=>by
  have h1:=Cq n 0
  have h2:=Cq n k
  have h3:=Nat.div_mul_le_self (wd n 0) 8
  have h4:wd n 3%4611686018427387904<4611686018427387904:=Nat.mod_lt _ (by decide)
  rw[hB]
  split
  ·omega
  ·split
   ·omega
   ·exact h2) i 4 h
theorem TZ (n:Nat):elR (clN n)=#[.int .u64 ((wd n 0/8*8:Nat):Int),.int .u64 (wd n 1:Int),.int .u64 (wd n 2:Int),.int .u64 ((wd n 3%4611686018427387904+4611686018427387904:Nat):Int)]:=by
 unfold elR
 rw[Hm n 0 (by decide),Hm n 1 (by decide),Hm n 2 (by decide),Hm n 3 (by decide)]
 rfl
theorem WM (w0 w:World) (M:List Blk) (g b a0 a1 a2 a3 c0 c1 c2 c3:Nat) (h0:a0<18446744073709551616) (h3:a3<18446744073709551616) (k0:c0<18446744073709551616) (k1:c1<18446744073709551616) (k2:c2<18446744073709551616) (k3:c3<18446744073709551616) (e0:a0 &&& 18446744073709551614=c0) (e1:c0 &&& 18446744073709551613=c1) (e2:c1 &&& 18446744073709551611=c2) (e3:a3 &&& 9223372036854775807=c3) (hM:Mem w0 ((g,.cells #[.int .i64 0,.int .i64 1,.int .i64 2,.int .i64 255] 3 (0,0))::(b,.cells #[.int .u64 (a0:Int),.int .u64 (a1:Int),.int .u64 (a2:Int),.int .u64 (a3:Int)] 24 (0,0))::M) w):Calls Tryz.prog 117 #[.int .u64 0,.slice (some ⟨g,0,none⟩) 4 4,.pointer (some ⟨b,0,none⟩)] w fun E w'=>E=.returned (.tuple #[])∧Mem w0 ((g,.cells #[.int .i64 0,.int .i64 1,.int .i64 2,.int .i64 255] 3 (0,0))::(b,.cells #[.int .u64 (c2:Int),.int .u64 (a1:Int),.int .u64 (a2:Int),.int .u64 (c3:Int)] 24 (0,0))::M) w':=by
 have HMIX:=Lh (show Tryz.prog.follows .mixedOrders=true by kernel_rfl)
 go_enter Tryz.func117,Tryz.ntmps117
 (go_step;go_step;refine wp_region_lit ?_)
 refine Ad (.slice (some ⟨g,0,none⟩) 4 4) ?_
 simp only[nmA]
 refine Ac (v:=.int .i64 4) (fun W=>by go_simp) rfl ?_
 simp only[nmA]
 refine Ad (.int .i64 0) ?_
 simp only[nmA]
 refine wpList_nil ?_
 ((iterate 3 go_step);refine wp_loop_rounds 5 ?_)
 rw[rounds_succ]
 (go_step;refine wp_region_lit ?_)
 refine Ac (v:=.bool true) (fun W=>by go_simp) rfl ?_
 simp only[nmA]
 refine wpList_nil ?_
 ((iterate 10 go_step);refine wp_region_lit ?_)
 refine Ac (v:=.pointer (some ⟨g,0,none⟩)) (fun W=>by go_simp) rfl ?_
 simp only[nmA]
 refine Bv hM 0 (v:=.int .i64 0) rfl rfl rfl rfl Jr rfl ?_
 simp only[nmA]
 refine Ad (.int .i64 0) ?_
 simp only[nmA]
 refine wpList_nil ?_
 ((iterate 3 go_step);refine wp_region_lit ?_)
 refine Ad (.int .i64 0) ?_
 simp only[nmA]
 refine Ac (v:=.int .i64 0) (fun W=>by kernel_rfl) rfl ?_
 simp only[nmA]
 refine Ad (.int .i64 0) ?_
 simp only[nmA]
 refine Ac (v:=.int .i64 0) (fun W=>by kernel_rfl) rfl ?_
 simp only[nmA]
 refine Ad (.int .i64 0) ?_
 simp only[nmA]
 refine Ad (.int .i64 0) ?_
 simp only[nmA]
 refine wpList_nil ?_
 (go_step;go_step;refine An 12 HMIX.out (by decide) (by kernel_rfl) (by kernel_rfl) ?_)
 refine Az (.int .i64 0) ?_;simp only[nmA]
 refine Az (.int .i64 0) ?_;simp only[nmA]
 refine As (v:=.pointer (some ⟨b,0,none⟩)) (fun W=>Ay rfl rfl rfl (JT b W)) rfl rfl ?_;simp only[nmA]
 refine Cr hM 1 (v:=.int .u64 (a0:Int)) rfl rfl rfl rfl CA rfl rfl ?_;simp only[nmA]
 refine Az (.int .i64 0) ?_;simp only[nmA]
 refine As (v:=.int .u64 1) (fun W=>by kernel_rfl) rfl rfl ?_;simp only[nmA]
 refine As (v:=.int .u64 (c0:Int)) (fun W=>Ai rfl rfl rfl (Hp a0 1 c0 h0 (by decide) e0 _ _ W)) rfl rfl ?_;simp only[nmA]
 refine Az (.int .u64 0) ?_;simp only[nmA]
 refine Az (.int .i64 0) ?_;simp only[nmA]
 refine As (v:=.int .u64 0) (fun W=>by kernel_rfl) rfl rfl ?_;simp only[nmA]
 refine As (v:=.int .u64 (c0:Int)) (fun W=>Ai rfl rfl rfl (IY c0 0 c0 k0 (by decide) (Nat.or_zero c0) _ _ W)) rfl rfl ?_;simp only[nmA]
 refine As (v:=.pointer (some ⟨b,0,none⟩)) (fun W=>Ay rfl rfl rfl (JT b W)) rfl rfl ?_;simp only[nmA]
 refine AX fun d os=>?_
 refine AF fun hap=>?_
 have hM1:=hM.calls (below_regrown w d os)
 clear hap 
 generalize grow (redrawn w d) os=W1 at hM1 ⊢
 change wpAny _ _ _ _ 1 _ _ _
 refine Er (n:=12) (by kernel_rfl) rfl hM1 1 (cs':=#[.int .u64 (c0:Int),.int .u64 (a1:Int),.int .u64 (a2:Int),.int .u64 (a3:Int)]) rfl rfl rfl rfl (by show 0<4;decide) (rfl) CA rfl rfl rfl fun W2 hM2=>?_
 simp only[nm2,nm3] at hM2
 refine wpAny_done (by kernel_rfl) ?_ _
 (go_step;go_step;refine wp_region_lit ?_)
 refine Ac (v:=.int .i64 1) (fun W=>by go_simp;decide) rfl ?_
 simp only[nmA]
 refine Ad (.int .i64 1) ?_
 simp only[nmA]
 refine wpList_nil ?_
 go_step
 rw[rounds_succ]
 (go_step;refine wp_region_lit ?_)
 refine Ac (v:=.bool true) (fun W=>by go_simp) rfl ?_
 simp only[nmA]
 refine wpList_nil ?_
 ((iterate 10 go_step);refine wp_region_lit ?_)
 refine Ac (v:=.pointer (some ⟨g,1,none⟩)) (fun W=>by go_simp) rfl ?_
 simp only[nmA]
 refine Bv hM2 0 (v:=.int .i64 1) rfl rfl rfl rfl Jr rfl ?_
 simp only[nmA]
 refine Ad (.int .i64 1) ?_
 simp only[nmA]
 refine wpList_nil ?_
 ((iterate 3 go_step);refine wp_region_lit ?_)
 refine Ad (.int .i64 1) ?_
 simp only[nmA]
 refine Ac (v:=.int .i64 0) (fun W=>by kernel_rfl) rfl ?_
 simp only[nmA]
 refine Ad (.int .i64 1) ?_
 simp only[nmA]
 refine Ac (v:=.int .i64 1) (fun W=>by kernel_rfl) rfl ?_
 simp only[nmA]
 refine Ad (.int .i64 0) ?_
 simp only[nmA]
 refine Ad (.int .i64 1) ?_
 simp only[nmA]
 refine wpList_nil ?_
 (go_step;go_step;refine An 12 HMIX.out (by decide) (by kernel_rfl) (by kernel_rfl) ?_)
 refine Az (.int .i64 0) ?_;simp only[nmA]
 refine Az (.int .i64 0) ?_;simp only[nmA]
 refine As (v:=.pointer (some ⟨b,0,none⟩)) (fun W=>Ay rfl rfl rfl (JT b W)) rfl rfl ?_;simp only[nmA]
 refine Cr hM2 1 (v:=.int .u64 (c0:Int)) rfl rfl rfl rfl CA rfl rfl ?_;simp only[nmA]
 refine Az (.int .i64 1) ?_;simp only[nmA]
 refine As (v:=.int .u64 2) (fun W=>by kernel_rfl) rfl rfl ?_;simp only[nmA]
 refine As (v:=.int .u64 (c1:Int)) (fun W=>Ai rfl rfl rfl (Hp c0 2 c1 k0 (by decide) e1 _ _ W)) rfl rfl ?_;simp only[nmA]
 refine Az (.int .u64 0) ?_;simp only[nmA]
 refine Az (.int .i64 1) ?_;simp only[nmA]
 refine As (v:=.int .u64 0) (fun W=>by kernel_rfl) rfl rfl ?_;simp only[nmA]
 refine As (v:=.int .u64 (c1:Int)) (fun W=>Ai rfl rfl rfl (IY c1 0 c1 k1 (by decide) (Nat.or_zero c1) _ _ W)) rfl rfl ?_;simp only[nmA]
 refine As (v:=.pointer (some ⟨b,0,none⟩)) (fun W=>Ay rfl rfl rfl (JT b W)) rfl rfl ?_;simp only[nmA]
 refine AX fun d os=>?_
 refine AF fun hap=>?_
 have hM3:=hM2.calls (below_regrown W2 d os)
 clear hap 
 generalize grow (redrawn W2 d) os=W3 at hM3 ⊢
 change wpAny _ _ _ _ 1 _ _ _
 refine Er (n:=12) (by kernel_rfl) rfl hM3 1 (cs':=#[.int .u64 (c1:Int),.int .u64 (a1:Int),.int .u64 (a2:Int),.int .u64 (a3:Int)]) rfl rfl rfl rfl (by show 0<4;decide) (rfl) CA rfl rfl rfl fun W4 hM4=>?_
 simp only[nm2,nm3] at hM4
 refine wpAny_done (by kernel_rfl) ?_ _
 (go_step;go_step;refine wp_region_lit ?_)
 refine Ac (v:=.int .i64 2) (fun W=>by go_simp;decide) rfl ?_
 simp only[nmA]
 refine Ad (.int .i64 2) ?_
 simp only[nmA]
 refine wpList_nil ?_
 go_step
 rw[rounds_succ]
 (go_step;refine wp_region_lit ?_)
 refine Ac (v:=.bool true) (fun W=>by go_simp) rfl ?_
 simp only[nmA]
 refine wpList_nil ?_
 ((iterate 10 go_step);refine wp_region_lit ?_)
 refine Ac (v:=.pointer (some ⟨g,2,none⟩)) (fun W=>by go_simp) rfl ?_
 simp only[nmA]
 refine Bv hM4 0 (v:=.int .i64 2) rfl rfl rfl rfl Jr rfl ?_
 simp only[nmA]
 refine Ad (.int .i64 2) ?_
 simp only[nmA]
 refine wpList_nil ?_
 ((iterate 3 go_step);refine wp_region_lit ?_)
 refine Ad (.int .i64 2) ?_
 simp only[nmA]
 refine Ac (v:=.int .i64 0) (fun W=>by kernel_rfl) rfl ?_
 simp only[nmA]
 refine Ad (.int .i64 2) ?_
 simp only[nmA]
 refine Ac (v:=.int .i64 2) (fun W=>by kernel_rfl) rfl ?_
 simp only[nmA]
 refine Ad (.int .i64 0) ?_
 simp only[nmA]
 refine Ad (.int .i64 2) ?_
 simp only[nmA]
 refine wpList_nil ?_
 (go_step;go_step;refine An 12 HMIX.out (by decide) (by kernel_rfl) (by kernel_rfl) ?_)
 refine Az (.int .i64 0) ?_;simp only[nmA]
 refine Az (.int .i64 0) ?_;simp only[nmA]
 refine As (v:=.pointer (some ⟨b,0,none⟩)) (fun W=>Ay rfl rfl rfl (JT b W)) rfl rfl ?_;simp only[nmA]
 refine Cr hM4 1 (v:=.int .u64 (c1:Int)) rfl rfl rfl rfl CA rfl rfl ?_;simp only[nmA]
 refine Az (.int .i64 2) ?_;simp only[nmA]
 refine As (v:=.int .u64 4) (fun W=>by kernel_rfl) rfl rfl ?_;simp only[nmA]
 refine As (v:=.int .u64 (c2:Int)) (fun W=>Ai rfl rfl rfl (Hp c1 4 c2 k1 (by decide) e2 _ _ W)) rfl rfl ?_;simp only[nmA]
 refine Az (.int .u64 0) ?_;simp only[nmA]
 refine Az (.int .i64 2) ?_;simp only[nmA]
 refine As (v:=.int .u64 0) (fun W=>by kernel_rfl) rfl rfl ?_;simp only[nmA]
 refine As (v:=.int .u64 (c2:Int)) (fun W=>Ai rfl rfl rfl (IY c2 0 c2 k2 (by decide) (Nat.or_zero c2) _ _ W)) rfl rfl ?_;simp only[nmA]
 refine As (v:=.pointer (some ⟨b,0,none⟩)) (fun W=>Ay rfl rfl rfl (JT b W)) rfl rfl ?_;simp only[nmA]
 refine AX fun d os=>?_
 refine AF fun hap=>?_
 have hM5:=hM4.calls (below_regrown W4 d os)
 clear hap 
 generalize grow (redrawn W4 d) os=W5 at hM5 ⊢
 change wpAny _ _ _ _ 1 _ _ _
 refine Er (n:=12) (by kernel_rfl) rfl hM5 1 (cs':=#[.int .u64 (c2:Int),.int .u64 (a1:Int),.int .u64 (a2:Int),.int .u64 (a3:Int)]) rfl rfl rfl rfl (by show 0<4;decide) (rfl) CA rfl rfl rfl fun W6 hM6=>?_
 simp only[nm2,nm3] at hM6
 refine wpAny_done (by kernel_rfl) ?_ _
 (go_step;go_step;refine wp_region_lit ?_)
 refine Ac (v:=.int .i64 3) (fun W=>by go_simp;decide) rfl ?_
 simp only[nmA]
 refine Ad (.int .i64 3) ?_
 simp only[nmA]
 refine wpList_nil ?_
 go_step
 rw[rounds_succ]
 (go_step;refine wp_region_lit ?_)
 refine Ac (v:=.bool true) (fun W=>by go_simp) rfl ?_
 simp only[nmA]
 refine wpList_nil ?_
 ((iterate 10 go_step);refine wp_region_lit ?_)
 refine Ac (v:=.pointer (some ⟨g,3,none⟩)) (fun W=>by go_simp) rfl ?_
 simp only[nmA]
 refine Bv hM6 0 (v:=.int .i64 255) rfl rfl rfl rfl Jr rfl ?_
 simp only[nmA]
 refine Ad (.int .i64 255) ?_
 simp only[nmA]
 refine wpList_nil ?_
 ((iterate 3 go_step);refine wp_region_lit ?_)
 refine Ad (.int .i64 255) ?_
 simp only[nmA]
 refine Ac (v:=.int .i64 3) (fun W=>by kernel_rfl) rfl ?_
 simp only[nmA]
 refine Ad (.int .i64 255) ?_
 simp only[nmA]
 refine Ac (v:=.int .i64 63) (fun W=>by kernel_rfl) rfl ?_
 simp only[nmA]
 refine Ad (.int .i64 3) ?_
 simp only[nmA]
 refine Ad (.int .i64 63) ?_
 simp only[nmA]
 refine wpList_nil ?_
 (go_step;go_step;refine An 12 HMIX.out (by decide) (by kernel_rfl) (by kernel_rfl) ?_)
 refine Az (.int .i64 3) ?_;simp only[nmA]
 refine Az (.int .i64 3) ?_;simp only[nmA]
 refine As (v:=.pointer (some ⟨b,3,none⟩)) (fun W=>Ay rfl rfl rfl (DY b W)) rfl rfl ?_;simp only[nmA]
 refine Cr hM6 1 (v:=.int .u64 (a3:Int)) rfl rfl rfl rfl CA rfl rfl ?_;simp only[nmA]
 refine Az (.int .i64 63) ?_;simp only[nmA]
 refine As (v:=.int .u64 9223372036854775808) (fun W=>by kernel_rfl) rfl rfl ?_;simp only[nmA]
 refine As (v:=.int .u64 (c3:Int)) (fun W=>Ai rfl rfl rfl (Hp a3 9223372036854775808 c3 h3 (by decide) e3 _ _ W)) rfl rfl ?_;simp only[nmA]
 refine Az (.int .u64 0) ?_;simp only[nmA]
 refine Az (.int .i64 63) ?_;simp only[nmA]
 refine As (v:=.int .u64 0) (fun W=>by kernel_rfl) rfl rfl ?_;simp only[nmA]
 refine As (v:=.int .u64 (c3:Int)) (fun W=>Ai rfl rfl rfl (IY c3 0 c3 k3 (by decide) (Nat.or_zero c3) _ _ W)) rfl rfl ?_;simp only[nmA]
 refine As (v:=.pointer (some ⟨b,3,none⟩)) (fun W=>Ay rfl rfl rfl (DY b W)) rfl rfl ?_;simp only[nmA]
 refine AX fun d os=>?_
 refine AF fun hap=>?_
 have hM7:=hM6.calls (below_regrown W6 d os)
 clear hap 
 generalize grow (redrawn W6 d) os=W7 at hM7 ⊢
 change wpAny _ _ _ _ 1 _ _ _
 refine Er (n:=12) (by kernel_rfl) rfl hM7 1 (cs':=#[.int .u64 (c2:Int),.int .u64 (a1:Int),.int .u64 (a2:Int),.int .u64 (c3:Int)]) rfl rfl rfl rfl (by show 3<4;decide) (rfl) CA rfl rfl rfl fun W8 hM8=>?_
 simp only[nm2,nm3] at hM8
 refine wpAny_done (by kernel_rfl) ?_ _
 (go_step;go_step;refine wp_region_lit ?_)
 refine Ac (v:=.int .i64 4) (fun W=>by go_simp;decide) rfl ?_
 simp only[nmA]
 refine Ad (.int .i64 4) ?_
 simp only[nmA]
 refine wpList_nil ?_
 go_step
 rw[rounds_succ]
 (go_step;refine wp_region_lit ?_)
 refine Ac (v:=.bool false) (fun W=>by go_simp) rfl ?_
 simp only[nmA]
 refine wpList_nil ?_
 ((iterate 6 go_step);refine bodyPost_end (v:=.tuple #[]) (results_none Tryz.results117 _ _ _) rfl ⟨rfl,hM8⟩)
theorem ZP (w0 w:World) (M:List Blk) (g b a0 a1 a2 a3 c3 c4:Nat) (h3:a3<18446744073709551616) (k3:c3<18446744073709551616) (e3:a3 &&& 13835058055282163711=c3) (e4:c3 ||| 4611686018427387904=c4) (hM:Mem w0 ((g,.cells #[.int .i64 254] 3 (0,0))::(b,.cells #[.int .u64 (a0:Int),.int .u64 (a1:Int),.int .u64 (a2:Int),.int .u64 (a3:Int)] 24 (0,0))::M) w):Calls Tryz.prog 117 #[.int .u64 1,.slice (some ⟨g,0,none⟩) 1 1,.pointer (some ⟨b,0,none⟩)] w fun E w'=>E=.returned (.tuple #[])∧Mem w0 ((g,.cells #[.int .i64 254] 3 (0,0))::(b,.cells #[.int .u64 (a0:Int),.int .u64 (a1:Int),.int .u64 (a2:Int),.int .u64 (c4:Int)] 24 (0,0))::M) w':=by
 have HMIX:=Lh (show Tryz.prog.follows .mixedOrders=true by kernel_rfl)
 go_enter Tryz.func117,Tryz.ntmps117
 (go_step;go_step;refine wp_region_lit ?_)
 refine Ad (.slice (some ⟨g,0,none⟩) 1 1) ?_
 simp only[nmA]
 refine Ac (v:=.int .i64 1) (fun W=>by go_simp) rfl ?_
 simp only[nmA]
 refine Ad (.int .i64 0) ?_
 simp only[nmA]
 refine wpList_nil ?_
 ((iterate 3 go_step);refine wp_loop_rounds 2 ?_)
 rw[rounds_succ]
 (go_step;refine wp_region_lit ?_)
 refine Ac (v:=.bool true) (fun W=>by go_simp) rfl ?_
 simp only[nmA]
 refine wpList_nil ?_
 ((iterate 10 go_step);refine wp_region_lit ?_)
 refine Ac (v:=.pointer (some ⟨g,0,none⟩)) (fun W=>by go_simp) rfl ?_
 simp only[nmA]
 refine Bv hM 0 (v:=.int .i64 254) rfl rfl rfl rfl Jr rfl ?_
 simp only[nmA]
 refine Ad (.int .i64 254) ?_
 simp only[nmA]
 refine wpList_nil ?_
 ((iterate 3 go_step);refine wp_region_lit ?_)
 refine Ad (.int .i64 254) ?_
 simp only[nmA]
 refine Ac (v:=.int .i64 3) (fun W=>by kernel_rfl) rfl ?_
 simp only[nmA]
 refine Ad (.int .i64 254) ?_
 simp only[nmA]
 refine Ac (v:=.int .i64 62) (fun W=>by kernel_rfl) rfl ?_
 simp only[nmA]
 refine Ad (.int .i64 3) ?_
 simp only[nmA]
 refine Ad (.int .i64 62) ?_
 simp only[nmA]
 refine wpList_nil ?_
 (go_step;go_step;refine An 12 HMIX.out (by decide) (by kernel_rfl) (by kernel_rfl) ?_)
 refine Az (.int .i64 3) ?_;simp only[nmA]
 refine Az (.int .i64 3) ?_;simp only[nmA]
 refine As (v:=.pointer (some ⟨b,3,none⟩)) (fun W=>Ay rfl rfl rfl (DY b W)) rfl rfl ?_;simp only[nmA]
 refine Cr hM 1 (v:=.int .u64 (a3:Int)) rfl rfl rfl rfl CA rfl rfl ?_;simp only[nmA]
 refine Az (.int .i64 62) ?_;simp only[nmA]
 refine As (v:=.int .u64 4611686018427387904) (fun W=>by kernel_rfl) rfl rfl ?_;simp only[nmA]
 refine As (v:=.int .u64 (c3:Int)) (fun W=>Ai rfl rfl rfl (Hp a3 4611686018427387904 c3 h3 (by decide) e3 _ _ W)) rfl rfl ?_;simp only[nmA]
 refine Az (.int .u64 1) ?_;simp only[nmA]
 refine Az (.int .i64 62) ?_;simp only[nmA]
 refine As (v:=.int .u64 4611686018427387904) (fun W=>by kernel_rfl) rfl rfl ?_;simp only[nmA]
 refine As (v:=.int .u64 (c4:Int)) (fun W=>Ai rfl rfl rfl (IY c3 4611686018427387904 c4 k3 (by decide) e4 _ _ W)) rfl rfl ?_;simp only[nmA]
 refine As (v:=.pointer (some ⟨b,3,none⟩)) (fun W=>Ay rfl rfl rfl (DY b W)) rfl rfl ?_;simp only[nmA]
 refine AX fun d os=>?_
 refine AF fun hap=>?_
 have hM1:=hM.calls (below_regrown w d os)
 clear hap 
 generalize grow (redrawn w d) os=W1 at hM1 ⊢
 change wpAny _ _ _ _ 1 _ _ _
 refine Er (n:=12) (by kernel_rfl) rfl hM1 1 (cs':=#[.int .u64 (a0:Int),.int .u64 (a1:Int),.int .u64 (a2:Int),.int .u64 (c4:Int)]) rfl rfl rfl rfl (by show 3<4;decide) (rfl) CA rfl rfl rfl fun W2 hM2=>?_
 simp only[nm2,nm3] at hM2
 refine wpAny_done (by kernel_rfl) ?_ _
 (go_step;go_step;refine wp_region_lit ?_)
 refine Ac (v:=.int .i64 1) (fun W=>by go_simp;decide) rfl ?_
 simp only[nmA]
 refine Ad (.int .i64 1) ?_
 simp only[nmA]
 refine wpList_nil ?_
 go_step
 rw[rounds_succ]
 (go_step;refine wp_region_lit ?_)
 refine Ac (v:=.bool false) (fun W=>by go_simp) rfl ?_
 simp only[nmA]
 refine wpList_nil ?_
 ((iterate 6 go_step);refine bodyPost_end (v:=.tuple #[]) (results_none Tryz.results117 _ _ _) rfl ⟨rfl,hM2⟩)
theorem VX (s:ByteArray) (hs:s.size=32) (w:World):Calls Tryz.prog 55 #[.string s] w fun E w'=>E=.returned (Aa (clN (leN s.data.toList)))∧Below w.heap.size w w':=by
 have KO:=Lh (fun w=>FW s w hs)
 obtain⟨N,hN⟩:=exzb (leN s.data.toList)
 rw[hN] at KO ⊢
 clear hN
 have q0:=Cq N 0
 have q3:=Cq N 3
 obtain⟨n,hn⟩:=exzb (clN N)
 rw[hn]
 obtain⟨c0,e0⟩:=exzb (wd N 0 &&& 18446744073709551614)
 obtain⟨c1,e1⟩:=exzb (c0 &&& 18446744073709551613)
 obtain⟨c2,e2⟩:=exzb (c1 &&& 18446744073709551611)
 obtain⟨c3,e3⟩:=exzb (wd N 3 &&& 9223372036854775807)
 obtain⟨c4,e4⟩:=exzb (c3 &&& 13835058055282163711)
 obtain⟨c5,e5⟩:=exzb (c4 ||| 4611686018427387904)
 have k0:c0<18446744073709551616:=by rw[← e0];exact Nat.lt_of_le_of_lt Nat.and_le_left q0
 have k1:c1<18446744073709551616:=by rw[← e1];exact Nat.lt_of_le_of_lt Nat.and_le_left k0
 have k2:c2<18446744073709551616:=by rw[← e2];exact Nat.lt_of_le_of_lt Nat.and_le_left k1
 have k3:c3<18446744073709551616:=by rw[← e3];exact Nat.lt_of_le_of_lt Nat.and_le_left q3
 have k4:c4<18446744073709551616:=by rw[← e4];exact Nat.lt_of_le_of_lt Nat.and_le_left k3
 have eRow:(#[.int .u64 (c2:Int),.int .u64 (wd N 1:Int),.int .u64 (wd N 2:Int),.int .u64 (c5:Int)]:Array Value)=elR n:=by
  rw[← hn,TZ,← e5,← e4,← e3,dX,← e2,← e1,← e0,gI _ q0]
 clear q0 q3 hn
 have HMIX:=Lh (show Tryz.prog.follows .mixedOrders=true by kernel_rfl)
 go_enter Tryz.func55,Tryz.ntmps55
 have hM0:=Mem.start w
 (go_step;go_step;refine wp_region_lit ?_)
 refine Au hM0 (ob:=.cells z4 24 (0,0)) (fun W=>Ab rfl (FJ W)) rfl fun b1 W1 hM1=>?_
 simp only[nmA]
 refine wpList_nil ?_
 ((iterate 3 go_step);refine wp_region_lit ?_)
 refine Ad (.string s) ?_
 simp only[nmA]
 refine Aj hM1 (args:=#[.string s]) (v:=.tuple #[Aa N,.int .i64 0]) (rcf (enters_of Tryz.func28 rfl rfl)) (KO.out W1) rfl fun W2 hM2=>?_
 simp only[nmA]
 refine Ad (.tuple #[Aa N,.int .i64 0]) ?_
 simp only[nmA]
 refine Ad (Aa N) ?_
 simp only[nmA]
 refine Ad (.int .i64 0) ?_
 simp only[nmA]
 refine Au hM2 (ob:=.cells z4 24 (0,0)) (fun W=>Ab rfl (FJ W)) rfl fun b2 W3 hM3=>?_
 simp only[nmA]
 refine Ax hM3 0 (cs:=(elR N)) rfl rfl rfl rfl Bw rfl (AB N) rfl rfl fun W4 hM4=>?_
 simp only[nm2,nm3] at hM4
 refine Ad (.int .i64 0) ?_
 simp only[nmA]
 refine wpList_nil ?_
 ((iterate 3 go_step);refine wp_region_lit ?_)
 refine Ac (v:=.func (.func 117) #[] #[.pointer (some ⟨b2,0,none⟩)]) (fun W=>Bs rfl (by simp[Instr.makeFunc,Act.eval])) rfl ?_
 simp only[nmA]
 refine Ad (.func (.func 117) #[] #[.pointer (some ⟨b2,0,none⟩)]) ?_
 simp only[nmA]
 refine wpList_nil ?_
 ((iterate 3 go_step);refine wp_region_lit ?_)
 refine Ad (.func (.func 117) #[] #[.pointer (some ⟨b2,0,none⟩)]) ?_
 simp only[nmA]
 refine FT hM4 (f:=fun b=>.slice (some ⟨b,0,none⟩) 4 4) (ob:=.cells (#[.int .i64 0,.int .i64 1,.int .i64 2,.int .i64 255]) 3 (0,0)) (fun W=>At rfl (by simp[Act.eval]) (gH 0 1 2 255 W)) rfl fun b3 W5 hM5=>?_
 simp only[nmA]
 refine IR  (args:=#[.int .u64 0,.slice (some ⟨b3,0,none⟩) 4 4,.pointer (some ⟨b2,0,none⟩)]) (v:=.tuple #[]) (fun W=>BX W (enters_of Tryz.func117 rfl rfl) rfl rfl (by simp[Act.eval];rfl) rfl) (WM w W5 _ b3 b2 (wd N 0) (wd N 1) (wd N 2) (wd N 3) c0 c1 c2 c3 (Cq _ _) (Cq _ _) k0 k1 k2 k3 e0 e1 e2 e3 hM5) rfl fun W6 hM6=>?_
 simp only[nmA]
 refine wpList_nil ?_
 have hT1:=hM6.tail
 ((iterate 3 go_step);refine wp_region_lit ?_)
 refine Ad (.func (.func 117) #[] #[.pointer (some ⟨b2,0,none⟩)]) ?_
 simp only[nmA]
 refine FT hT1 (f:=fun b=>.slice (some ⟨b,0,none⟩) 1 1) (ob:=.cells (#[.int .i64 254]) 3 (0,0)) (fun W=>At rfl (by simp[Act.eval]) (ie 254 W)) rfl fun b4 W7 hM7=>?_
 simp only[nmA]
 refine IR  (args:=#[.int .u64 1,.slice (some ⟨b4,0,none⟩) 1 1,.pointer (some ⟨b2,0,none⟩)]) (v:=.tuple #[]) (fun W=>BX W (enters_of Tryz.func117 rfl rfl) rfl rfl (by simp[Act.eval];rfl) rfl) (ZP w W7 _ b4 b2 c2 (wd N 1) (wd N 2) c3 c4 c5 k3 k4 e4 e5 hM7) rfl fun W8 hM8=>?_
 simp only[nmA]
 refine wpList_nil ?_
 have hT2:=hM8.tail
 rw[eRow] at hT2
 ((iterate 3 go_step);refine wp_region_lit ?_)
 refine AG hT2 0 (v:=Aa n) rfl rfl rfl rfl Bw rfl ?_
 simp only[nmA]
 refine Ax hT2 1 (cs:=(elR n)) rfl rfl rfl rfl Bw rfl (AB n) rfl rfl fun W9 hM9=>?_
 simp only[nm2,nm3] at hM9
 refine wpList_nil ?_
 ((iterate 3 go_step);refine bodyPost_ret (v:=Aa n) (Ao Tryz.results55 rfl (hM9.load 1 rfl Bw)) rfl ⟨?_,hM9.below⟩)
 exact rfl
theorem Ev (p:Pt) (hp:On p):Bi Cf p=p:=by rw[CZ];exact Dn p hp
def tab (a:N4):Nat→N4
 | 0=>Cp
 | n+1=>Lc (tab a n) a
theorem Ey {a:N4} {p:Pt} (ha:Ok4 a p):∀ n,Ok4 (tab a n) (AC n p)
 | 0=>by
   rw[tab,AC]
   exact Fh
 | n+1=>by
   rw[tab,AC]
   exact E7 (Ey ha n) ha
def Na (o:N4):N4:=IG (IG (IG (IG o)))
theorem V6 (q:Pt) (hq:On q):AC 1 q=q:=Ev q hq
theorem Ie (m:Nat) (q:Pt) (hq:On q):Bi (AC m q) (AC m q)=AC (m+m) q:=(DP q hq m m).symm
theorem Io {o:N4} {q:Pt} (ho:Ok4 o q):Ok4 (Na o) (AC 16 q):=by
 have hq:=ho.on
 have h1:Ok4 o (AC 1 q):=by rw[V6 q hq];exact ho
 have h2:=Ej h1
 rw[Ie 1 q hq] at h2
 have h3:=Ej h2
 rw[Ie _ q hq] at h3
 have h4:=Ej h3
 rw[Ie _ q hq] at h4
 have h5:=Ej h4
 rw[Ie _ q hq] at h5
 unfold Na
 rw[show (16:Nat)=1+1+(1+1)+(1+1+(1+1))+(1+1+(1+1)+(1+1+(1+1))) from rfl]
 exact h5
theorem S8 (k n:Nat):16*(k/16^(n+1))+k/16^n%16=k/16^n:=by
 rw[Nat.pow_succ,← Nat.div_div_eq_div_mul]
 omega
def FO (k:Nat) (a o:N4) (n:Nat):N4:=Lc (Na o) (tab a (k/16^n%16))
theorem UC {a o:N4} {p:Pt} (k n:Nat) (ha:Ok4 a p) (ho:Ok4 o (AC (k/16^(n+1)) p)):Ok4 (FO k a o n) (AC (k/16^n) p):=by
 have h:=E7 (Io ho) (Ey ha (k/16^n%16))
 rw[← EX p ha.on,← DP p ha.on,S8] at h
 exact h
def G4 (f:N4→Nat→N4):Nat→N4→N4
 | 0,o=>o
 | n+1,o=>G4 f n (f o n)
theorem Hz (f:N4→Nat→N4) (o:N4):G4 f 0 o=o:=rfl
theorem Ia (f:N4→Nat→N4) (n:Nat) (o:N4):G4 f (n+1) o=G4 f n (f o n):=rfl
theorem XP {a:N4} {p:Pt} (k:Nat) (ha:Ok4 a p) (n:Nat):∀ o,Ok4 o (AC (k/16^n) p)→Ok4 (G4 (FO k a) n o) (AC k p):=by
 induction n with
 | zero =>
   intro o ho
   rw[Nat.pow_zero,Nat.div_one] at ho
   rw[Hz]
   exact ho
 | succ n ih =>
   intro o ho
   have h:=ih (FO k a o n) (UC k n ha ho)
   rw[Ia]
   exact h
theorem Yg {a:N4} {p:Pt} (k n:Nat) (ha:Ok4 a p) (h:k<16^n):Ok4 (G4 (FO k a) n Cp) (AC k p) :=
 XP k ha n Cp (by rw[Nat.div_eq_of_lt h,AC];exact Fh)
theorem JF (p q:Pt) (hp:On p) (hq:On q):∀ n,AC n (Bi p q)=Bi (AC n p) (AC n q)
 | 0=>by
   rw[AC,AC,AC]
   exact (Dn Cf Fs).symm
 | n+1=>by
   have h1:=Ca p hp n
   have h2:=Ca q hq n
   rw[AC,AC,AC]
   rw[JF p q hp hq n,Cv _ _ _ h1 h2 (Fl _ _ hp hq),Cv _ _ _ h1 hp (Fl _ _ h2 hq),← Cv _ _ _ h2 hp hq,CZ (AC n q) p,Cv _ _ _ hp h2 hq]
theorem WH (x y p q:Pt) (hx:On x) (hy:On y) (hp:On p) (hq:On q):Bi (Bi (Bi x y) p) q=Bi (Bi x p) (Bi y q):=by
 rw[Cv _ _ _ hx hy hp,CZ y p,← Cv _ _ _ hx hp hy,Cv _ _ _ (Fl _ _ hx hp) hy hq]
def FK (k l:Nat) (a b o:N4) (n:Nat):N4:=Lc (Lc (Na o) (tab a (k/16^n%16))) (tab b (l/16^n%16))
theorem U0 {a b o:N4} {p q:Pt} (k l n:Nat) (ha:Ok4 a p) (hb:Ok4 b q) (ho:Ok4 o (Bi (AC (k/16^(n+1)) p) (AC (l/16^(n+1)) q))):Ok4 (FK k l a b o n) (Bi (AC (k/16^n) p) (AC (l/16^n) q)):=by
 have h:=E7 (E7 (Io ho) (Ey ha (k/16^n%16))) (Ey hb (l/16^n%16))
 have o1:=Ca p ha.on
 have o2:=Ca q hb.on
 rw[JF _ _ (o1 _) (o2 _),WH _ _ _ _ (Ca _ (o1 _) _) (Ca _ (o2 _) _) (o1 _) (o2 _),← EX p ha.on,← EX q hb.on,← DP p ha.on,← DP q hb.on,S8,S8] at h
 exact h
theorem Zc {a b:N4} {p q:Pt} (k l:Nat) (ha:Ok4 a p) (hb:Ok4 b q) (n:Nat):∀ o,Ok4 o (Bi (AC (k/16^n) p) (AC (l/16^n) q))→Ok4 (G4 (FK k l a b) n o) (Bi (AC k p) (AC l q)):=by
 induction n with
 | zero =>
   intro o ho
   rw[Nat.pow_zero,Nat.div_one,Nat.div_one] at ho
   rw[Hz]
   exact ho
 | succ n ih =>
   intro o ho
   have h:=ih (FK k l a b o n) (U0 k l n ha hb ho)
   rw[Ia]
   exact h
theorem WK {a b:N4} {p q:Pt} (k l n:Nat) (ha:Ok4 a p) (hb:Ok4 b q) (h:k<16^n) (h2:l<16^n):Ok4 (G4 (FK k l a b) n Cp) (Bi (AC k p) (AC l q)) :=
 Zc k l ha hb n Cp (by rw[Nat.div_eq_of_lt h,Nat.div_eq_of_lt h2,AC,AC,Dn Cf Fs];exact Fh)
def Ek (k:Nat):Nat:=(Go.bitLen k+3)/4
theorem Gy (k m:Nat) (h:Ek k≤m):k<16^m:=by
 have h1:k<2^Go.bitLen k:=(bitLen_spec k).1
 have h2:Go.bitLen k≤4*m:=by unfold Ek at h;omega
 refine Nat.lt_of_lt_of_le h1 ?_
 rw[show (16:Nat)=2^4 from rfl,← Nat.pow_mul]
 exact Nat.pow_le_pow_right (by decide) h2
def CT (a:N4) (n:Nat):List Value:=(List.range n).flatMap fun i=>pl4 (tab a i)
theorem LB (a:N4):(pl4 a).length=16:=rfl
theorem CO (a:N4):∀ n,(CT a n).length=16*n
 | 0=>rfl
 | n+1=>by
   unfold CT
   rw[List.range_succ,List.flatMap_append,List.length_append,show ((List.range n).flatMap fun i=>pl4 (tab a i)).length=16*n from CO a n]
   simp[LB]
   omega
theorem Ga (a:N4) (n:Nat):CT a (n+1)=CT a n++pl4 (tab a n):=by
 unfold CT
 rw[List.range_succ,List.flatMap_append]
 simp
theorem Oa (a:N4) (n i:Nat) (h:i<n) (t:List Value):((CT a n++t).drop (16*i)).take 16=pl4 (tab a i):=by
 obtain⟨d,rfl⟩:∃ d,n=i+1+d:=⟨n-(i+1),by omega⟩
 have h1:∀ d,∃ r,CT a (i+1+d)=CT a i++(pl4 (tab a i)++r):=by
  intro d
  induction d with
  | zero=>exact⟨[],by rw[Nat.add_zero,Ga,List.append_nil]⟩
  | succ d ih =>
    obtain⟨r,hr⟩:=ih
    refine⟨r++pl4 (tab a (i+1+d)),?_⟩
    rw[← Nat.add_assoc,Ga,hr]
    simp only[List.append_assoc]
 obtain⟨r,hr⟩:=h1 d
 rw[hr,List.append_assoc,List.append_assoc,List.drop_left' (CO a i),List.take_left' (LB _)]
theorem gL (n s:Nat):CE n (4*s)+CE n (4*s+1)*2+CE n (4*s+2)*4+CE n (4*s+3)*8=n/16^s%16:=by
 unfold CE
 rw[show (16:Nat)^s=2^(4*s) by rw[show (16:Nat)=2^4 from rfl,← Nat.pow_mul],Nat.pow_succ,Nat.pow_succ 2 (4*s+1),Nat.pow_succ 2 (4*s+2),Nat.pow_succ 2 (4*s+1),Nat.pow_succ 2 (4*s)]
 simp only[← Nat.div_div_eq_div_mul]
 omega
theorem gz (i:Nat) (hi:i<4):∀ a,a<2^i→∀ b,b<2→a ||| (b*2^i)=a+b*2^i:=by
 intro a ha b hb
 have h:=Nat.two_pow_add_eq_or_of_lt ha b
 rw[Nat.or_comm,Nat.mul_comm b,Nat.add_comm]
 exact h.symm
theorem I6 (i:Nat) (hi:i<4) (a b:Nat) (ha:a<2^i) (hb:b<2) (c:Nat) (hc:b*2^i=c) (x y:Operand) (W:World):(do eqGuard .or 61 x y (.int .u64 (a:Int)) (.int .u64 (c:Int));binOp .or 61 (.int .u64 (a:Int)) (.int .u64 (c:Int)):Sem Value).run Tryz.prog W=.ok (.int .u64 ((a+c:Nat):Int)) W:=by
 have h16:2^i≤8:=Nat.pow_le_pow_right (n:=2) (by decide) (show i≤3 by omega)
 have hcl:c≤8:=by rw[← hc];exact Nat.le_trans (Nat.mul_le_mul_right _ (show b≤1 by omega)) (by omega)
 have e:bits .or .u64 (a:Int) (c:Int)=((a+c:Nat):Int):=by
  have h1:=u64_or_nat a c (by omega) (by omega)
  have h2:=gz i hi a ha b hb
  rw[hc] at h2
  rw[h2] at h1
  exact h1
 obtain⟨m,hm⟩:=exzb (a+c)
 rw[hm] at e ⊢
 clear hm ha hb hc h16 hcl
 go_simp
theorem R0 (b:Nat) (hb:b<2) (x y:Operand) (W:World):(do eqGuard .shl 61 x y (.int .u64 (b:Int)) (.int .i64 0);binOp .shl 61 (.int .u64 (b:Int)) (.int .i64 0):Sem Value).run Tryz.prog W=.ok (.int .u64 ((b*1:Nat):Int)) W:=by
 have h:b=0∨b=1:=by omega
 rcases h with rfl | rfl <;> rfl
theorem SR (b:Nat) (hb:b<2) (x y:Operand) (W:World):(do eqGuard .shl 61 x y (.int .u64 (b:Int)) (.int .i64 1);binOp .shl 61 (.int .u64 (b:Int)) (.int .i64 1):Sem Value).run Tryz.prog W=.ok (.int .u64 ((b*2:Nat):Int)) W:=by
 have h:b=0∨b=1:=by omega
 rcases h with rfl | rfl <;> rfl
theorem Sl (b:Nat) (hb:b<2) (x y:Operand) (W:World):(do eqGuard .shl 61 x y (.int .u64 (b:Int)) (.int .i64 2);binOp .shl 61 (.int .u64 (b:Int)) (.int .i64 2):Sem Value).run Tryz.prog W=.ok (.int .u64 ((b*4:Nat):Int)) W:=by
 have h:b=0∨b=1:=by omega
 rcases h with rfl | rfl <;> rfl
theorem St (b:Nat) (hb:b<2) (x y:Operand) (W:World):(do eqGuard .shl 61 x y (.int .u64 (b:Int)) (.int .i64 3);binOp .shl 61 (.int .u64 (b:Int)) (.int .i64 3):Sem Value).run Tryz.prog W=.ok (.int .u64 ((b*8:Nat):Int)) W:=by
 have h:b=0∨b=1:=by omega
 rcases h with rfl | rfl <;> rfl
theorem bitd (n i d:Nat) (hd:d=CE n i) (hi:i<256) (w:World):Calls Tryz.prog 29 #[Aa n,.int .i64 (i:Int)] w fun e w'=>e=.returned (.int .u64 (d:Int))∧Below w.heap.size w w':=by
 rw[hd]
 exact I7 n i w hi
theorem Je (s:Nat) (h:s≤63) (x y:Operand) (W:World):(do eqGuard .mul 3 x y (.int .i64 4) (.int .i64 (s:Int));binOp .mul 3 (.int .i64 4) (.int .i64 (s:Int)):Sem Value).run Tryz.prog W=.ok (.int .i64 ((4*s:Nat):Int)) W:=by
 have e:IntKind.i64.wrap (4*(s:Int))=((4*s:Nat):Int):=by rw[IntWalk.i64_in _ (by omega)];omega
 obtain⟨m,hm⟩:=exzb (4*s)
 rw[hm] at e ⊢
 go_simp
theorem Rt (a c:Nat) (h:a≤1000) (hc:a+0=c) (x y:Operand) (W:World):(do eqGuard .add 3 x y (.int .i64 (a:Int)) (.int .i64 0);binOp .add 3 (.int .i64 (a:Int)) (.int .i64 0):Sem Value).run Tryz.prog W=.ok (.int .i64 (c:Int)) W:=by
 have e:IntKind.i64.wrap ((a:Int)+0)=(c:Int):=by rw[IntWalk.i64_in _ (by omega)];omega
 rw[Int.add_zero] at e
 go_simp
theorem RE (a c:Nat) (h:a≤1000) (hc:a+1=c) (x y:Operand) (W:World):(do eqGuard .add 3 x y (.int .i64 (a:Int)) (.int .i64 1);binOp .add 3 (.int .i64 (a:Int)) (.int .i64 1):Sem Value).run Tryz.prog W=.ok (.int .i64 (c:Int)) W:=by
 have e:IntKind.i64.wrap ((a:Int)+1)=(c:Int):=by rw[IntWalk.i64_in _ (by omega)];omega
 go_simp
theorem RT (a c:Nat) (h:a≤1000) (hc:a+2=c) (x y:Operand) (W:World):(do eqGuard .add 3 x y (.int .i64 (a:Int)) (.int .i64 2);binOp .add 3 (.int .i64 (a:Int)) (.int .i64 2):Sem Value).run Tryz.prog W=.ok (.int .i64 (c:Int)) W:=by
 have e:IntKind.i64.wrap ((a:Int)+2)=(c:Int):=by rw[IntWalk.i64_in _ (by omega)];omega
 go_simp
theorem Rh (a c:Nat) (h:a≤1000) (hc:a+3=c) (x y:Operand) (W:World):(do eqGuard .add 3 x y (.int .i64 (a:Int)) (.int .i64 3);binOp .add 3 (.int .i64 (a:Int)) (.int .i64 3):Sem Value).run Tryz.prog W=.ok (.int .i64 (c:Int)) W:=by
 have e:IntKind.i64.wrap ((a:Int)+3)=(c:Int):=by rw[IntWalk.i64_in _ (by omega)];omega
 go_simp
theorem IB (n s:Nat) (hs:s≤63) (w:World):Calls Tryz.prog 162 #[Aa n,.int .i64 (s:Int)] w fun E w'=>E=.returned (.int .u64 ((n/16^s%16:Nat):Int))∧Below w.heap.size w w':=by
 have HB:=gL n s
 obtain⟨d0,hd0⟩:=exza (CE n (4*s+0))
 have hl0:d0<2:=by rw[hd0];exact EF _ _
 obtain⟨d1,hd1⟩:=exza (CE n (4*s+1))
 have hl1:d1<2:=by rw[hd1];exact EF _ _
 obtain⟨d2,hd2⟩:=exza (CE n (4*s+2))
 have hl2:d2<2:=by rw[hd2];exact EF _ _
 obtain⟨d3,hd3⟩:=exza (CE n (4*s+3))
 have hl3:d3<2:=by rw[hd3];exact EF _ _
 rw[show CE n (4*s)=d0 from hd0.symm,← hd1,← hd2,← hd3] at HB
 obtain⟨a0,ea0⟩:=exza (0)
 obtain⟨a1,ea1⟩:=exza (a0+d0*1)
 obtain⟨a2,ea2⟩:=exza (a1+d1*2)
 obtain⟨a3,ea3⟩:=exza (a2+d2*4)
 obtain⟨a4,ea4⟩:=exza (a3+d3*8)
 have ha0:a0<2^0:=by rw[ea0];decide
 have ha1:a1<2^1:=by simp only[show (2:Nat)^0=1 from rfl,show (2:Nat)^1=2 from rfl] at *;omega
 have ha2:a2<2^2:=by simp only[show (2:Nat)^1=2 from rfl,show (2:Nat)^2=4 from rfl] at *;omega
 have ha3:a3<2^3:=by simp only[show (2:Nat)^2=4 from rfl,show (2:Nat)^3=8 from rfl] at *;omega
 have EA:a4=n/16^s%16:=by rw[← HB];omega
 rw[← EA]
 go_enter Tryz.func162,Tryz.ntmps162
 have hM0:=Mem.start w
 (go_step;go_step;refine wp_region_lit ?_)
 refine Au hM0 (ob:=.cells (elR n) 24 (0,0)) (fun W=>AP rfl rfl (MR n W)) rfl fun b1 W1 hM1=>?_
 simp only[nmA]
 refine Ad (.int .u64 ((0:Nat):Int)) ?_
 simp only[nmA]
 refine wpList_nil ?_
 ((iterate 3 go_step);refine wp_region_lit ?_)
 refine Ad (.int .u64 ((0:Nat):Int)) ?_
 simp only[nmA]
 refine wpList_nil ?_
 simp only[show ((0:Nat):Int)=(a0:Int) by rw[ea0]]
 ((iterate 4 go_step);refine wp_region_lit ?_)
 refine Ad (.int .i64 0) ?_
 simp only[nmA]
 refine wpList_nil ?_
 ((iterate 3 go_step);refine wp_loop_rounds 5 ?_)
 rw[rounds_succ]
 (go_step;refine wp_region_lit ?_)
 refine Ac (v:=.bool true) (fun W=>by go_simp) rfl ?_
 simp only[nmA]
 refine wpList_nil ?_
 ((iterate 10 go_step);refine wp_region_lit ?_)
 refine Ad (.int .i64 0) ?_
 simp only[nmA]
 refine Ad (.int .i64 0) ?_
 simp only[nmA]
 refine wpList_nil ?_
 (go_step;go_step;refine wp_region_lit ?_)
 refine Ad (.int .u64 (a0:Int)) ?_
 simp only[nmA]
 refine AG hM1 0 (v:=Aa n) rfl rfl rfl rfl Bw rfl ?_
 simp only[nmA]
 refine Ad (.int .i64 (s:Int)) ?_
 simp only[nmA]
 refine Ac (v:=.int .i64 ((4*s:Nat):Int)) (fun W=>Ai rfl rfl rfl (Je s hs _ _ W)) rfl ?_
 simp only[nmA]
 refine Ad (.int .i64 0) ?_
 simp only[nmA]
 refine Ac (v:=.int .i64 ((4*s+0:Nat):Int)) (fun W=>Ai rfl rfl rfl (Rt (4*s) _ (by omega) rfl _ _ W)) rfl ?_
 simp only[nmA]
 refine Aj hM1 (args:=#[Aa n,.int .i64 ((4*s+0:Nat):Int)]) (v:=.int .u64 (d0:Int)) (rcf (enters_of Tryz.func29 rfl rfl)) ((fun W=>bitd n (4*s+0) d0 hd0 (by omega) W) W1) rfl fun W2 hM2=>?_
 simp only[nmA]
 refine Ad (.int .i64 0) ?_
 simp only[nmA]
 refine Ac (v:=.int .u64 ((d0*1:Nat):Int)) (fun W=>Ai rfl rfl rfl (R0 d0 hl0 _ _ W)) rfl ?_
 simp only[nmA]
 refine Ac (v:=.int .u64 (a1:Int)) (fun W=>Ai rfl rfl rfl (by rw[ea1];exact I6 0 (by decide) a0 d0 ha0 hl0 _ rfl _ _ W)) rfl ?_
 simp only[nmA]
 refine Ad (.int .u64 (a1:Int)) ?_
 simp only[nmA]
 refine wpList_nil ?_
 (go_step;go_step;refine wp_region_lit ?_)
 refine Ac (v:=.int .i64 1) (fun W=>by go_simp;decide) rfl ?_
 simp only[nmA]
 refine Ad (.int .i64 1) ?_
 simp only[nmA]
 refine wpList_nil ?_
 go_step
 rw[rounds_succ]
 (go_step;refine wp_region_lit ?_)
 refine Ac (v:=.bool true) (fun W=>by go_simp) rfl ?_
 simp only[nmA]
 refine wpList_nil ?_
 ((iterate 10 go_step);refine wp_region_lit ?_)
 refine Ad (.int .i64 1) ?_
 simp only[nmA]
 refine Ad (.int .i64 1) ?_
 simp only[nmA]
 refine wpList_nil ?_
 (go_step;go_step;refine wp_region_lit ?_)
 refine Ad (.int .u64 (a1:Int)) ?_
 simp only[nmA]
 refine AG hM2 0 (v:=Aa n) rfl rfl rfl rfl Bw rfl ?_
 simp only[nmA]
 refine Ad (.int .i64 (s:Int)) ?_
 simp only[nmA]
 refine Ac (v:=.int .i64 ((4*s:Nat):Int)) (fun W=>Ai rfl rfl rfl (Je s hs _ _ W)) rfl ?_
 simp only[nmA]
 refine Ad (.int .i64 1) ?_
 simp only[nmA]
 refine Ac (v:=.int .i64 ((4*s+1:Nat):Int)) (fun W=>Ai rfl rfl rfl (RE (4*s) _ (by omega) rfl _ _ W)) rfl ?_
 simp only[nmA]
 refine Aj hM2 (args:=#[Aa n,.int .i64 ((4*s+1:Nat):Int)]) (v:=.int .u64 (d1:Int)) (rcf (enters_of Tryz.func29 rfl rfl)) ((fun W=>bitd n (4*s+1) d1 hd1 (by omega) W) W2) rfl fun W3 hM3=>?_
 simp only[nmA]
 refine Ad (.int .i64 1) ?_
 simp only[nmA]
 refine Ac (v:=.int .u64 ((d1*2:Nat):Int)) (fun W=>Ai rfl rfl rfl (SR d1 hl1 _ _ W)) rfl ?_
 simp only[nmA]
 refine Ac (v:=.int .u64 (a2:Int)) (fun W=>Ai rfl rfl rfl (by rw[ea2];exact I6 1 (by decide) a1 d1 ha1 hl1 _ rfl _ _ W)) rfl ?_
 simp only[nmA]
 refine Ad (.int .u64 (a2:Int)) ?_
 simp only[nmA]
 refine wpList_nil ?_
 (go_step;go_step;refine wp_region_lit ?_)
 refine Ac (v:=.int .i64 2) (fun W=>by go_simp;decide) rfl ?_
 simp only[nmA]
 refine Ad (.int .i64 2) ?_
 simp only[nmA]
 refine wpList_nil ?_
 go_step
 rw[rounds_succ]
 (go_step;refine wp_region_lit ?_)
 refine Ac (v:=.bool true) (fun W=>by go_simp) rfl ?_
 simp only[nmA]
 refine wpList_nil ?_
 ((iterate 10 go_step);refine wp_region_lit ?_)
 refine Ad (.int .i64 2) ?_
 simp only[nmA]
 refine Ad (.int .i64 2) ?_
 simp only[nmA]
 refine wpList_nil ?_
 (go_step;go_step;refine wp_region_lit ?_)
 refine Ad (.int .u64 (a2:Int)) ?_
 simp only[nmA]
 refine AG hM3 0 (v:=Aa n) rfl rfl rfl rfl Bw rfl ?_
 simp only[nmA]
 refine Ad (.int .i64 (s:Int)) ?_
 simp only[nmA]
 refine Ac (v:=.int .i64 ((4*s:Nat):Int)) (fun W=>Ai rfl rfl rfl (Je s hs _ _ W)) rfl ?_
 simp only[nmA]
 refine Ad (.int .i64 2) ?_
 simp only[nmA]
 refine Ac (v:=.int .i64 ((4*s+2:Nat):Int)) (fun W=>Ai rfl rfl rfl (RT (4*s) _ (by omega) rfl _ _ W)) rfl ?_
 simp only[nmA]
 refine Aj hM3 (args:=#[Aa n,.int .i64 ((4*s+2:Nat):Int)]) (v:=.int .u64 (d2:Int)) (rcf (enters_of Tryz.func29 rfl rfl)) ((fun W=>bitd n (4*s+2) d2 hd2 (by omega) W) W3) rfl fun W4 hM4=>?_
 simp only[nmA]
 refine Ad (.int .i64 2) ?_
 simp only[nmA]
 refine Ac (v:=.int .u64 ((d2*4:Nat):Int)) (fun W=>Ai rfl rfl rfl (Sl d2 hl2 _ _ W)) rfl ?_
 simp only[nmA]
 refine Ac (v:=.int .u64 (a3:Int)) (fun W=>Ai rfl rfl rfl (by rw[ea3];exact I6 2 (by decide) a2 d2 ha2 hl2 _ rfl _ _ W)) rfl ?_
 simp only[nmA]
 refine Ad (.int .u64 (a3:Int)) ?_
 simp only[nmA]
 refine wpList_nil ?_
 (go_step;go_step;refine wp_region_lit ?_)
 refine Ac (v:=.int .i64 3) (fun W=>by go_simp;decide) rfl ?_
 simp only[nmA]
 refine Ad (.int .i64 3) ?_
 simp only[nmA]
 refine wpList_nil ?_
 go_step
 rw[rounds_succ]
 (go_step;refine wp_region_lit ?_)
 refine Ac (v:=.bool true) (fun W=>by go_simp) rfl ?_
 simp only[nmA]
 refine wpList_nil ?_
 ((iterate 10 go_step);refine wp_region_lit ?_)
 refine Ad (.int .i64 3) ?_
 simp only[nmA]
 refine Ad (.int .i64 3) ?_
 simp only[nmA]
 refine wpList_nil ?_
 (go_step;go_step;refine wp_region_lit ?_)
 refine Ad (.int .u64 (a3:Int)) ?_
 simp only[nmA]
 refine AG hM4 0 (v:=Aa n) rfl rfl rfl rfl Bw rfl ?_
 simp only[nmA]
 refine Ad (.int .i64 (s:Int)) ?_
 simp only[nmA]
 refine Ac (v:=.int .i64 ((4*s:Nat):Int)) (fun W=>Ai rfl rfl rfl (Je s hs _ _ W)) rfl ?_
 simp only[nmA]
 refine Ad (.int .i64 3) ?_
 simp only[nmA]
 refine Ac (v:=.int .i64 ((4*s+3:Nat):Int)) (fun W=>Ai rfl rfl rfl (Rh (4*s) _ (by omega) rfl _ _ W)) rfl ?_
 simp only[nmA]
 refine Aj hM4 (args:=#[Aa n,.int .i64 ((4*s+3:Nat):Int)]) (v:=.int .u64 (d3:Int)) (rcf (enters_of Tryz.func29 rfl rfl)) ((fun W=>bitd n (4*s+3) d3 hd3 (by omega) W) W4) rfl fun W5 hM5=>?_
 simp only[nmA]
 refine Ad (.int .i64 3) ?_
 simp only[nmA]
 refine Ac (v:=.int .u64 ((d3*8:Nat):Int)) (fun W=>Ai rfl rfl rfl (St d3 hl3 _ _ W)) rfl ?_
 simp only[nmA]
 refine Ac (v:=.int .u64 (a4:Int)) (fun W=>Ai rfl rfl rfl (by rw[ea4];exact I6 3 (by decide) a3 d3 ha3 hl3 _ rfl _ _ W)) rfl ?_
 simp only[nmA]
 refine Ad (.int .u64 (a4:Int)) ?_
 simp only[nmA]
 refine wpList_nil ?_
 (go_step;go_step;refine wp_region_lit ?_)
 refine Ac (v:=.int .i64 4) (fun W=>by go_simp;decide) rfl ?_
 simp only[nmA]
 refine Ad (.int .i64 4) ?_
 simp only[nmA]
 refine wpList_nil ?_
 go_step
 rw[rounds_succ]
 (go_step;refine wp_region_lit ?_)
 refine Ac (v:=.bool false) (fun W=>by go_simp) rfl ?_
 simp only[nmA]
 refine wpList_nil ?_
 ((iterate 8 go_step);refine wp_region_lit ?_)
 refine Ad (.int .u64 (a4:Int)) ?_
 simp only[nmA]
 refine Ad (.int .u64 (a4:Int)) ?_
 simp only[nmA]
 refine wpList_nil ?_
 ((iterate 3 go_step);refine bodyPost_ret (v:=.int .u64 (a4:Int)) (Br Tryz.results162 rfl) rfl ⟨?_,hM5.below⟩)
 exact rfl
def ax:Array Value:=(List.replicate 256 (Value.int .u64 0)).toArray
theorem gP (W:World):(Instr.alloc 190 true (.tuple #[])).run Tryz.prog W=.ok (.pointer (some ⟨W.heap.size,0,none⟩)) (W.alloc (.cells ax 190 (0,0))):=by
 kernel_rfl
theorem bi:C9 Tryz.prog 190 256:=⟨.inr ⟨_,_,Tryz.underlying190⟩,by kernel_rfl⟩
theorem bdT (a:N4) (W:World):(Instr.build 190 #[(0,pv4 a)]).run Tryz.prog W=.ok (.agg (pl4 a++List.replicate 240 (Value.int .u64 0)).toArray) W:=by
 kernel_rfl
theorem gU (a:N4):((pl4 a++List.replicate 240 (Value.int .u64 0)).toArray).all (·.oneCell')=true:=by
 kernel_rfl
theorem Zk (a:N4) (n:Nat):tab a (n+1)=Lc (tab a n) a:=by rw[tab]
theorem XL (a:N4):tab a 0=Cp:=by rw[tab]
def trow (a:N4) (j:Nat):Array Value:=(CT a (j+1)++List.replicate (16*(15-j)) (Value.int .u64 0)).toArray
theorem UP (a:N4):(pl4 Cp++List.replicate 240 (Value.int .u64 0)).toArray=trow a 0:=by
 unfold trow
 rw[Ga,XL]
 rfl
theorem UR (a:N4) (j:Nat) (h:j≤15):(trow a j).size=256:=by
 show (CT a (j+1)++List.replicate (16*(15-j)) (Value.int .u64 0)).toArray.size=256
 rw[List.size_toArray,List.length_append,CO,List.length_replicate]
 omega
theorem cL (a:N4) (j:Nat):((trow a j).toList.drop (16*j)).take (pc4 (tab a j)).size=(pc4 (tab a j)).toList:=Oa a (j+1) j (Nat.lt_succ_self _) _
theorem Xi (a:N4) (j:Nat) (h:j<15):(trow a j).toList.take (16*(j+1))++(pc4 (tab a (j+1))).toList++(trow a j).toList.drop (16*(j+1)+(pc4 (tab a (j+1))).size)=(trow a (j+1)).toList:=by
 show (CT a (j+1)++List.replicate (16*(15-j)) (Value.int .u64 0)).take (16*(j+1))++pl4 (tab a (j+1))++(CT a (j+1)++List.replicate (16*(15-j)) (Value.int .u64 0)).drop (16*(j+1)+16)=CT a (j+1+1)++List.replicate (16*(15-(j+1))) (Value.int .u64 0)
 rw[List.take_left' (CO a (j+1)),← List.drop_drop,List.drop_left' (CO a (j+1)),List.drop_replicate,Ga a (j+1)]
 congr 2
 omega
theorem Vp (a:N4):trow a 15=(CT a 16).toArray:=by
 unfold trow
 rw[show 16*(15-15)=0 from rfl,List.replicate_zero,List.append_nil]
theorem gM (b j:Nat) (hj:j<16) (n:Int) (hn:n=(j:Int)) (W:World):(Instr.indexAt 190 (.pointer (some ⟨b,0,none⟩)) (.int .i64 n)).run Tryz.prog W=.ok (.pointer (some ⟨b,16*j,none⟩)) W:=by
 subst hn
 have h1:(0:Int)≤(j:Int):=by omega
 have h2:(j:Int)<16:=by omega
 have e:(⟨b,0,none⟩:Addr).add (j*16)=⟨b,16*j,none⟩:=by unfold Addr.add;rw[Nat.mul_comm];split <;> simp_all
 go_simp
theorem UU (n:Int) (x y:Operand) (W:World):(do eqGuard .lss 3 x y (.int .i64 n) (.int .i64 16);binOp .lss 3 (.int .i64 n) (.int .i64 16):Sem Value).run Tryz.prog W=.ok (.bool (decide (n<16))) W:=by
 go_simp
theorem aD (n m:Int) (x y:Operand) (W:World) (h:n-1=m) (h0:0≤m) (h1:m≤1000000):(do eqGuard .sub 3 x y (.int .i64 n) (.int .i64 1);binOp .sub 3 (.int .i64 n) (.int .i64 1):Sem Value).run Tryz.prog W=.ok (.int .i64 m) W:=by
 have e:IntKind.i64.wrap (n-1)=m:=by rw[IntWalk.i64_in _ (by omega)];exact h
 clear h
 go_simp
theorem bj (n m:Int) (x y:Operand) (W:World) (h:n+1=m) (h0:0≤m) (h1:m≤1000000):(do eqGuard .add 3 x y (.int .i64 n) (.int .i64 1);binOp .add 3 (.int .i64 n) (.int .i64 1):Sem Value).run Tryz.prog W=.ok (.int .i64 m) W:=by
 have e:IntKind.i64.wrap (n+1)=m:=by rw[IntWalk.i64_in _ (by omega)];exact h
 clear h
 go_simp
theorem Tf (a:N4):∀ n,((CT a n).toArray).all (·.oneCell')=true
 | 0=>by
   unfold CT
   simp
 | n+1=>by
   have h1:=Tf a n
   have h2:=Cd (tab a n)
   rw[Ga]
   simp only[List.all_toArray,List.all_append,Bool.and_eq_true] at h1 h2 ⊢
   exact⟨h1,by simpa [pc4] using h2⟩
theorem Kr (a:N4):((CT a 16).toArray).all (·.oneCell')=true:=Tf a 16
theorem FS {a:N4} {p:Pt} (ha:Ok4 a p) (w:World):Calls Tryz.prog 158 #[pv4 a,.func (.func 157) #[Aa dN] #[]] w fun E w'=>E=.returned (.agg (CT a 16).toArray)∧Below w.heap.size w w':=by
 have HMIX:=Lh (show Tryz.prog.follows .mixedOrders=true by kernel_rfl)
 go_enter Tryz.func158,Tryz.ntmps158
 have hM0:=Mem.start w
 (go_step;go_step;refine wp_region_lit ?_)
 refine Au hM0 (ob:=.cells ((pc4 a)) 39 (0,0)) (fun W=>AP rfl rfl (Th _ W)) rfl fun b1 W1 hM1=>?_
 simp only[nmA]
 refine Au hM1 (ob:=.cells ax 190 (0,0)) (fun W=>Ab rfl (gP W)) rfl fun b2 W2 hM2=>?_
 simp only[nmA]
 refine wpList_nil ?_
 ((iterate 3 go_step);refine wp_region_lit ?_)
 refine Aj hM2 (args:=#[]) (v:=pv4 Cp) (rcf (enters_of Tryz.func27 rfl rfl)) (H9 W2) rfl fun W3 hM3=>?_
 simp only[nmA]
 refine Ac (v:=.agg (pl4 Cp++List.replicate 240 (Value.int .u64 0)).toArray) (fun W=>Be rfl (by simp[Act.eval]) (bdT Cp W)) rfl ?_
 simp only[nmA]
 refine Au hM3 (ob:=.cells ax 190 (0,0)) (fun W=>Ab rfl (gP W)) rfl fun b3 W4 hM4=>?_
 simp only[nmA]
 refine Ax hM4 0 (cs:=((pl4 Cp++List.replicate 240 (Value.int .u64 0)).toArray)) rfl rfl rfl rfl bi rfl (gU _) rfl rfl fun W5 hM5=>?_
 simp only[nm2,nm3] at hM5
 refine wpList_nil ?_
 ((iterate 4 go_step);refine wp_region_lit ?_)
 refine Ad (.int .i64 1) ?_
 simp only[nmA]
 refine wpList_nil ?_
 rw[UP a] at hM5
 ((iterate 3 go_step);go_loopw [6] (fun i wr=>∃ j:Nat,j≤15∧i=.int .i64 ((j:Int)+1)∧Mem w [(b3,.cells (trow a j) 190 (0,0)),(b2,.cells ax 190 (0,0)),(b1,.cells ((pc4 a)) 39 (0,0))] wr) (fun i _=>(17-Go.RowKit.intOf i).toNat))
 case atStart=>exact⟨0,by omega,rfl,hM5⟩
 case round =>
  obtain⟨j,hj,rfl,hR⟩:=hrel
  clear hM1 hM2 hM3 hM4 hM5
  obtain⟨n,hn⟩:∃ n:Int,n=(j:Int)+1:=⟨_,rfl⟩
  rw[← hn]
  ((iterate 3 go_step);refine wp_region_lit ?_)
  refine Ad (.int .i64 n) ?_
  simp only[nmA]
  obtain⟨c1,hc1⟩:=exza (decide (n<16))
  refine Ac (v:=.bool c1) (fun W=>Ai rfl rfl rfl (by rw[hc1];exact UU n _ _ W)) rfl ?_
  simp only[nmA]
  refine wpList_nil ?_
  cases c1
  ·skip
   have hj15:j=15:=by
    have h9:=of_decide_eq_false hc1.symm
    omega
   subst hj15
   rw[Vp a] at hR
   ((iterate 9 go_step);refine wp_region_lit ?_)
   refine AG hR 0 (v:=.agg (CT a 16).toArray) rfl rfl rfl rfl bi rfl ?_
   simp only[nmA]
   refine Ax hR 1 (cs:=((CT a 16).toArray)) rfl rfl rfl rfl bi rfl (Kr a) rfl rfl fun W7 hM7=>?_
   simp only[nm2,nm3] at hM7
   refine wpList_nil ?_
   ((iterate 3 go_step);refine bodyPost_ret (v:=.agg (CT a 16).toArray) (Ao Tryz.results158 rfl (hM7.load 1 rfl bi)) rfl ⟨?_,hM7.below⟩)
   exact rfl
  ·skip
   have hj15:j<15:=by
    have h9:=of_decide_eq_true hc1.symm
    omega
   obtain⟨m,em⟩:∃ m:Int,m=(j:Int):=⟨_,rfl⟩
   have hnm:n-1=m:=by omega
   obtain⟨j1,ej1⟩:=exza (j+1)
   obtain⟨n2,en2⟩:∃ m:Int,m=n+1:=⟨_,rfl⟩
   have hn2:n+1=n2:=en2.symm
   have KA:=Lh (fun W=>Ib (Ey ha j) ha W)
   rw[← Zk] at KA
   obtain⟨tj,etj⟩:=exza (tab a j)
   obtain⟨tj1,etj1⟩:=exza (tab a (j+1))
   rw[← etj,← etj1] at KA
   ((iterate 8 go_step);refine An 9 HMIX.out (by decide) (by kernel_rfl) (by kernel_rfl) ?_)
   refine Az (.int .i64 n) ?_;simp only[nmA]
   refine Az (.func (.func 157) #[Aa dN] #[]) ?_;simp only[nmA]
   refine Az (.int .i64 n) ?_;simp only[nmA]
   refine As (v:=.int .i64 m) (fun W=>Ai rfl rfl rfl (aD n m _ _ W hnm (by omega) (by omega))) rfl rfl ?_;simp only[nmA]
   refine As (v:=.pointer (some ⟨b3,16*j,none⟩)) (fun W=>Ay rfl rfl rfl (gM b3 j (by omega) m (by omega) W)) rfl rfl ?_;simp only[nmA]
   refine B0 hR 0 (v:=pv4 tj) (sub:=((pc4 tj))) rfl rfl rfl rfl (by rw[etj];exact cL a j) AS rfl rfl ?_;simp only[nmA]
   refine Ar hR 2 (v:=pv4 a) rfl rfl rfl rfl AS rfl rfl ?_;simp only[nmA]
   refine Aq (args:=#[Aa dN,pv4 tj,pv4 a]) (v:=pv4 tj1) (fun W=>BX W (enters_of Tryz.func157 rfl rfl) rfl rfl (by simp[Act.eval];rfl) rfl) (fun W _=>KA.out W) rfl rfl ?_;simp only[nmA]
   refine As (v:=.pointer (some ⟨b3,16*j1,none⟩)) (fun W=>Ay rfl rfl rfl (gM b3 j1 (by omega) n (by omega) W)) rfl rfl ?_;simp only[nmA]
   refine AX fun d os=>?_
   refine AF fun hap=>?_
   have hM7:=hR.calls (below_regrown wr d os)
   clear hap 
   generalize grow (redrawn wr d) os=W7 at hM7 ⊢
   change wpAny _ _ _ _ 1 _ _ _
   refine PM (n:=9) (by kernel_rfl) rfl hM7 0 (sub:=((pc4 tj1))) (new:=(trow a j1)) rfl rfl rfl rfl (by rw[UR a j (by omega)];show 16*j1+16≤256;omega) (by rw[ej1,etj1];exact Xi a j hj15) AS (Cd _) rfl rfl fun W8 hM8=>?_
   simp only[nm2,nm3] at hM8
   refine wpAny_done (by kernel_rfl) ?_ _
   (go_step;go_step;refine wp_region_lit ?_)
   refine Ad (.int .i64 n) ?_
   simp only[nmA]
   refine Ac (v:=.int .i64 n2) (fun W=>Ai rfl rfl rfl (bj n n2 _ _ W hn2 (by omega) (by omega))) rfl ?_
   simp only[nmA]
   refine Ad (.int .i64 n2) ?_
   simp only[nmA]
   refine wpList_nil ?_
   go_roundw
   case rel =>
    refine⟨_,_,_,_,_,_,_,_,_,_,_,_,_,_,?_,rfl⟩
    refine⟨j1,by omega,congrArg (Value.int .i64) (by omega),?_⟩
    exact hM8
   case measure=>simp[Go.RowKit.intOf];omega
end Go.Proofs.YtnaldciakclccaaGreat
