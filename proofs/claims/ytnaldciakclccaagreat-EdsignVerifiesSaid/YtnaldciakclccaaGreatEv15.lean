/- Lemmas of this proof. -/
import Derived.Laws.AppendOwn
import Derived.Test.YtnaldciakclccaaGreatEv14
import Derived.Test.YtnaldciakclccaaGreatEv04
namespace Go.Proofs.YtnaldciakclccaaGreat
set_option maxRecDepth 20000
set_option maxHeartbeats 8000000
set_option linter.unusedSimpArgs false
set_option linter.unusedVariables false
open Go.RowKit Go.Sort
theorem Be:Di Tryz.prog 27:=⟨⟨_,Tryz.underlying27,rfl⟩,by kernel_rfl⟩
theorem Mu (W:World):(Instr.alloc 27 true (.tuple #[])).run Tryz.prog W=.ok (.pointer (some ⟨W.heap.size,0,none⟩)) (W.alloc (.cells #[.int .i64 0] 27 (0,0))):=by
 go_simp
theorem Gb (W:World):(Instr.alloc 24 true (.tuple #[])).run Tryz.prog W=.ok (.pointer (some ⟨W.heap.size,0,none⟩)) (W.alloc (.cells z4 24 (0,0))):=by
 unfold z4
 go_simp
theorem FZ (a:Nat) (x y:Operand) (W:World):(do eqGuard .neq 27 x y (.int .i64 (a:Int)) (.int .i64 0);binOp .neq 27 (.int .i64 (a:Int)) (.int .i64 0):Sem Value).run Tryz.prog W=.ok (.bool (!decide (a=0))) W:=by
 have e:((a:Int) == 0)=decide (a=0):=by
  rw[Bool.eq_iff_iff]
  simp
 go_simp
 rw[bne,e]
theorem Fb (n:Nat):(elR n).setIfInBounds 3 (.int .u64 ((wd n 3%9223372036854775808:Nat):Int))=elR (n%(9223372036854775808*B64^3)):=by
 have e0:wd (n%(9223372036854775808*B64^3)) 0=wd n 0:=by
  unfold wd
  rw[Nat.pow_zero,Nat.div_one,Nat.div_one,show 9223372036854775808*B64^3=B64*(9223372036854775808*B64^2) by decide +kernel,Nat.mod_mul_right_mod]
 have e1:wd (n%(9223372036854775808*B64^3)) 1=wd n 1:=by
  unfold wd
  rw[show 9223372036854775808*B64^3=B64^1*(B64*(9223372036854775808*B64)) by decide +kernel,Nat.mod_mul_right_div_self,Nat.mod_mul_right_mod]
 have e2:wd (n%(9223372036854775808*B64^3)) 2=wd n 2:=by
  unfold wd
  rw[show 9223372036854775808*B64^3=B64^2*(B64*9223372036854775808) by decide +kernel,Nat.mod_mul_right_div_self,Nat.mod_mul_right_mod]
 have e3:wd (n%(9223372036854775808*B64^3)) 3=wd n 3%9223372036854775808:=by
  unfold wd
  rw[show 9223372036854775808*B64^3=B64^3*9223372036854775808 by decide +kernel,Nat.mod_mul_right_div_self]
  obtain⟨q,hq⟩:=exzb (n/B64^3)
  rw[hq]
  rw[show B64=18446744073709551616 from rfl]
  omega
 unfold elR
 rw[e0,e1,e2,e3]
 rfl
theorem Hu (w0 w:World) (M:List Blk) (i j be bp e:Nat) (old:Array Value) (hM:Mem w0 M w) (hi:M[i]?=some (be,.cells #[.int .i64 (e:Int)] 27 (0,0))) (hj:M[j]?=some (bp,.cells old 39 (0,0))) (ho:old.size=16) :
    CallsD Tryz.prog 26 #[.pointer (some ⟨be,0,none⟩),.pointer (some ⟨bp,0,none⟩)] .returning w fun E u w'=>u=.returning∧(E=.returned (.tuple #[])∧Mem w0 (if e=0 then M else M.set j (bp,.cells (pc4 Cu) 39 (0,0))) w'):=by
 by_cases h0:e=0
 ·rw[if_pos h0]
  have KB:=fun x y W=>FZ e x y W
  rw[decide_eq_true h0] at KB
  go_enter_d Tryz.func26,Tryz.ntmps26
  (go_step;go_step;refine wp_region_lit ?_)
  refine Bc hM i (v:=.int .i64 (e:Int)) rfl rfl hi rfl Be rfl ?_
  simp only[nmA]
  refine Ac (v:=.bool false) (fun W=>Ag rfl rfl rfl (KB _ _ W)) rfl ?_
  simp only[nmA]
  refine wpList_nil ?_
  ((iterate 4 go_step);refine bodyPost_end (v:=.tuple #[]) (results_none Tryz.results26 _ _ _) rfl ⟨rfl,hM⟩)
 ·rw[if_neg h0]
  have KB:=fun x y W=>FZ e x y W
  rw[decide_eq_false h0] at KB
  go_enter_d Tryz.func26,Tryz.ntmps26
  (go_step;go_step;refine wp_region_lit ?_)
  refine Bc hM i (v:=.int .i64 (e:Int)) rfl rfl hi rfl Be rfl ?_
  simp only[nmA]
  refine Ac (v:=.bool true) (fun W=>Ag rfl rfl rfl (KB _ _ W)) rfl ?_
  simp only[nmA]
  refine wpList_nil ?_
  ((iterate 3 go_step);refine wp_region_lit ?_)
  refine Ah hM (args:=#[]) (v:=pv4 Cu) (fun W=>AR W (enters_of Tryz.func27 rfl rfl) rfl (by simp)) (Ik w) rfl fun W1 hM1=>?_
  simp only[nmA]
  refine Av hM1 j (cs:=pc4 Cu) rfl rfl rfl hj AS ho (Cf _) rfl rfl fun W2 hM2=>?_
  refine wpList_nil ?_
  (refine bodyPost_end (v:=.tuple #[]) (results_none Tryz.results26 _ _ _) rfl ⟨rfl,hM2⟩)
section
variable {P:Program} {w w0 w' W:World} {M:List Blk} {o:Oper} {A:Act}
theorem Mem.tail {x:Blk} (h:Mem w0 (x::M) w):Mem w0 M w :=
 ⟨h.below,fun p hp=>h.low p (List.mem_cons_of_mem _ hp),(List.pairwise_cons.1 h.nod).2,fun p hp=>h.at_ p (List.mem_cons_of_mem _ hp)⟩
theorem Mem.swap {x y:Blk} (h:Mem w0 (x::y::M) w):Mem w0 (y::x::M) w:=by
 refine⟨h.below,fun p hp=>h.low p ?_,?_,fun p hp=>h.at_ p ?_⟩
 ·simp only[List.mem_cons] at hp ⊢
  rcases hp with h1 | h1 | h1
  ·exact .inr (.inl h1)
  ·exact .inl h1
  ·exact .inr (.inr h1)
 ·have h1:=List.pairwise_cons.1 h.nod
  have h2:=List.pairwise_cons.1 h1.2
  refine List.pairwise_cons.2 ⟨fun p hp=>?_,List.pairwise_cons.2 ⟨fun p hp=>h1.1 p (List.mem_cons_of_mem _ hp),h2.2⟩⟩
  rcases List.mem_cons.1 hp with rfl | hp
  ·exact fun e=>h1.1 y (by simp) e.symm
  ·exact h2.1 p hp
 ·simp only[List.mem_cons] at hp ⊢
  rcases hp with h1 | h1 | h1
  ·exact .inr (.inl h1)
  ·exact .inl h1
  ·exact .inr (.inr h1)
theorem LF {b off:Nat} {cs sub:Array Value} {t ty:TypeId} (hg:w.heap[b]?=some (.cells cs t (0,0))) (hl:off+sub.size≤cs.size) (hT:(P.info? ty).map (·.size)=some sub.size) (h1:sub.all (·.oneCell')=true):(storeVar ty ⟨b,off,none⟩ (.agg sub)).run P w=.ok () (w.setRow b (cs.toList.take off++sub.toList++cs.toList.drop (off+sub.size)).toArray):=by
 have h:=run_storeCells_at (P:=P) b off t sub.toList 0 cs w hg (by simpa using hl) (fun x hx=>by
  have:=Array.all_eq_true'.1 h1 x (by simpa using hx)
  exact this)
 cases hq:P.info? ty with
 | none=>simp[hq] at hT
 | some i =>
   have hs:i.size=sub.size:=by simpa [hq] using hT
   have hc:(Value.agg sub).cells=sub:=rfl
   simp[storeVar,hc,sizeOf,typeInfo,hq,hs,Sem.run_bind]
   rw[h]
   simp
theorem SK {K:Act→World→Prop} {Q:Exit→Act→World→Prop} (hM:Mem w0 M w) (i:Nat) {ty:TypeId} {x y:Operand} {b off:Nat} {t:TypeId} {cs sub new:Array Value} (ho:o.op=.store ty x y) (hx:A.eval x=.pointer (some ⟨b,off,none⟩)) (hy:A.eval y=.agg sub) (hi:M[i]?=some (b,.cells cs t (0,0))) (hl:off+sub.size≤cs.size) (hn:cs.toList.take off++sub.toList++cs.toList.drop (off+sub.size)=new.toList) (hT:De P ty sub.size) (h1:sub.all (·.oneCell')=true)
    (hr:∀ W,Mem w0 (M.set i (b,.cells new t (0,0))) W→K (A.put o.dst undef) W):o.wp P A w K Q:=by
 unfold Oper.wp execOp
 simp only[ho,hx,hy,Instr.storeAt,Instr.sureAddr,Sem.run_bind,Sem.run_pure,Result.andThen_ok,LF (hM.get i hi) hl hT.2 h1]
 rw[hn,Array.toArray_toList]
 exact hr _ (hM.set i hi)
theorem Qr {ops:Array Oper} {md:Region.Mode} {fuel:Nat} {listed:Array Bool} {Q:Exit→Act→World→Prop} {n:Nat} (hr:Region.ready md ops listed=[n]) (hn:ops[n]?=some o) (hM:Mem w0 M w) (i:Nat) {ty:TypeId} {x y:Operand} {b off:Nat} {t:TypeId} {cs sub new:Array Value} (ho:o.op=.store ty x y) (hx:A.eval x=.pointer (some ⟨b,off,none⟩)) (hy:A.eval y=.agg sub) (hi:M[i]?=some (b,.cells cs t (0,0))) (hl:off+sub.size≤cs.size) (hnw:cs.toList.take off++sub.toList++cs.toList.drop (off+sub.size)=new.toList) (hT:De P ty sub.size) (h1:sub.all (·.oneCell')=true)
    (hgd:o.guard=none) (hd:o.dst=none) (hk:∀ W,Mem w0 (M.set i (b,.cells new t (0,0))) W→wpAny P md ops Q fuel (listed.setIfInBounds n true) A W):wpAny P md ops Q (fuel+1) listed A w :=
 Ej hr hn fun K hK=>by
  rw[if_pos (by simp[Region.wanted,hgd])]
  refine SK hM i ho hx hy hi hl hnw hT h1 fun W hW=>?_
  rw[hd]
  exact hK _ _ (hk W hW)
theorem Jp {ops:Array Oper} {Q:Exit→Act→World→Prop} {rest:List Oper} {M':List Blk} {f:FuncId} {args:Array Value} {v:Value} (h:∀ W,(execOp A.eval o).run P W=.ok (.enter f args) W) (hc:Calls P f args w fun e w'=>e=.returned v∧Mem w0 M' w') (hgd:Region.wanted o (yielded ops A.tmps)=true) (hr:∀ W,Mem w0 M' W→wpList P ops Q rest (A.put o.dst v) W):wpList P ops Q (o::rest) A w:=by
 refine wpList_step fun K hK=>?_
 rw[if_pos hgd]
 unfold Oper.wp
 rw[h]
 exact hc.mono fun e w' he=>by
  obtain⟨rfl,hm⟩:=he
  exact hK _ _ (hr _ hm)
theorem RJ {g:Nat} (hb:Below w0.heap.size w0 w) (hg:w.grownBy w' (some g)) (hl:w0.heap.size≤g):Below w0.heap.size w0 w':=by
 exact⟨hg.os.trans hb.os,hg.tape.trans hb.tape,hg.output.trans hb.output,Nat.le_trans hb.size hg.size,fun k hk=>(hg.block k (Nat.lt_of_lt_of_le hk hb.size) (fun e=>by cases e;omega)).trans (hb.block k hk)⟩
end
theorem dp (a k:Nat) (M:Nat) (h:a<18446744073709551616) (hk:k<64) (hM:∀ i,M.testBit i=(decide (k≤i) && decide (i<64))):a &&& M=a/2^k*2^k:=by
 apply Nat.eq_of_testBit_eq
 intro i
 rw[Nat.testBit_and,hM,Nat.testBit_mul_two_pow,Nat.testBit_div_two_pow]
 by_cases h1:k≤i
 ·rw[show i-k+k=i by omega]
  by_cases h2:i<64
  ·simp[h1,h2]
  ·have h3:a.testBit i=false:=Nat.testBit_lt_two_pow (Nat.lt_of_lt_of_le h (by rw[show (18446744073709551616:Nat)=2^64 from rfl];exact Nat.pow_le_pow_right (by decide) (by omega)))
   simp[h1,h3]
 ·simp[h1]
theorem Vt (k:Nat) (M:Nat) (hk:k<64) (e:M=(2^(64-k)-1)*2^k):∀ i,M.testBit i=(decide (k≤i) && decide (i<64)):=fun i=>by
 rw[e,Nat.testBit_mul_two_pow,Nat.testBit_two_pow_sub_one]
 by_cases h1:k≤i
 ·simp only[h1,decide_true,Bool.true_and]
  rw[decide_eq_decide]
  omega
 ·simp[h1]
theorem iG (a:Nat) (h:a<18446744073709551616):((a &&& 18446744073709551614) &&& 18446744073709551613) &&& 18446744073709551611=a/8*8:=by
 rw[Nat.and_assoc,Nat.and_assoc]
 rw[show 18446744073709551614 &&& (18446744073709551613 &&& 18446744073709551611)=18446744073709551608 from rfl]
 exact dp a 3 _ h (by decide) (Vt 3 _ (by decide) (by decide))
theorem fN (a:Nat):((a &&& 9223372036854775807) &&& 13835058055282163711) ||| 4611686018427387904=a%4611686018427387904+4611686018427387904:=by
 rw[Nat.and_assoc,show 9223372036854775807 &&& 13835058055282163711=4611686018427387903 from rfl,show a &&& 4611686018427387903=a%4611686018427387904 from Nat.and_two_pow_sub_one_eq_mod a 62]
 have h2:=Nat.two_pow_add_eq_or_of_lt (i:=62) (b:=a%4611686018427387904) (by omega) 1
 rw[Nat.or_comm,Nat.add_comm]
 exact h2.symm
theorem Ib (a m d:Nat) (ha:a<18446744073709551616) (hm:m<18446744073709551616) (hd:a &&& (18446744073709551615-m)=d) (x y:Operand) (W:World):(do eqGuard .andNot 22 x y (.int .u64 (a:Int)) (.int .u64 (m:Int));binOp .andNot 22 (.int .u64 (a:Int)) (.int .u64 (m:Int)):Sem Value).run Tryz.prog W=.ok (.int .u64 (d:Int)) W:=by
 have e:bits .andNot .u64 (a:Int) (m:Int)=(d:Int):=by
  rw[← hd]
  exact u64_andNot_nat a m (by omega) (by omega)
 clear hd
 go_simp
theorem JC (a m d:Nat) (ha:a<18446744073709551616) (hm:m<18446744073709551616) (hd:a ||| m=d) (x y:Operand) (W:World):(do eqGuard .or 22 x y (.int .u64 (a:Int)) (.int .u64 (m:Int));binOp .or 22 (.int .u64 (a:Int)) (.int .u64 (m:Int)):Sem Value).run Tryz.prog W=.ok (.int .u64 (d:Int)) W:=by
 have e:bits .or .u64 (a:Int) (m:Int)=(d:Int):=by
  rw[← hd]
  exact u64_or_nat a m (by omega) (by omega)
 clear hd
 go_simp
theorem Kc (b:Nat) (W:World):(Instr.indexAt 24 (.pointer (some ⟨b,0,none⟩)) (.int .i64 0)).run Tryz.prog W=.ok (.pointer (some ⟨b,0,none⟩)) W:=by
 go_simp
theorem JG:Di Tryz.prog 3:=⟨⟨_,Tryz.underlying3,rfl⟩,by kernel_rfl⟩
theorem iz (a b c d:Int) (W:World):(Instr.buildSlice 142 4 #[(0,.int .i64 a),(1,.int .i64 b),(2,.int .i64 c),(3,.int .i64 d)]).run Tryz.prog W=.ok (.slice (some ⟨W.heap.size,0,none⟩) 4 4) (W.alloc (.cells #[.int .i64 a,.int .i64 b,.int .i64 c,.int .i64 d] 3 (0,0))):=by
 go_simp
theorem iR (a:Int) (W:World):(Instr.buildSlice 142 1 #[(0,.int .i64 a)]).run Tryz.prog W=.ok (.slice (some ⟨W.heap.size,0,none⟩) 1 1) (W.alloc (.cells #[.int .i64 a] 3 (0,0))):=by
 go_simp
def clN (n:Nat):Nat:=Dv (fun i=>if i=0 then wd n 0/8*8 else if i=3 then wd n 3%4611686018427387904+4611686018427387904 else wd n i) 4
theorem Hq (n i:Nat) (h:i<4):wd (clN n) i=if i=0 then wd n 0/8*8 else if i=3 then wd n 3%4611686018427387904+4611686018427387904 else wd n i:=by
 have hB:B64=18446744073709551616:=rfl
 exact Lf _ (fun k=>by
  have h1:=Cb n 0
  have h2:=Cb n k
  have h3:=Nat.div_mul_le_self (wd n 0) 8
  have h4:wd n 3%4611686018427387904<4611686018427387904:=Nat.mod_lt _ (by decide)
  rw[hB]
  split
  ·omega
  ·split
   ·omega
   ·exact h2) i 4 h
theorem UM (n:Nat):elR (clN n)=#[.int .u64 ((wd n 0/8*8:Nat):Int),.int .u64 (wd n 1:Int),.int .u64 (wd n 2:Int),.int .u64 ((wd n 3%4611686018427387904+4611686018427387904:Nat):Int)]:=by
 unfold elR
 rw[Hq n 0 (by decide),Hq n 1 (by decide),Hq n 2 (by decide),Hq n 3 (by decide)]
 rfl
theorem Yv (w0 w:World) (M:List Blk) (g b a0 a1 a2 a3 c0 c1 c2 c3:Nat) (h0:a0<18446744073709551616) (h3:a3<18446744073709551616) (k0:c0<18446744073709551616) (k1:c1<18446744073709551616) (k2:c2<18446744073709551616) (k3:c3<18446744073709551616) (e0:a0 &&& 18446744073709551614=c0) (e1:c0 &&& 18446744073709551613=c1) (e2:c1 &&& 18446744073709551611=c2) (e3:a3 &&& 9223372036854775807=c3) (hM:Mem w0 ((g,.cells #[.int .i64 0,.int .i64 1,.int .i64 2,.int .i64 255] 3 (0,0))::(b,.cells #[.int .u64 (a0:Int),.int .u64 (a1:Int),.int .u64 (a2:Int),.int .u64 (a3:Int)] 24 (0,0))::M) w):Calls Tryz.prog 117 #[.int .u64 0,.slice (some ⟨g,0,none⟩) 4 4,.pointer (some ⟨b,0,none⟩)] w fun E w'=>E=.returned (.tuple #[])∧Mem w0 ((g,.cells #[.int .i64 0,.int .i64 1,.int .i64 2,.int .i64 255] 3 (0,0))::(b,.cells #[.int .u64 (c2:Int),.int .u64 (a1:Int),.int .u64 (a2:Int),.int .u64 (c3:Int)] 24 (0,0))::M) w':=by
 have HMIX:=Lh (show Tryz.prog.follows .mixedOrders=true by kernel_rfl)
 go_enter Tryz.func117,Tryz.ntmps117
 (go_step;go_step;refine wp_region_lit ?_)
 refine Ad (.slice (some ⟨g,0,none⟩) 4 4) ?_
 simp only[nmA]
 refine Ac (v:=.int .i64 4) (fun W=>by go_simp) rfl ?_
 simp only[nmA]
 refine Ad (.int .i64 0) ?_
 simp only[nmA]
 refine wpList_nil ?_
 ((iterate 3 go_step);refine wp_loop_rounds 5 ?_)
 rw[rounds_succ]
 (go_step;refine wp_region_lit ?_)
 refine Ac (v:=.bool true) (fun W=>by go_simp) rfl ?_
 simp only[nmA]
 refine wpList_nil ?_
 ((iterate 10 go_step);refine wp_region_lit ?_)
 refine Ac (v:=.pointer (some ⟨g,0,none⟩)) (fun W=>by go_simp) rfl ?_
 simp only[nmA]
 refine Bc hM 0 (v:=.int .i64 0) rfl rfl rfl rfl JG rfl ?_
 simp only[nmA]
 refine Ad (.int .i64 0) ?_
 simp only[nmA]
 refine wpList_nil ?_
 ((iterate 3 go_step);refine wp_region_lit ?_)
 refine Ad (.int .i64 0) ?_
 simp only[nmA]
 refine Ac (v:=.int .i64 0) (fun W=>by kernel_rfl) rfl ?_
 simp only[nmA]
 refine Ad (.int .i64 0) ?_
 simp only[nmA]
 refine Ac (v:=.int .i64 0) (fun W=>by kernel_rfl) rfl ?_
 simp only[nmA]
 refine Ad (.int .i64 0) ?_
 simp only[nmA]
 refine Ad (.int .i64 0) ?_
 simp only[nmA]
 refine wpList_nil ?_
 (go_step;go_step;refine Ak 12 HMIX.out (by decide) (by kernel_rfl) (by kernel_rfl) ?_)
 refine AM (.int .i64 0) ?_;simp only[nmA]
 refine AM (.int .i64 0) ?_;simp only[nmA]
 refine As (v:=.pointer (some ⟨b,0,none⟩)) (fun W=>Ar rfl rfl rfl (Kc b W)) rfl rfl ?_;simp only[nmA]
 refine Cv hM 1 (v:=.int .u64 (a0:Int)) rfl rfl rfl rfl BN rfl rfl ?_;simp only[nmA]
 refine AM (.int .i64 0) ?_;simp only[nmA]
 refine As (v:=.int .u64 1) (fun W=>by kernel_rfl) rfl rfl ?_;simp only[nmA]
 refine As (v:=.int .u64 (c0:Int)) (fun W=>Ag rfl rfl rfl (Ib a0 1 c0 h0 (by decide) e0 _ _ W)) rfl rfl ?_;simp only[nmA]
 refine AM (.int .u64 0) ?_;simp only[nmA]
 refine AM (.int .i64 0) ?_;simp only[nmA]
 refine As (v:=.int .u64 0) (fun W=>by kernel_rfl) rfl rfl ?_;simp only[nmA]
 refine As (v:=.int .u64 (c0:Int)) (fun W=>Ag rfl rfl rfl (JC c0 0 c0 k0 (by decide) (Nat.or_zero c0) _ _ W)) rfl rfl ?_;simp only[nmA]
 refine As (v:=.pointer (some ⟨b,0,none⟩)) (fun W=>Ar rfl rfl rfl (Kc b W)) rfl rfl ?_;simp only[nmA]
 refine AO fun d os=>?_
 refine Az fun hap=>?_
 have hM1:=hM.calls (below_regrown w d os)
 clear hap 
 generalize grow (redrawn w d) os=W1 at hM1 ⊢
 change wpAny _ _ _ _ 1 _ _ _
 refine Et (n:=12) (by kernel_rfl) rfl hM1 1 (cs':=#[.int .u64 (c0:Int),.int .u64 (a1:Int),.int .u64 (a2:Int),.int .u64 (a3:Int)]) rfl rfl rfl rfl (by show 0<4;decide) (rfl) BN rfl rfl rfl fun W2 hM2=>?_
 simp only[nm2,nm3] at hM2
 refine wpAny_done (by kernel_rfl) ?_ _
 (go_step;go_step;refine wp_region_lit ?_)
 refine Ac (v:=.int .i64 1) (fun W=>by go_simp;decide) rfl ?_
 simp only[nmA]
 refine Ad (.int .i64 1) ?_
 simp only[nmA]
 refine wpList_nil ?_
 go_step
 rw[rounds_succ]
 (go_step;refine wp_region_lit ?_)
 refine Ac (v:=.bool true) (fun W=>by go_simp) rfl ?_
 simp only[nmA]
 refine wpList_nil ?_
 ((iterate 10 go_step);refine wp_region_lit ?_)
 refine Ac (v:=.pointer (some ⟨g,1,none⟩)) (fun W=>by go_simp) rfl ?_
 simp only[nmA]
 refine Bc hM2 0 (v:=.int .i64 1) rfl rfl rfl rfl JG rfl ?_
 simp only[nmA]
 refine Ad (.int .i64 1) ?_
 simp only[nmA]
 refine wpList_nil ?_
 ((iterate 3 go_step);refine wp_region_lit ?_)
 refine Ad (.int .i64 1) ?_
 simp only[nmA]
 refine Ac (v:=.int .i64 0) (fun W=>by kernel_rfl) rfl ?_
 simp only[nmA]
 refine Ad (.int .i64 1) ?_
 simp only[nmA]
 refine Ac (v:=.int .i64 1) (fun W=>by kernel_rfl) rfl ?_
 simp only[nmA]
 refine Ad (.int .i64 0) ?_
 simp only[nmA]
 refine Ad (.int .i64 1) ?_
 simp only[nmA]
 refine wpList_nil ?_
 (go_step;go_step;refine Ak 12 HMIX.out (by decide) (by kernel_rfl) (by kernel_rfl) ?_)
 refine AM (.int .i64 0) ?_;simp only[nmA]
 refine AM (.int .i64 0) ?_;simp only[nmA]
 refine As (v:=.pointer (some ⟨b,0,none⟩)) (fun W=>Ar rfl rfl rfl (Kc b W)) rfl rfl ?_;simp only[nmA]
 refine Cv hM2 1 (v:=.int .u64 (c0:Int)) rfl rfl rfl rfl BN rfl rfl ?_;simp only[nmA]
 refine AM (.int .i64 1) ?_;simp only[nmA]
 refine As (v:=.int .u64 2) (fun W=>by kernel_rfl) rfl rfl ?_;simp only[nmA]
 refine As (v:=.int .u64 (c1:Int)) (fun W=>Ag rfl rfl rfl (Ib c0 2 c1 k0 (by decide) e1 _ _ W)) rfl rfl ?_;simp only[nmA]
 refine AM (.int .u64 0) ?_;simp only[nmA]
 refine AM (.int .i64 1) ?_;simp only[nmA]
 refine As (v:=.int .u64 0) (fun W=>by kernel_rfl) rfl rfl ?_;simp only[nmA]
 refine As (v:=.int .u64 (c1:Int)) (fun W=>Ag rfl rfl rfl (JC c1 0 c1 k1 (by decide) (Nat.or_zero c1) _ _ W)) rfl rfl ?_;simp only[nmA]
 refine As (v:=.pointer (some ⟨b,0,none⟩)) (fun W=>Ar rfl rfl rfl (Kc b W)) rfl rfl ?_;simp only[nmA]
 refine AO fun d os=>?_
 refine Az fun hap=>?_
 have hM3:=hM2.calls (below_regrown W2 d os)
 clear hap 
 generalize grow (redrawn W2 d) os=W3 at hM3 ⊢
 change wpAny _ _ _ _ 1 _ _ _
 refine Et (n:=12) (by kernel_rfl) rfl hM3 1 (cs':=#[.int .u64 (c1:Int),.int .u64 (a1:Int),.int .u64 (a2:Int),.int .u64 (a3:Int)]) rfl rfl rfl rfl (by show 0<4;decide) (rfl) BN rfl rfl rfl fun W4 hM4=>?_
 simp only[nm2,nm3] at hM4
 refine wpAny_done (by kernel_rfl) ?_ _
 (go_step;go_step;refine wp_region_lit ?_)
 refine Ac (v:=.int .i64 2) (fun W=>by go_simp;decide) rfl ?_
 simp only[nmA]
 refine Ad (.int .i64 2) ?_
 simp only[nmA]
 refine wpList_nil ?_
 go_step
 rw[rounds_succ]
 (go_step;refine wp_region_lit ?_)
 refine Ac (v:=.bool true) (fun W=>by go_simp) rfl ?_
 simp only[nmA]
 refine wpList_nil ?_
 ((iterate 10 go_step);refine wp_region_lit ?_)
 refine Ac (v:=.pointer (some ⟨g,2,none⟩)) (fun W=>by go_simp) rfl ?_
 simp only[nmA]
 refine Bc hM4 0 (v:=.int .i64 2) rfl rfl rfl rfl JG rfl ?_
 simp only[nmA]
 refine Ad (.int .i64 2) ?_
 simp only[nmA]
 refine wpList_nil ?_
 ((iterate 3 go_step);refine wp_region_lit ?_)
 refine Ad (.int .i64 2) ?_
 simp only[nmA]
 refine Ac (v:=.int .i64 0) (fun W=>by kernel_rfl) rfl ?_
 simp only[nmA]
 refine Ad (.int .i64 2) ?_
 simp only[nmA]
 refine Ac (v:=.int .i64 2) (fun W=>by kernel_rfl) rfl ?_
 simp only[nmA]
 refine Ad (.int .i64 0) ?_
 simp only[nmA]
 refine Ad (.int .i64 2) ?_
 simp only[nmA]
 refine wpList_nil ?_
 (go_step;go_step;refine Ak 12 HMIX.out (by decide) (by kernel_rfl) (by kernel_rfl) ?_)
 refine AM (.int .i64 0) ?_;simp only[nmA]
 refine AM (.int .i64 0) ?_;simp only[nmA]
 refine As (v:=.pointer (some ⟨b,0,none⟩)) (fun W=>Ar rfl rfl rfl (Kc b W)) rfl rfl ?_;simp only[nmA]
 refine Cv hM4 1 (v:=.int .u64 (c1:Int)) rfl rfl rfl rfl BN rfl rfl ?_;simp only[nmA]
 refine AM (.int .i64 2) ?_;simp only[nmA]
 refine As (v:=.int .u64 4) (fun W=>by kernel_rfl) rfl rfl ?_;simp only[nmA]
 refine As (v:=.int .u64 (c2:Int)) (fun W=>Ag rfl rfl rfl (Ib c1 4 c2 k1 (by decide) e2 _ _ W)) rfl rfl ?_;simp only[nmA]
 refine AM (.int .u64 0) ?_;simp only[nmA]
 refine AM (.int .i64 2) ?_;simp only[nmA]
 refine As (v:=.int .u64 0) (fun W=>by kernel_rfl) rfl rfl ?_;simp only[nmA]
 refine As (v:=.int .u64 (c2:Int)) (fun W=>Ag rfl rfl rfl (JC c2 0 c2 k2 (by decide) (Nat.or_zero c2) _ _ W)) rfl rfl ?_;simp only[nmA]
 refine As (v:=.pointer (some ⟨b,0,none⟩)) (fun W=>Ar rfl rfl rfl (Kc b W)) rfl rfl ?_;simp only[nmA]
 refine AO fun d os=>?_
 refine Az fun hap=>?_
 have hM5:=hM4.calls (below_regrown W4 d os)
 clear hap 
 generalize grow (redrawn W4 d) os=W5 at hM5 ⊢
 change wpAny _ _ _ _ 1 _ _ _
 refine Et (n:=12) (by kernel_rfl) rfl hM5 1 (cs':=#[.int .u64 (c2:Int),.int .u64 (a1:Int),.int .u64 (a2:Int),.int .u64 (a3:Int)]) rfl rfl rfl rfl (by show 0<4;decide) (rfl) BN rfl rfl rfl fun W6 hM6=>?_
 simp only[nm2,nm3] at hM6
 refine wpAny_done (by kernel_rfl) ?_ _
 (go_step;go_step;refine wp_region_lit ?_)
 refine Ac (v:=.int .i64 3) (fun W=>by go_simp;decide) rfl ?_
 simp only[nmA]
 refine Ad (.int .i64 3) ?_
 simp only[nmA]
 refine wpList_nil ?_
 go_step
 rw[rounds_succ]
 (go_step;refine wp_region_lit ?_)
 refine Ac (v:=.bool true) (fun W=>by go_simp) rfl ?_
 simp only[nmA]
 refine wpList_nil ?_
 ((iterate 10 go_step);refine wp_region_lit ?_)
 refine Ac (v:=.pointer (some ⟨g,3,none⟩)) (fun W=>by go_simp) rfl ?_
 simp only[nmA]
 refine Bc hM6 0 (v:=.int .i64 255) rfl rfl rfl rfl JG rfl ?_
 simp only[nmA]
 refine Ad (.int .i64 255) ?_
 simp only[nmA]
 refine wpList_nil ?_
 ((iterate 3 go_step);refine wp_region_lit ?_)
 refine Ad (.int .i64 255) ?_
 simp only[nmA]
 refine Ac (v:=.int .i64 3) (fun W=>by kernel_rfl) rfl ?_
 simp only[nmA]
 refine Ad (.int .i64 255) ?_
 simp only[nmA]
 refine Ac (v:=.int .i64 63) (fun W=>by kernel_rfl) rfl ?_
 simp only[nmA]
 refine Ad (.int .i64 3) ?_
 simp only[nmA]
 refine Ad (.int .i64 63) ?_
 simp only[nmA]
 refine wpList_nil ?_
 (go_step;go_step;refine Ak 12 HMIX.out (by decide) (by kernel_rfl) (by kernel_rfl) ?_)
 refine AM (.int .i64 3) ?_;simp only[nmA]
 refine AM (.int .i64 3) ?_;simp only[nmA]
 refine As (v:=.pointer (some ⟨b,3,none⟩)) (fun W=>Ar rfl rfl rfl (D8 b W)) rfl rfl ?_;simp only[nmA]
 refine Cv hM6 1 (v:=.int .u64 (a3:Int)) rfl rfl rfl rfl BN rfl rfl ?_;simp only[nmA]
 refine AM (.int .i64 63) ?_;simp only[nmA]
 refine As (v:=.int .u64 9223372036854775808) (fun W=>by kernel_rfl) rfl rfl ?_;simp only[nmA]
 refine As (v:=.int .u64 (c3:Int)) (fun W=>Ag rfl rfl rfl (Ib a3 9223372036854775808 c3 h3 (by decide) e3 _ _ W)) rfl rfl ?_;simp only[nmA]
 refine AM (.int .u64 0) ?_;simp only[nmA]
 refine AM (.int .i64 63) ?_;simp only[nmA]
 refine As (v:=.int .u64 0) (fun W=>by kernel_rfl) rfl rfl ?_;simp only[nmA]
 refine As (v:=.int .u64 (c3:Int)) (fun W=>Ag rfl rfl rfl (JC c3 0 c3 k3 (by decide) (Nat.or_zero c3) _ _ W)) rfl rfl ?_;simp only[nmA]
 refine As (v:=.pointer (some ⟨b,3,none⟩)) (fun W=>Ar rfl rfl rfl (D8 b W)) rfl rfl ?_;simp only[nmA]
 refine AO fun d os=>?_
 refine Az fun hap=>?_
 have hM7:=hM6.calls (below_regrown W6 d os)
 clear hap 
 generalize grow (redrawn W6 d) os=W7 at hM7 ⊢
 change wpAny _ _ _ _ 1 _ _ _
 refine Et (n:=12) (by kernel_rfl) rfl hM7 1 (cs':=#[.int .u64 (c2:Int),.int .u64 (a1:Int),.int .u64 (a2:Int),.int .u64 (c3:Int)]) rfl rfl rfl rfl (by show 3<4;decide) (rfl) BN rfl rfl rfl fun W8 hM8=>?_
 simp only[nm2,nm3] at hM8
 refine wpAny_done (by kernel_rfl) ?_ _
 (go_step;go_step;refine wp_region_lit ?_)
 refine Ac (v:=.int .i64 4) (fun W=>by go_simp;decide) rfl ?_
 simp only[nmA]
 refine Ad (.int .i64 4) ?_
 simp only[nmA]
 refine wpList_nil ?_
 go_step
 rw[rounds_succ]
 (go_step;refine wp_region_lit ?_)
 refine Ac (v:=.bool false) (fun W=>by go_simp) rfl ?_
 simp only[nmA]
 refine wpList_nil ?_
 ((iterate 6 go_step);refine bodyPost_end (v:=.tuple #[]) (results_none Tryz.results117 _ _ _) rfl ⟨rfl,hM8⟩)
theorem ak (w0 w:World) (M:List Blk) (g b a0 a1 a2 a3 c3 c4:Nat) (h3:a3<18446744073709551616) (k3:c3<18446744073709551616) (e3:a3 &&& 13835058055282163711=c3) (e4:c3 ||| 4611686018427387904=c4) (hM:Mem w0 ((g,.cells #[.int .i64 254] 3 (0,0))::(b,.cells #[.int .u64 (a0:Int),.int .u64 (a1:Int),.int .u64 (a2:Int),.int .u64 (a3:Int)] 24 (0,0))::M) w):Calls Tryz.prog 117 #[.int .u64 1,.slice (some ⟨g,0,none⟩) 1 1,.pointer (some ⟨b,0,none⟩)] w fun E w'=>E=.returned (.tuple #[])∧Mem w0 ((g,.cells #[.int .i64 254] 3 (0,0))::(b,.cells #[.int .u64 (a0:Int),.int .u64 (a1:Int),.int .u64 (a2:Int),.int .u64 (c4:Int)] 24 (0,0))::M) w':=by
 have HMIX:=Lh (show Tryz.prog.follows .mixedOrders=true by kernel_rfl)
 go_enter Tryz.func117,Tryz.ntmps117
 (go_step;go_step;refine wp_region_lit ?_)
 refine Ad (.slice (some ⟨g,0,none⟩) 1 1) ?_
 simp only[nmA]
 refine Ac (v:=.int .i64 1) (fun W=>by go_simp) rfl ?_
 simp only[nmA]
 refine Ad (.int .i64 0) ?_
 simp only[nmA]
 refine wpList_nil ?_
 ((iterate 3 go_step);refine wp_loop_rounds 2 ?_)
 rw[rounds_succ]
 (go_step;refine wp_region_lit ?_)
 refine Ac (v:=.bool true) (fun W=>by go_simp) rfl ?_
 simp only[nmA]
 refine wpList_nil ?_
 ((iterate 10 go_step);refine wp_region_lit ?_)
 refine Ac (v:=.pointer (some ⟨g,0,none⟩)) (fun W=>by go_simp) rfl ?_
 simp only[nmA]
 refine Bc hM 0 (v:=.int .i64 254) rfl rfl rfl rfl JG rfl ?_
 simp only[nmA]
 refine Ad (.int .i64 254) ?_
 simp only[nmA]
 refine wpList_nil ?_
 ((iterate 3 go_step);refine wp_region_lit ?_)
 refine Ad (.int .i64 254) ?_
 simp only[nmA]
 refine Ac (v:=.int .i64 3) (fun W=>by kernel_rfl) rfl ?_
 simp only[nmA]
 refine Ad (.int .i64 254) ?_
 simp only[nmA]
 refine Ac (v:=.int .i64 62) (fun W=>by kernel_rfl) rfl ?_
 simp only[nmA]
 refine Ad (.int .i64 3) ?_
 simp only[nmA]
 refine Ad (.int .i64 62) ?_
 simp only[nmA]
 refine wpList_nil ?_
 (go_step;go_step;refine Ak 12 HMIX.out (by decide) (by kernel_rfl) (by kernel_rfl) ?_)
 refine AM (.int .i64 3) ?_;simp only[nmA]
 refine AM (.int .i64 3) ?_;simp only[nmA]
 refine As (v:=.pointer (some ⟨b,3,none⟩)) (fun W=>Ar rfl rfl rfl (D8 b W)) rfl rfl ?_;simp only[nmA]
 refine Cv hM 1 (v:=.int .u64 (a3:Int)) rfl rfl rfl rfl BN rfl rfl ?_;simp only[nmA]
 refine AM (.int .i64 62) ?_;simp only[nmA]
 refine As (v:=.int .u64 4611686018427387904) (fun W=>by kernel_rfl) rfl rfl ?_;simp only[nmA]
 refine As (v:=.int .u64 (c3:Int)) (fun W=>Ag rfl rfl rfl (Ib a3 4611686018427387904 c3 h3 (by decide) e3 _ _ W)) rfl rfl ?_;simp only[nmA]
 refine AM (.int .u64 1) ?_;simp only[nmA]
 refine AM (.int .i64 62) ?_;simp only[nmA]
 refine As (v:=.int .u64 4611686018427387904) (fun W=>by kernel_rfl) rfl rfl ?_;simp only[nmA]
 refine As (v:=.int .u64 (c4:Int)) (fun W=>Ag rfl rfl rfl (JC c3 4611686018427387904 c4 k3 (by decide) e4 _ _ W)) rfl rfl ?_;simp only[nmA]
 refine As (v:=.pointer (some ⟨b,3,none⟩)) (fun W=>Ar rfl rfl rfl (D8 b W)) rfl rfl ?_;simp only[nmA]
 refine AO fun d os=>?_
 refine Az fun hap=>?_
 have hM1:=hM.calls (below_regrown w d os)
 clear hap 
 generalize grow (redrawn w d) os=W1 at hM1 ⊢
 change wpAny _ _ _ _ 1 _ _ _
 refine Et (n:=12) (by kernel_rfl) rfl hM1 1 (cs':=#[.int .u64 (a0:Int),.int .u64 (a1:Int),.int .u64 (a2:Int),.int .u64 (c4:Int)]) rfl rfl rfl rfl (by show 3<4;decide) (rfl) BN rfl rfl rfl fun W2 hM2=>?_
 simp only[nm2,nm3] at hM2
 refine wpAny_done (by kernel_rfl) ?_ _
 (go_step;go_step;refine wp_region_lit ?_)
 refine Ac (v:=.int .i64 1) (fun W=>by go_simp;decide) rfl ?_
 simp only[nmA]
 refine Ad (.int .i64 1) ?_
 simp only[nmA]
 refine wpList_nil ?_
 go_step
 rw[rounds_succ]
 (go_step;refine wp_region_lit ?_)
 refine Ac (v:=.bool false) (fun W=>by go_simp) rfl ?_
 simp only[nmA]
 refine wpList_nil ?_
 ((iterate 6 go_step);refine bodyPost_end (v:=.tuple #[]) (results_none Tryz.results117 _ _ _) rfl ⟨rfl,hM2⟩)
theorem VI (s:ByteArray) (hs:s.size=32) (w:World):Calls Tryz.prog 55 #[.string s] w fun E w'=>E=.returned (Aa (clN (leN s.data.toList)))∧Below w.heap.size w w':=by
 have KO:=Lh (fun w=>Gh s w hs)
 obtain⟨N,hN⟩:=exzb (leN s.data.toList)
 rw[hN] at KO ⊢
 clear hN
 have q0:=Cb N 0
 have q3:=Cb N 3
 obtain⟨n,hn⟩:=exzb (clN N)
 rw[hn]
 obtain⟨c0,e0⟩:=exzb (wd N 0 &&& 18446744073709551614)
 obtain⟨c1,e1⟩:=exzb (c0 &&& 18446744073709551613)
 obtain⟨c2,e2⟩:=exzb (c1 &&& 18446744073709551611)
 obtain⟨c3,e3⟩:=exzb (wd N 3 &&& 9223372036854775807)
 obtain⟨c4,e4⟩:=exzb (c3 &&& 13835058055282163711)
 obtain⟨c5,e5⟩:=exzb (c4 ||| 4611686018427387904)
 have k0:c0<18446744073709551616:=by rw[← e0];exact Nat.lt_of_le_of_lt Nat.and_le_left q0
 have k1:c1<18446744073709551616:=by rw[← e1];exact Nat.lt_of_le_of_lt Nat.and_le_left k0
 have k2:c2<18446744073709551616:=by rw[← e2];exact Nat.lt_of_le_of_lt Nat.and_le_left k1
 have k3:c3<18446744073709551616:=by rw[← e3];exact Nat.lt_of_le_of_lt Nat.and_le_left q3
 have k4:c4<18446744073709551616:=by rw[← e4];exact Nat.lt_of_le_of_lt Nat.and_le_left k3
 have eRow:(#[.int .u64 (c2:Int),.int .u64 (wd N 1:Int),.int .u64 (wd N 2:Int),.int .u64 (c5:Int)]:Array Value)=elR n:=by
  rw[← hn,UM,← e5,← e4,← e3,fN,← e2,← e1,← e0,iG _ q0]
 clear q0 q3 hn
 have HMIX:=Lh (show Tryz.prog.follows .mixedOrders=true by kernel_rfl)
 go_enter Tryz.func55,Tryz.ntmps55
 have hM0:=Mem.start w
 (go_step;go_step;refine wp_region_lit ?_)
 refine At hM0 (ob:=.cells z4 24 (0,0)) (fun W=>Ab rfl (Gb W)) rfl fun b1 W1 hM1=>?_
 simp only[nmA]
 refine wpList_nil ?_
 ((iterate 3 go_step);refine wp_region_lit ?_)
 refine Ad (.string s) ?_
 simp only[nmA]
 refine Ah hM1 (args:=#[.string s]) (v:=.tuple #[Aa N,.int .i64 0]) (rcf (enters_of Tryz.func28 rfl rfl)) (KO.out W1) rfl fun W2 hM2=>?_
 simp only[nmA]
 refine Ad (.tuple #[Aa N,.int .i64 0]) ?_
 simp only[nmA]
 refine Ad (Aa N) ?_
 simp only[nmA]
 refine Ad (.int .i64 0) ?_
 simp only[nmA]
 refine At hM2 (ob:=.cells z4 24 (0,0)) (fun W=>Ab rfl (Gb W)) rfl fun b2 W3 hM3=>?_
 simp only[nmA]
 refine Av hM3 0 (cs:=(elR N)) rfl rfl rfl rfl Bx rfl (Ay N) rfl rfl fun W4 hM4=>?_
 simp only[nm2,nm3] at hM4
 refine Ad (.int .i64 0) ?_
 simp only[nmA]
 refine wpList_nil ?_
 ((iterate 3 go_step);refine wp_region_lit ?_)
 refine Ac (v:=.func (.func 117) #[] #[.pointer (some ⟨b2,0,none⟩)]) (fun W=>Bs rfl (by simp[Instr.makeFunc,Act.eval])) rfl ?_
 simp only[nmA]
 refine Ad (.func (.func 117) #[] #[.pointer (some ⟨b2,0,none⟩)]) ?_
 simp only[nmA]
 refine wpList_nil ?_
 ((iterate 3 go_step);refine wp_region_lit ?_)
 refine Ad (.func (.func 117) #[] #[.pointer (some ⟨b2,0,none⟩)]) ?_
 simp only[nmA]
 refine FN hM4 (f:=fun b=>.slice (some ⟨b,0,none⟩) 4 4) (ob:=.cells (#[.int .i64 0,.int .i64 1,.int .i64 2,.int .i64 255]) 3 (0,0)) (fun W=>Ax rfl (by simp[Act.eval]) (iz 0 1 2 255 W)) rfl fun b3 W5 hM5=>?_
 simp only[nmA]
 refine Jp  (args:=#[.int .u64 0,.slice (some ⟨b3,0,none⟩) 4 4,.pointer (some ⟨b2,0,none⟩)]) (v:=.tuple #[]) (fun W=>Ca W (enters_of Tryz.func117 rfl rfl) rfl rfl (by simp[Act.eval];rfl) rfl) (Yv w W5 _ b3 b2 (wd N 0) (wd N 1) (wd N 2) (wd N 3) c0 c1 c2 c3 (Cb _ _) (Cb _ _) k0 k1 k2 k3 e0 e1 e2 e3 hM5) rfl fun W6 hM6=>?_
 simp only[nmA]
 refine wpList_nil ?_
 have hT1:=hM6.tail
 ((iterate 3 go_step);refine wp_region_lit ?_)
 refine Ad (.func (.func 117) #[] #[.pointer (some ⟨b2,0,none⟩)]) ?_
 simp only[nmA]
 refine FN hT1 (f:=fun b=>.slice (some ⟨b,0,none⟩) 1 1) (ob:=.cells (#[.int .i64 254]) 3 (0,0)) (fun W=>Ax rfl (by simp[Act.eval]) (iR 254 W)) rfl fun b4 W7 hM7=>?_
 simp only[nmA]
 refine Jp  (args:=#[.int .u64 1,.slice (some ⟨b4,0,none⟩) 1 1,.pointer (some ⟨b2,0,none⟩)]) (v:=.tuple #[]) (fun W=>Ca W (enters_of Tryz.func117 rfl rfl) rfl rfl (by simp[Act.eval];rfl) rfl) (ak w W7 _ b4 b2 c2 (wd N 1) (wd N 2) c3 c4 c5 k3 k4 e4 e5 hM7) rfl fun W8 hM8=>?_
 simp only[nmA]
 refine wpList_nil ?_
 have hT2:=hM8.tail
 rw[eRow] at hT2
 ((iterate 3 go_step);refine wp_region_lit ?_)
 refine AD hT2 0 (v:=Aa n) rfl rfl rfl rfl Bx rfl ?_
 simp only[nmA]
 refine Av hT2 1 (cs:=(elR n)) rfl rfl rfl rfl Bx rfl (Ay n) rfl rfl fun W9 hM9=>?_
 simp only[nm2,nm3] at hM9
 refine wpList_nil ?_
 ((iterate 3 go_step);refine bodyPost_ret (v:=Aa n) (Ap Tryz.results55 rfl (hM9.load 1 rfl Bx)) rfl ⟨?_,hM9.below⟩)
 exact rfl
theorem Yc (x y:Nat) (hx:x<PN) (hy:y<PN) (h:On (fz x,fz y)):Ok3 (x,y,1) (fz x,fz y) :=
 ⟨⟨hx,hy,J7⟩,h,Gm.1,by show fz x*fz 1=fz x;rw[Hf,Lean.Grind.Semiring.mul_one],by show fz y*fz 1=fz y;rw[Hf,Lean.Grind.Semiring.mul_one]⟩
theorem Ez (p:Pt) (hp:On p):Bj Ci p=p:=by rw[Da];exact Dq p hp
def tab (a:N4):Nat→N4
 | 0=>Cu
 | n+1=>MX (tab a n) a
theorem ED {a:N4} {p:Pt} (ha:Ok4 a p):∀ n,Ok4 (tab a n) (AB n p)
 | 0=>by
   rw[tab,AB]
   exact Ft
 | n+1=>by
   rw[tab,AB]
   exact Fd (ED ha n) ha
def N0 (o:N4):N4:=IX (IX (IX (IX o)))
theorem VV (q:Pt) (hq:On q):AB 1 q=q:=Ez q hq
theorem Iz (m:Nat) (q:Pt) (hq:On q):Bj (AB m q) (AB m q)=AB (m+m) q:=(DX q hq m m).symm
theorem IE {o:N4} {q:Pt} (ho:Ok4 o q):Ok4 (N0 o) (AB 16 q):=by
 have hq:=ho.on
 have h1:Ok4 o (AB 1 q):=by rw[VV q hq];exact ho
 have h2:=Ek h1
 rw[Iz 1 q hq] at h2
 have h3:=Ek h2
 rw[Iz _ q hq] at h3
 have h4:=Ek h3
 rw[Iz _ q hq] at h4
 have h5:=Ek h4
 rw[Iz _ q hq] at h5
 unfold N0
 rw[show (16:Nat)=1+1+(1+1)+(1+1+(1+1))+(1+1+(1+1)+(1+1+(1+1))) from rfl]
 exact h5
theorem Tv (k n:Nat):16*(k/16^(n+1))+k/16^n%16=k/16^n:=by
 rw[Nat.pow_succ,← Nat.div_div_eq_div_mul]
 omega
def F8 (k:Nat) (a o:N4) (n:Nat):N4:=MX (N0 o) (tab a (k/16^n%16))
theorem VU {a o:N4} {p:Pt} (k n:Nat) (ha:Ok4 a p) (ho:Ok4 o (AB (k/16^(n+1)) p)):Ok4 (F8 k a o n) (AB (k/16^n) p):=by
 have h:=Fd (IE ho) (ED ha (k/16^n%16))
 rw[← EW p ha.on,← DX p ha.on,Tv] at h
 exact h
def Hn (f:N4→Nat→N4):Nat→N4→N4
 | 0,o=>o
 | n+1,o=>Hn f n (f o n)
theorem Ir (f:N4→Nat→N4) (o:N4):Hn f 0 o=o:=rfl
theorem Iv (f:N4→Nat→N4) (n:Nat) (o:N4):Hn f (n+1) o=Hn f n (f o n):=rfl
theorem XL {a:N4} {p:Pt} (k:Nat) (ha:Ok4 a p) (n:Nat):∀ o,Ok4 o (AB (k/16^n) p)→Ok4 (Hn (F8 k a) n o) (AB k p):=by
 induction n with
 | zero =>
   intro o ho
   rw[Nat.pow_zero,Nat.div_one] at ho
   rw[Ir]
   exact ho
 | succ n ih =>
   intro o ho
   have h:=ih (F8 k a o n) (VU k n ha ho)
   rw[Iv]
   exact h
theorem Zf {a:N4} {p:Pt} (k n:Nat) (ha:Ok4 a p) (h:k<16^n):Ok4 (Hn (F8 k a) n Cu) (AB k p) :=
 XL k ha n Cu (by rw[Nat.div_eq_of_lt h,AB];exact Ft)
theorem Ke (p q:Pt) (hp:On p) (hq:On q):∀ n,AB n (Bj p q)=Bj (AB n p) (AB n q)
 | 0=>by
   rw[AB,AB,AB]
   exact (Dq Ci FI).symm
 | n+1=>by
   have h1:=Cc p hp n
   have h2:=Cc q hq n
   rw[AB,AB,AB]
   rw[Ke p q hp hq n,Cz _ _ _ h1 h2 (Fw _ _ hp hq),Cz _ _ _ h1 hp (Fw _ _ h2 hq),← Cz _ _ _ h2 hp hq,Da (AB n q) p,Cz _ _ _ hp h2 hq]
theorem X9 (x y p q:Pt) (hx:On x) (hy:On y) (hp:On p) (hq:On q):Bj (Bj (Bj x y) p) q=Bj (Bj x p) (Bj y q):=by
 rw[Cz _ _ _ hx hy hp,Da y p,← Cz _ _ _ hx hp hy,Cz _ _ _ (Fw _ _ hx hp) hy hq]
def Gc (k l:Nat) (a b o:N4) (n:Nat):N4:=MX (MX (N0 o) (tab a (k/16^n%16))) (tab b (l/16^n%16))
theorem UW {a b o:N4} {p q:Pt} (k l n:Nat) (ha:Ok4 a p) (hb:Ok4 b q) (ho:Ok4 o (Bj (AB (k/16^(n+1)) p) (AB (l/16^(n+1)) q))):Ok4 (Gc k l a b o n) (Bj (AB (k/16^n) p) (AB (l/16^n) q)):=by
 have h:=Fd (Fd (IE ho) (ED ha (k/16^n%16))) (ED hb (l/16^n%16))
 have o1:=Cc p ha.on
 have o2:=Cc q hb.on
 rw[Ke _ _ (o1 _) (o2 _),X9 _ _ _ _ (Cc _ (o1 _) _) (Cc _ (o2 _) _) (o1 _) (o2 _),← EW p ha.on,← EW q hb.on,← DX p ha.on,← DX q hb.on,Tv,Tv] at h
 exact h
theorem YW {a b:N4} {p q:Pt} (k l:Nat) (ha:Ok4 a p) (hb:Ok4 b q) (n:Nat):∀ o,Ok4 o (Bj (AB (k/16^n) p) (AB (l/16^n) q))→Ok4 (Hn (Gc k l a b) n o) (Bj (AB k p) (AB l q)):=by
 induction n with
 | zero =>
   intro o ho
   rw[Nat.pow_zero,Nat.div_one,Nat.div_one] at ho
   rw[Ir]
   exact ho
 | succ n ih =>
   intro o ho
   have h:=ih (Gc k l a b o n) (UW k l n ha hb ho)
   rw[Iv]
   exact h
theorem Zo {a b:N4} {p q:Pt} (k l n:Nat) (ha:Ok4 a p) (hb:Ok4 b q) (h:k<16^n) (h2:l<16^n):Ok4 (Hn (Gc k l a b) n Cu) (Bj (AB k p) (AB l q)) :=
 YW k l ha hb n Cu (by rw[Nat.div_eq_of_lt h,Nat.div_eq_of_lt h2,AB,AB,Dq Ci FI];exact Ft)
def Eo (k:Nat):Nat:=(Go.bitLen k+3)/4
theorem GV (k m:Nat) (h:Eo k≤m):k<16^m:=by
 have h1:k<2^Go.bitLen k:=(bitLen_spec k).1
 have h2:Go.bitLen k≤4*m:=by unfold Eo at h;omega
 refine Nat.lt_of_lt_of_le h1 ?_
 rw[show (16:Nat)=2^4 from rfl,← Nat.pow_mul]
 exact Nat.pow_le_pow_right (by decide) h2
def CT (a:N4) (n:Nat):List Value:=(List.range n).flatMap fun i=>pl4 (tab a i)
theorem Mb (a:N4):(pl4 a).length=16:=rfl
theorem CO (a:N4):∀ n,(CT a n).length=16*n
 | 0=>rfl
 | n+1=>by
   unfold CT
   rw[List.range_succ,List.flatMap_append,List.length_append,show ((List.range n).flatMap fun i=>pl4 (tab a i)).length=16*n from CO a n]
   simp[Mb]
   omega
theorem Gk (a:N4) (n:Nat):CT a (n+1)=CT a n++pl4 (tab a n):=by
 unfold CT
 rw[List.range_succ,List.flatMap_append]
 simp
theorem Pq (a:N4) (n i:Nat) (h:i<n) (t:List Value):((CT a n++t).drop (16*i)).take 16=pl4 (tab a i):=by
 obtain⟨d,rfl⟩:∃ d,n=i+1+d:=⟨n-(i+1),by omega⟩
 have h1:∀ d,∃ r,CT a (i+1+d)=CT a i++(pl4 (tab a i)++r):=by
  intro d
  induction d with
  | zero=>exact⟨[],by rw[Nat.add_zero,Gk,List.append_nil]⟩
  | succ d ih =>
    obtain⟨r,hr⟩:=ih
    refine⟨r++pl4 (tab a (i+1+d)),?_⟩
    rw[← Nat.add_assoc,Gk,hr]
    simp only[List.append_assoc]
 obtain⟨r,hr⟩:=h1 d
 rw[hr,List.append_assoc,List.append_assoc,List.drop_left' (CO a i),List.take_left' (Mb _)]
theorem g9 (n s:Nat):CF n (4*s)+CF n (4*s+1)*2+CF n (4*s+2)*4+CF n (4*s+3)*8=n/16^s%16:=by
 unfold CF
 rw[show (16:Nat)^s=2^(4*s) by rw[show (16:Nat)=2^4 from rfl,← Nat.pow_mul],Nat.pow_succ,Nat.pow_succ 2 (4*s+1),Nat.pow_succ 2 (4*s+2),Nat.pow_succ 2 (4*s+1),Nat.pow_succ 2 (4*s)]
 simp only[← Nat.div_div_eq_div_mul]
 omega
theorem ik (i:Nat) (hi:i<4):∀ a,a<2^i→∀ b,b<2→a ||| (b*2^i)=a+b*2^i:=by
 intro a ha b hb
 have h:=Nat.two_pow_add_eq_or_of_lt ha b
 rw[Nat.or_comm,Nat.mul_comm b,Nat.add_comm]
 exact h.symm
theorem Jo (i:Nat) (hi:i<4) (a b:Nat) (ha:a<2^i) (hb:b<2) (c:Nat) (hc:b*2^i=c) (x y:Operand) (W:World):(do eqGuard .or 61 x y (.int .u64 (a:Int)) (.int .u64 (c:Int));binOp .or 61 (.int .u64 (a:Int)) (.int .u64 (c:Int)):Sem Value).run Tryz.prog W=.ok (.int .u64 ((a+c:Nat):Int)) W:=by
 have h16:2^i≤8:=Nat.pow_le_pow_right (n:=2) (by decide) (show i≤3 by omega)
 have hcl:c≤8:=by rw[← hc];exact Nat.le_trans (Nat.mul_le_mul_right _ (show b≤1 by omega)) (by omega)
 have e:bits .or .u64 (a:Int) (c:Int)=((a+c:Nat):Int):=by
  have h1:=u64_or_nat a c (by omega) (by omega)
  have h2:=ik i hi a ha b hb
  rw[hc] at h2
  rw[h2] at h1
  exact h1
 obtain⟨m,hm⟩:=exzb (a+c)
 rw[hm] at e ⊢
 clear hm ha hb hc h16 hcl
 go_simp
theorem R9 (b:Nat) (hb:b<2) (x y:Operand) (W:World):(do eqGuard .shl 61 x y (.int .u64 (b:Int)) (.int .i64 0);binOp .shl 61 (.int .u64 (b:Int)) (.int .i64 0):Sem Value).run Tryz.prog W=.ok (.int .u64 ((b*1:Nat):Int)) W:=by
 have h:b=0∨b=1:=by omega
 rcases h with rfl | rfl <;> rfl
theorem R8 (b:Nat) (hb:b<2) (x y:Operand) (W:World):(do eqGuard .shl 61 x y (.int .u64 (b:Int)) (.int .i64 1);binOp .shl 61 (.int .u64 (b:Int)) (.int .i64 1):Sem Value).run Tryz.prog W=.ok (.int .u64 ((b*2:Nat):Int)) W:=by
 have h:b=0∨b=1:=by omega
 rcases h with rfl | rfl <;> rfl
theorem RZ (b:Nat) (hb:b<2) (x y:Operand) (W:World):(do eqGuard .shl 61 x y (.int .u64 (b:Int)) (.int .i64 2);binOp .shl 61 (.int .u64 (b:Int)) (.int .i64 2):Sem Value).run Tryz.prog W=.ok (.int .u64 ((b*4:Nat):Int)) W:=by
 have h:b=0∨b=1:=by omega
 rcases h with rfl | rfl <;> rfl
theorem Sf (b:Nat) (hb:b<2) (x y:Operand) (W:World):(do eqGuard .shl 61 x y (.int .u64 (b:Int)) (.int .i64 3);binOp .shl 61 (.int .u64 (b:Int)) (.int .i64 3):Sem Value).run Tryz.prog W=.ok (.int .u64 ((b*8:Nat):Int)) W:=by
 have h:b=0∨b=1:=by omega
 rcases h with rfl | rfl <;> rfl
theorem bitd (n i d:Nat) (hd:d=CF n i) (hi:i<256) (w:World):Calls Tryz.prog 29 #[Aa n,.int .i64 (i:Int)] w fun e w'=>e=.returned (.int .u64 (d:Int))∧Below w.heap.size w w':=by
 rw[hd]
 exact Ji n i w hi
theorem Je (s:Nat) (h:s≤63) (x y:Operand) (W:World):(do eqGuard .mul 3 x y (.int .i64 4) (.int .i64 (s:Int));binOp .mul 3 (.int .i64 4) (.int .i64 (s:Int)):Sem Value).run Tryz.prog W=.ok (.int .i64 ((4*s:Nat):Int)) W:=by
 have e:IntKind.i64.wrap (4*(s:Int))=((4*s:Nat):Int):=by rw[IntWalk.i64_in _ (by omega)];omega
 obtain⟨m,hm⟩:=exzb (4*s)
 rw[hm] at e ⊢
 go_simp
theorem Tu (a c:Nat) (h:a≤1000) (hc:a+0=c) (x y:Operand) (W:World):(do eqGuard .add 3 x y (.int .i64 (a:Int)) (.int .i64 0);binOp .add 3 (.int .i64 (a:Int)) (.int .i64 0):Sem Value).run Tryz.prog W=.ok (.int .i64 (c:Int)) W:=by
 have e:IntKind.i64.wrap ((a:Int)+0)=(c:Int):=by rw[IntWalk.i64_in _ (by omega)];omega
 rw[Int.add_zero] at e
 go_simp
theorem S7 (a c:Nat) (h:a≤1000) (hc:a+1=c) (x y:Operand) (W:World):(do eqGuard .add 3 x y (.int .i64 (a:Int)) (.int .i64 1);binOp .add 3 (.int .i64 (a:Int)) (.int .i64 1):Sem Value).run Tryz.prog W=.ok (.int .i64 (c:Int)) W:=by
 have e:IntKind.i64.wrap ((a:Int)+1)=(c:Int):=by rw[IntWalk.i64_in _ (by omega)];omega
 go_simp
theorem SL (a c:Nat) (h:a≤1000) (hc:a+2=c) (x y:Operand) (W:World):(do eqGuard .add 3 x y (.int .i64 (a:Int)) (.int .i64 2);binOp .add 3 (.int .i64 (a:Int)) (.int .i64 2):Sem Value).run Tryz.prog W=.ok (.int .i64 (c:Int)) W:=by
 have e:IntKind.i64.wrap ((a:Int)+2)=(c:Int):=by rw[IntWalk.i64_in _ (by omega)];omega
 go_simp
theorem RY (a c:Nat) (h:a≤1000) (hc:a+3=c) (x y:Operand) (W:World):(do eqGuard .add 3 x y (.int .i64 (a:Int)) (.int .i64 3);binOp .add 3 (.int .i64 (a:Int)) (.int .i64 3):Sem Value).run Tryz.prog W=.ok (.int .i64 (c:Int)) W:=by
 have e:IntKind.i64.wrap ((a:Int)+3)=(c:Int):=by rw[IntWalk.i64_in _ (by omega)];omega
 go_simp
theorem I3 (n s:Nat) (hs:s≤63) (w:World):Calls Tryz.prog 162 #[Aa n,.int .i64 (s:Int)] w fun E w'=>E=.returned (.int .u64 ((n/16^s%16:Nat):Int))∧Below w.heap.size w w':=by
 have HB:=g9 n s
 obtain⟨d0,hd0⟩:=exza (CF n (4*s+0))
 have hl0:d0<2:=by rw[hd0];exact EK _ _
 obtain⟨d1,hd1⟩:=exza (CF n (4*s+1))
 have hl1:d1<2:=by rw[hd1];exact EK _ _
 obtain⟨d2,hd2⟩:=exza (CF n (4*s+2))
 have hl2:d2<2:=by rw[hd2];exact EK _ _
 obtain⟨d3,hd3⟩:=exza (CF n (4*s+3))
 have hl3:d3<2:=by rw[hd3];exact EK _ _
 rw[show CF n (4*s)=d0 from hd0.symm,← hd1,← hd2,← hd3] at HB
 obtain⟨a0,ea0⟩:=exza (0)
 obtain⟨a1,ea1⟩:=exza (a0+d0*1)
 obtain⟨a2,ea2⟩:=exza (a1+d1*2)
 obtain⟨a3,ea3⟩:=exza (a2+d2*4)
 obtain⟨a4,ea4⟩:=exza (a3+d3*8)
 have ha0:a0<2^0:=by rw[ea0];decide
 have ha1:a1<2^1:=by simp only[show (2:Nat)^0=1 from rfl,show (2:Nat)^1=2 from rfl] at *;omega
 have ha2:a2<2^2:=by simp only[show (2:Nat)^1=2 from rfl,show (2:Nat)^2=4 from rfl] at *;omega
 have ha3:a3<2^3:=by simp only[show (2:Nat)^2=4 from rfl,show (2:Nat)^3=8 from rfl] at *;omega
 have EA:a4=n/16^s%16:=by rw[← HB];omega
 rw[← EA]
 go_enter Tryz.func162,Tryz.ntmps162
 have hM0:=Mem.start w
 (go_step;go_step;refine wp_region_lit ?_)
 refine At hM0 (ob:=.cells (elR n) 24 (0,0)) (fun W=>AK rfl rfl (Nn n W)) rfl fun b1 W1 hM1=>?_
 simp only[nmA]
 refine Ad (.int .u64 ((0:Nat):Int)) ?_
 simp only[nmA]
 refine wpList_nil ?_
 ((iterate 3 go_step);refine wp_region_lit ?_)
 refine Ad (.int .u64 ((0:Nat):Int)) ?_
 simp only[nmA]
 refine wpList_nil ?_
 simp only[show ((0:Nat):Int)=(a0:Int) by rw[ea0]]
 ((iterate 4 go_step);refine wp_region_lit ?_)
 refine Ad (.int .i64 0) ?_
 simp only[nmA]
 refine wpList_nil ?_
 ((iterate 3 go_step);refine wp_loop_rounds 5 ?_)
 rw[rounds_succ]
 (go_step;refine wp_region_lit ?_)
 refine Ac (v:=.bool true) (fun W=>by go_simp) rfl ?_
 simp only[nmA]
 refine wpList_nil ?_
 ((iterate 10 go_step);refine wp_region_lit ?_)
 refine Ad (.int .i64 0) ?_
 simp only[nmA]
 refine Ad (.int .i64 0) ?_
 simp only[nmA]
 refine wpList_nil ?_
 (go_step;go_step;refine wp_region_lit ?_)
 refine Ad (.int .u64 (a0:Int)) ?_
 simp only[nmA]
 refine AD hM1 0 (v:=Aa n) rfl rfl rfl rfl Bx rfl ?_
 simp only[nmA]
 refine Ad (.int .i64 (s:Int)) ?_
 simp only[nmA]
 refine Ac (v:=.int .i64 ((4*s:Nat):Int)) (fun W=>Ag rfl rfl rfl (Je s hs _ _ W)) rfl ?_
 simp only[nmA]
 refine Ad (.int .i64 0) ?_
 simp only[nmA]
 refine Ac (v:=.int .i64 ((4*s+0:Nat):Int)) (fun W=>Ag rfl rfl rfl (Tu (4*s) _ (by omega) rfl _ _ W)) rfl ?_
 simp only[nmA]
 refine Ah hM1 (args:=#[Aa n,.int .i64 ((4*s+0:Nat):Int)]) (v:=.int .u64 (d0:Int)) (rcf (enters_of Tryz.func29 rfl rfl)) ((fun W=>bitd n (4*s+0) d0 hd0 (by omega) W) W1) rfl fun W2 hM2=>?_
 simp only[nmA]
 refine Ad (.int .i64 0) ?_
 simp only[nmA]
 refine Ac (v:=.int .u64 ((d0*1:Nat):Int)) (fun W=>Ag rfl rfl rfl (R9 d0 hl0 _ _ W)) rfl ?_
 simp only[nmA]
 refine Ac (v:=.int .u64 (a1:Int)) (fun W=>Ag rfl rfl rfl (by rw[ea1];exact Jo 0 (by decide) a0 d0 ha0 hl0 _ rfl _ _ W)) rfl ?_
 simp only[nmA]
 refine Ad (.int .u64 (a1:Int)) ?_
 simp only[nmA]
 refine wpList_nil ?_
 (go_step;go_step;refine wp_region_lit ?_)
 refine Ac (v:=.int .i64 1) (fun W=>by go_simp;decide) rfl ?_
 simp only[nmA]
 refine Ad (.int .i64 1) ?_
 simp only[nmA]
 refine wpList_nil ?_
 go_step
 rw[rounds_succ]
 (go_step;refine wp_region_lit ?_)
 refine Ac (v:=.bool true) (fun W=>by go_simp) rfl ?_
 simp only[nmA]
 refine wpList_nil ?_
 ((iterate 10 go_step);refine wp_region_lit ?_)
 refine Ad (.int .i64 1) ?_
 simp only[nmA]
 refine Ad (.int .i64 1) ?_
 simp only[nmA]
 refine wpList_nil ?_
 (go_step;go_step;refine wp_region_lit ?_)
 refine Ad (.int .u64 (a1:Int)) ?_
 simp only[nmA]
 refine AD hM2 0 (v:=Aa n) rfl rfl rfl rfl Bx rfl ?_
 simp only[nmA]
 refine Ad (.int .i64 (s:Int)) ?_
 simp only[nmA]
 refine Ac (v:=.int .i64 ((4*s:Nat):Int)) (fun W=>Ag rfl rfl rfl (Je s hs _ _ W)) rfl ?_
 simp only[nmA]
 refine Ad (.int .i64 1) ?_
 simp only[nmA]
 refine Ac (v:=.int .i64 ((4*s+1:Nat):Int)) (fun W=>Ag rfl rfl rfl (S7 (4*s) _ (by omega) rfl _ _ W)) rfl ?_
 simp only[nmA]
 refine Ah hM2 (args:=#[Aa n,.int .i64 ((4*s+1:Nat):Int)]) (v:=.int .u64 (d1:Int)) (rcf (enters_of Tryz.func29 rfl rfl)) ((fun W=>bitd n (4*s+1) d1 hd1 (by omega) W) W2) rfl fun W3 hM3=>?_
 simp only[nmA]
 refine Ad (.int .i64 1) ?_
 simp only[nmA]
 refine Ac (v:=.int .u64 ((d1*2:Nat):Int)) (fun W=>Ag rfl rfl rfl (R8 d1 hl1 _ _ W)) rfl ?_
 simp only[nmA]
 refine Ac (v:=.int .u64 (a2:Int)) (fun W=>Ag rfl rfl rfl (by rw[ea2];exact Jo 1 (by decide) a1 d1 ha1 hl1 _ rfl _ _ W)) rfl ?_
 simp only[nmA]
 refine Ad (.int .u64 (a2:Int)) ?_
 simp only[nmA]
 refine wpList_nil ?_
 (go_step;go_step;refine wp_region_lit ?_)
 refine Ac (v:=.int .i64 2) (fun W=>by go_simp;decide) rfl ?_
 simp only[nmA]
 refine Ad (.int .i64 2) ?_
 simp only[nmA]
 refine wpList_nil ?_
 go_step
 rw[rounds_succ]
 (go_step;refine wp_region_lit ?_)
 refine Ac (v:=.bool true) (fun W=>by go_simp) rfl ?_
 simp only[nmA]
 refine wpList_nil ?_
 ((iterate 10 go_step);refine wp_region_lit ?_)
 refine Ad (.int .i64 2) ?_
 simp only[nmA]
 refine Ad (.int .i64 2) ?_
 simp only[nmA]
 refine wpList_nil ?_
 (go_step;go_step;refine wp_region_lit ?_)
 refine Ad (.int .u64 (a2:Int)) ?_
 simp only[nmA]
 refine AD hM3 0 (v:=Aa n) rfl rfl rfl rfl Bx rfl ?_
 simp only[nmA]
 refine Ad (.int .i64 (s:Int)) ?_
 simp only[nmA]
 refine Ac (v:=.int .i64 ((4*s:Nat):Int)) (fun W=>Ag rfl rfl rfl (Je s hs _ _ W)) rfl ?_
 simp only[nmA]
 refine Ad (.int .i64 2) ?_
 simp only[nmA]
 refine Ac (v:=.int .i64 ((4*s+2:Nat):Int)) (fun W=>Ag rfl rfl rfl (SL (4*s) _ (by omega) rfl _ _ W)) rfl ?_
 simp only[nmA]
 refine Ah hM3 (args:=#[Aa n,.int .i64 ((4*s+2:Nat):Int)]) (v:=.int .u64 (d2:Int)) (rcf (enters_of Tryz.func29 rfl rfl)) ((fun W=>bitd n (4*s+2) d2 hd2 (by omega) W) W3) rfl fun W4 hM4=>?_
 simp only[nmA]
 refine Ad (.int .i64 2) ?_
 simp only[nmA]
 refine Ac (v:=.int .u64 ((d2*4:Nat):Int)) (fun W=>Ag rfl rfl rfl (RZ d2 hl2 _ _ W)) rfl ?_
 simp only[nmA]
 refine Ac (v:=.int .u64 (a3:Int)) (fun W=>Ag rfl rfl rfl (by rw[ea3];exact Jo 2 (by decide) a2 d2 ha2 hl2 _ rfl _ _ W)) rfl ?_
 simp only[nmA]
 refine Ad (.int .u64 (a3:Int)) ?_
 simp only[nmA]
 refine wpList_nil ?_
 (go_step;go_step;refine wp_region_lit ?_)
 refine Ac (v:=.int .i64 3) (fun W=>by go_simp;decide) rfl ?_
 simp only[nmA]
 refine Ad (.int .i64 3) ?_
 simp only[nmA]
 refine wpList_nil ?_
 go_step
 rw[rounds_succ]
 (go_step;refine wp_region_lit ?_)
 refine Ac (v:=.bool true) (fun W=>by go_simp) rfl ?_
 simp only[nmA]
 refine wpList_nil ?_
 ((iterate 10 go_step);refine wp_region_lit ?_)
 refine Ad (.int .i64 3) ?_
 simp only[nmA]
 refine Ad (.int .i64 3) ?_
 simp only[nmA]
 refine wpList_nil ?_
 (go_step;go_step;refine wp_region_lit ?_)
 refine Ad (.int .u64 (a3:Int)) ?_
 simp only[nmA]
 refine AD hM4 0 (v:=Aa n) rfl rfl rfl rfl Bx rfl ?_
 simp only[nmA]
 refine Ad (.int .i64 (s:Int)) ?_
 simp only[nmA]
 refine Ac (v:=.int .i64 ((4*s:Nat):Int)) (fun W=>Ag rfl rfl rfl (Je s hs _ _ W)) rfl ?_
 simp only[nmA]
 refine Ad (.int .i64 3) ?_
 simp only[nmA]
 refine Ac (v:=.int .i64 ((4*s+3:Nat):Int)) (fun W=>Ag rfl rfl rfl (RY (4*s) _ (by omega) rfl _ _ W)) rfl ?_
 simp only[nmA]
 refine Ah hM4 (args:=#[Aa n,.int .i64 ((4*s+3:Nat):Int)]) (v:=.int .u64 (d3:Int)) (rcf (enters_of Tryz.func29 rfl rfl)) ((fun W=>bitd n (4*s+3) d3 hd3 (by omega) W) W4) rfl fun W5 hM5=>?_
 simp only[nmA]
 refine Ad (.int .i64 3) ?_
 simp only[nmA]
 refine Ac (v:=.int .u64 ((d3*8:Nat):Int)) (fun W=>Ag rfl rfl rfl (Sf d3 hl3 _ _ W)) rfl ?_
 simp only[nmA]
 refine Ac (v:=.int .u64 (a4:Int)) (fun W=>Ag rfl rfl rfl (by rw[ea4];exact Jo 3 (by decide) a3 d3 ha3 hl3 _ rfl _ _ W)) rfl ?_
 simp only[nmA]
 refine Ad (.int .u64 (a4:Int)) ?_
 simp only[nmA]
 refine wpList_nil ?_
 (go_step;go_step;refine wp_region_lit ?_)
 refine Ac (v:=.int .i64 4) (fun W=>by go_simp;decide) rfl ?_
 simp only[nmA]
 refine Ad (.int .i64 4) ?_
 simp only[nmA]
 refine wpList_nil ?_
 go_step
 rw[rounds_succ]
 (go_step;refine wp_region_lit ?_)
 refine Ac (v:=.bool false) (fun W=>by go_simp) rfl ?_
 simp only[nmA]
 refine wpList_nil ?_
 ((iterate 8 go_step);refine wp_region_lit ?_)
 refine Ad (.int .u64 (a4:Int)) ?_
 simp only[nmA]
 refine Ad (.int .u64 (a4:Int)) ?_
 simp only[nmA]
 refine wpList_nil ?_
 ((iterate 3 go_step);refine bodyPost_ret (v:=.int .u64 (a4:Int)) (AY Tryz.results162 rfl) rfl ⟨?_,hM5.below⟩)
 exact rfl
end Go.Proofs.YtnaldciakclccaaGreat
