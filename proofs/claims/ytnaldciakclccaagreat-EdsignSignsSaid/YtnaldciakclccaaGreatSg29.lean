/- Lemmas of this proof. -/
import Derived.Test.YtnaldciakclccaaGreatSg27
import Derived.Test.YtnaldciakclccaaGreatSg28
import Derived.Test.YtnaldciakclccaaGreatSg26
import Derived.Test.YtnaldciakclccaaGreatSg15
namespace Go.Proofs.YtnaldciakclccaaGreat
set_option maxRecDepth 20000
set_option maxHeartbeats 8000000
set_option linter.unusedSimpArgs false
set_option linter.unusedVariables false
open Go.RowKit Go.Sort
section
variable {P:Program} {w w0:World} {ops:Array Oper} {Q:Exit→Act→World→Prop} {o:Oper} {rest:List Oper} {A:Act}
theorem Ro {v:Value} (h:(execOp A.eval o).run P w=.ok (.value v) w) (hgd:Region.wanted o (yielded ops A.tmps)=true) (hr:wpList P ops Q rest (A.put o.dst v) w):wpList P ops Q (o::rest) A w:=by
 refine wpList_step fun K hK=>?_
 rw[if_pos hgd]
 unfold Oper.wp
 rw[h]
 exact hK _ _ hr
theorem Gl {f:FuncId} {args:Array Value} {R:Ending→World→Prop} (h:∀ W,(execOp A.eval o).run P W=.ok (.enter f args) W) (hc:Calls P f args w R) (hgd:Region.wanted o (yielded ops A.tmps)=true) (hr:∀ e w',R e w'→∃ v,e=.returned v∧wpList P ops Q rest (A.put o.dst v) w'):wpList P ops Q (o::rest) A w:=by
 refine wpList_step fun K hK=>?_
 rw[if_pos hgd]
 unfold Oper.wp
 rw[h]
 exact hc.mono fun e w' he=>by
  obtain⟨v,rfl,hv⟩:=hr e w' he
  exact hK _ _ hv
end
section
variable {P:Program} {ops:Array Oper} {w0:World} {Q:Act→World→Prop} {o:Oper} {rest:List Oper} {k:Nat} {A:Act} {Ps:List PkW} {ns:List Nat}
theorem Gf (j:Nat) (t:Tmp) {f:FuncId} {args:Nat→Array Value} {v:Value} {v0:Nat→Value} {ob:Obj} (hf:Ps.filter (BP ops o)=[(j,fun u w'=>∃ b,u=v0 b∧w'.heap[b]?=some ob)]) (hd:AV ops j=some t)
    (hw:∀ b,Region.wanted o (yielded ops (A.put (some t) (v0 b)).tmps)=true)
    (h:∀ b W,(execOp (A.put (some t) (v0 b)).eval o).run P W=.ok (.enter f (args b)) W)
    (hc:∀ b W,Below w0.heap.size w0 W→W.heap[b]?=some ob→Calls P f (args b) W fun e w'=>e=.returned v∧Below W.heap.size W w')
    (hr:BI P ops w0 Q rest (k+1) (A.put o.dst v) Ps ns):BI P ops w0 Q (o::rest) k A Ps ns :=
 .inl ⟨v,fun d os=>by
  rw[hf]
  rintro u ⟨b,rfl,hb⟩
  show CC P ops o _ _ (A.put (AV ops j) (v0 b))
  rw[hd]
  unfold CC
  rw[if_pos (hw b),h]
  exact⟨rfl,(hc b _ (below_regrown w0 d os) hb).mono fun e w' he=>⟨v,he.1,rfl,he.2⟩⟩,hr⟩
end
section
variable {P:Program} {ops:Array Oper} {w0:World} {Q:Act→World→Prop} {o:Oper} {rest:List Oper} {k:Nat} {A:Act} {Ps:List PkW} {ns:List Nat}
theorem Kh {v:Value} (h:∀ W,Below w0.heap.size w0 W→(execOp A.eval o).run P W=.ok (.value v) W) (hf:Ps.filter (BP ops o)=[]) (hw:Region.wanted o (yielded ops A.tmps)=true)
    (hr:BI P ops w0 Q rest (k+1) (A.put o.dst v) Ps ns):BI P ops w0 Q (o::rest) k A Ps ns :=
 .inl ⟨v,fun d os=>by
  rw[hf]
  show CC P ops o _ _ A
  unfold CC
  rw[if_pos hw,h _ (below_regrown w0 d os)]
  exact⟨rfl,Below.refl _ _⟩,hr⟩
end
def hs5 (L D:List UInt8):Prop:=∃ bl q,DV 128 (L++ER L) bl q∧D=FI (CJ Bt Bd bl)
theorem ZD (L:List UInt8):∃ D,hs5 L D:=by
 obtain⟨bl,q,h⟩:=L3 _ (L++ER L) (Nat.le_refl _)
 exact⟨_,bl,q,h,rfl⟩
theorem ci {L D:List UInt8} (h:hs5 L D):D.length=64:=by
 obtain⟨bl,q,_,rfl⟩:=h
 rw[Jh,(Fz _ _ Ci.1 Ci.2 _).1]
theorem QH {L D:List UInt8} (h:hs5 L D):(⟨D.toArray⟩:ByteArray).size=64:=by
 show D.toArray.size=64
 rw[List.size_toArray]
 exact ci h
theorem Gc {W:World} {g:Nat} {T:TypeId} (ss:List ByteArray) (h:W.heap[g]?=some (.cells (ss.map Value.string).toArray T (0,0))):DJ W (some ⟨g,0,none⟩) (ss.map fun s=>s.data.toList):=by
 refine .inr ⟨g,0,rfl,(Array.getElem?_eq_some_iff.1 h).1,fun i hi=>?_⟩
 rw[cell_of_row W g _ _ _ _ h]
 have hi':i<ss.length:=by simpa using hi
 rw[List.getElem_map]
 show _=some (Value.string ⟨(ss[i]).data.toList.toArray⟩)
 rw[GU]
 simp[hi']
theorem XH:Df Tryz.prog 117:=⟨⟨_,Tryz.underlying117,rfl⟩,by kernel_rfl⟩
theorem et:Df Tryz.prog 74:=⟨⟨_,Tryz.underlying74,rfl⟩,by kernel_rfl⟩
theorem gn (W:World):(Instr.alloc 117 true (.tuple #[])).run Tryz.prog W=.ok (.pointer (some ⟨W.heap.size,0,none⟩)) (W.alloc (.cells #[.pointer none] 117 (0,0))):=by
 kernel_rfl
theorem ik (a:Option Addr) (l c:Nat) (W:World):(Instr.box 74 (.slice a l c)).run Tryz.prog W=.ok (.pointer (some ⟨W.heap.size,0,none⟩)) (W.alloc (.cells #[.slice a l c] 74 (0,0))):=by
 go_simp
def ZK (w:World) (t3 t1:Nat) (a2:Option Addr) (l2 c2:Nat) (ss2:List (List UInt8)):Prop :=
 l2=ss2.length∧∃ c g,Dg w c g []∧w.heap[t3]?=some (.cells #[.pointer (some ⟨c,0,none⟩)] 117 (0,0))∧w.heap[t1]?=some (.cells #[.slice a2 l2 c2] 74 (0,0))∧DJ w a2 ss2
theorem ZK.below {w w':World} {t3 t1:Nat} {a2:Option Addr} {l2 c2:Nat} {ss2:List (List UInt8)} (h:ZK w t3 t1 a2 l2 c2 ss2) (hb:Below w.heap.size w w'):ZK w' t3 t1 a2 l2 c2 ss2:=by
 obtain⟨e,c,g,h1,h2,h3,h4⟩:=h
 exact⟨e,c,g,h1.below hb,(hb.block t3 (Array.getElem?_eq_some_iff.1 h2).1).trans h2,(hb.block t1 (Array.getElem?_eq_some_iff.1 h3).1).trans h3,h4.below hb⟩
theorem O9 {w w':World} {a:Option Addr} {ss:List (List UInt8)} (h:DJ w a ss) (hb:Below w.heap.size w w') {c g:Nat} (hc:w.heap.size≤c) (hg:w.heap.size≤g):ss=[]∨∃ b off,a=some ⟨b,off,none⟩∧b≠c∧b≠g∧∀ i,(hi:i<ss.length)→w'.cell? ⟨b,off+i,none⟩=some (Cb ss[i]) :=
 h.imp id fun ⟨b,off,e,hl,hx⟩=>⟨b,off,e,by omega,by omega,fun i hi=>(hb.cell (p:=⟨b,off+i,none⟩) hl).trans (hx i hi)⟩
theorem JL (t3 t1:Nat) (a1 a2:Option Addr) (c1 c2:Nat) (ss1 ss2:List (List UInt8)) (l2:Nat) (D:List UInt8) (w:World) (hN:ZK w t3 t1 a2 l2 c2 ss2) (hs1:DJ w a1 ss1) (hl1:ss1.length≤1000) (hl2:ss2.length≤1000) (hn:ss1.flatten.length+ss2.flatten.length≤1000000) (hD:hs5 (ss1.flatten++ss2.flatten) D) :
    Calls Tryz.prog 87 #[.slice a1 ss1.length c1,.pointer (some ⟨t3,0,none⟩),.pointer (some ⟨t1,0,none⟩)] w fun e w'=>e=.returned (Aa (leN D%LN))∧Below w.heap.size w w':=by
 obtain⟨rfl,c,g,hH,h3,h1,hs2⟩:=hN
 have KR:=Lh (fun W=>Ri ⟨D.toArray⟩ W (by rw[QH hD];decide))
 rw[show (⟨D.toArray⟩:ByteArray).data.toList=D by simp] at KR
 obtain⟨N,eN⟩:=exzb (leN D%LN)
 rw[eN] at KR ⊢
 clear eN
 obtain⟨DB,eD⟩:∃ B:ByteArray,B=⟨D.toArray⟩:=⟨_,rfl⟩
 rw[← eD] at KR
 obtain⟨bl,q,hcu,hDD⟩:=hD
 obtain⟨m1,em1⟩:=exza (ss1.length)
 obtain⟨m2,em2⟩:=exza (ss2.length)
 rw[← em1]
 rw[← em2] at h1
 go_enter Tryz.func87,Tryz.ntmps87
 have hM0:=Mem.start w
 (go_step;go_step;refine wp_region_lit ?_)
 refine Au hM0 (ob:=.cells z4 24 (0,0)) (fun W=>Ab rfl (FJ W)) rfl fun b1 W1 hM1=>?_
 simp only[nmA]
 refine wpList_nil ?_
 ((iterate 3 go_step);refine wp_region_lit ?_)
 refine Ro (v:=.pointer (some ⟨c,0,none⟩)) (CP rfl rfl (hM1.old h3) rfl XH) rfl ?_
 simp only[nmA]
 refine Gl (args:=#[.pointer (some ⟨c,0,none⟩)]) (rcf (enters_of Tryz.func88 rfl rfl)) (MT c g [] W1 (hH.below hM1.below)) rfl ?_
 rintro e W2 ⟨c',g',rfl,hc',hg',hH2,hb2⟩
 refine⟨_,rfl,?_⟩
 simp only[nmA]
 refine Ad (.pointer (some ⟨c',0,none⟩)) ?_
 simp only[nmA]
 refine wpList_nil ?_
 have hM2:=hM1.calls hb2
 ((iterate 3 go_step);refine wp_region_lit ?_)
 refine Ad (.pointer (some ⟨c',0,none⟩)) ?_
 simp only[nmA]
 refine Ad (.slice a1 m1 c1) ?_
 simp only[nmA]
 refine Gl (args:=#[.pointer (some ⟨c',0,none⟩),.slice a1 m1 c1]) (rcf (enters_of Tryz.func89 rfl rfl)) (em1 ▸ Gw c' g' c1 a1 [] ss1 W2 hH2 (O9 (hs1.below hM1.below) hb2 hc' hg') hl1 (by rw[List.length_nil];omega)) rfl ?_
 rintro e W3 ⟨rfl,hH3,hT3⟩
 rw[List.nil_append] at hH3
 refine⟨_,rfl,?_⟩
 simp only[nmA]
 refine wpList_nil ?_
 have hb3:=Two.below hb2 hT3 hb2.size hc' hg'
 have hM3:=hM1.calls hb3
 ((iterate 3 go_step);refine wp_region_lit ?_)
 refine Ad (.pointer (some ⟨c',0,none⟩)) ?_
 simp only[nmA]
 refine Ro (v:=.slice a2 m2 c2) (CP rfl rfl (hM3.old h1) rfl et) rfl ?_
 simp only[nmA]
 refine Gl (args:=#[.pointer (some ⟨c',0,none⟩),.slice a2 m2 c2]) (rcf (enters_of Tryz.func89 rfl rfl)) (em2 ▸ Gw c' g' c2 a2 ss1.flatten ss2 W3 hH3 (O9 (hs2.below hM1.below) hb3 hc' hg') hl2 (by omega)) rfl ?_
 rintro e W4 ⟨rfl,hH4,hT4⟩
 refine⟨_,rfl,?_⟩
 simp only[nmA]
 refine wpList_nil ?_
 have hb4:=Two.below hb3 hT4 hb3.size hc' hg'
 have hM4:=hM1.calls hb4
 ((iterate 3 go_step);refine wp_region_lit ?_)
 refine Ad (.pointer (some ⟨c',0,none⟩)) ?_
 simp only[nmA]
 refine Aj hM4 (args:=#[.pointer (some ⟨c',0,none⟩)]) (v:=.string DB) (rcf (enters_of Tryz.func91 rfl rfl)) (by rw[eD,hDD];exact Q7 c' g' (ss1.flatten++ss2.flatten) W4 hH4 (by rw[List.length_append];exact hn) bl q hcu) rfl fun W5 hM5=>?_
 simp only[nmA]
 refine Aj hM5 (args:=#[.string DB]) (v:=.tuple #[Aa N,.int .i64 0]) (rcf (enters_of Tryz.func90 rfl rfl)) (KR.out W5) rfl fun W6 hM6=>?_
 simp only[nmA]
 refine Ad (.tuple #[Aa N,.int .i64 0]) ?_
 simp only[nmA]
 refine Ad (Aa N) ?_
 simp only[nmA]
 refine Ad (.int .i64 0) ?_
 simp only[nmA]
 refine Au hM6 (ob:=.cells z4 24 (0,0)) (fun W=>Ab rfl (FJ W)) rfl fun b2 W7 hM7=>?_
 simp only[nmA]
 refine Ax hM7 0 (cs:=elR N) rfl rfl rfl rfl Bw rfl (AB N) rfl rfl fun W8 hM8=>?_
 simp only[nm2,nm3] at hM8
 refine Ad (.int .i64 0) ?_
 simp only[nmA]
 refine wpList_nil ?_
 ((iterate 3 go_step);refine wp_region_lit ?_)
 refine AG hM8 0 (v:=Aa N) rfl rfl rfl rfl Bw rfl ?_
 simp only[nmA]
 refine Ax hM8 1 (cs:=elR N) rfl rfl rfl rfl Bw rfl (AB N) rfl rfl fun W9 hM9=>?_
 simp only[nm2,nm3] at hM9
 refine wpList_nil ?_
 ((iterate 3 go_step);refine bodyPost_ret (v:=Aa N) (Ao Tryz.results87 rfl (hM9.load 1 rfl Bw)) rfl ⟨rfl,hM9.below⟩)
theorem QY (a2:Option Addr) (c2:Nat) (ss2:List (List UInt8)) (w:World) (hs2:DJ w a2 ss2):Calls Tryz.prog 39 #[.slice a2 ss2.length c2] w fun e w'=>∃ t3 t1,e=.returned (.func (.func 87) #[] #[.pointer (some ⟨t3,0,none⟩),.pointer (some ⟨t1,0,none⟩)])∧ZK w' t3 t1 a2 ss2.length c2 ss2∧Below w.heap.size w w':=by
 obtain⟨l2,el2⟩:=exza (ss2.length)
 rw[← el2]
 go_enter Tryz.func39,Tryz.ntmps39
 have hM0:=Mem.start w
 (go_step;go_step;refine wp_region_lit ?_)
 refine Au hM0 (ob:=.cells #[.slice a2 l2 c2] 74 (0,0)) (fun W=>AP rfl rfl (ik a2 l2 c2 W)) rfl fun b1 W1 hM1=>?_
 simp only[nmA]
 refine Ad (.nilFunc) ?_
 simp only[nmA]
 refine wpList_nil ?_
 ((iterate 3 go_step);refine wp_region_lit ?_)
 refine Gl (args:=#[]) (rcf (enters_of Tryz.func86 rfl rfl)) (QO W1) rfl ?_
 rintro e W2 ⟨c,g,rfl,hc,hg,hH,hb⟩
 refine⟨_,rfl,?_⟩
 have hM2:=hM1.calls hb
 simp only[nmA]
 have hMs:=Mem.start W2
 refine Au hMs (ob:=.cells #[.pointer none] 117 (0,0)) (fun W=>Ab rfl (gn W)) rfl fun b2 W3 hM3=>?_
 simp only[nmA]
 refine Bh hM3 0 (cs':=#[.pointer (some ⟨c,0,none⟩)]) rfl rfl rfl rfl (by show 0<1;decide) (rfl) XH rfl rfl rfl fun W4 hM4=>?_
 simp only[nm2,nm3] at hM4
 refine wpList_nil ?_
 ((iterate 3 go_step);refine wp_region_lit ?_)
 refine Ac (v:=.func (.func 87) #[] #[.pointer (some ⟨b2,0,none⟩),.pointer (some ⟨b1,0,none⟩)]) (fun W=>Bs rfl (by simp[Instr.makeFunc,Act.eval])) rfl ?_
 simp only[nmA]
 refine Ad (.func (.func 87) #[] #[.pointer (some ⟨b2,0,none⟩),.pointer (some ⟨b1,0,none⟩)]) ?_
 simp only[nmA]
 refine wpList_nil ?_
 have hK:=hM2.calls hM4.below
 ((iterate 3 go_step);refine bodyPost_ret (v:=.func (.func 87) #[] #[.pointer (some ⟨b2,0,none⟩),.pointer (some ⟨b1,0,none⟩)]) (Br Tryz.results39 rfl) rfl ⟨b2,b1,rfl,⟨el2,c,g,hH.below hM4.below,hM4.get 0 rfl,hK.get 0 rfl,hs2.below hK.below⟩,hK.below⟩)
theorem Iz (s:ByteArray) (D:List UInt8) (hs:s.size≤4000) (hD:hs5 s.data.toList D) (w:World):Calls Tryz.prog 44 #[.string s] w fun E w'=>E=.returned (Aa (leN D%LN))∧Below w.heap.size w w':=by
 have KR:=Lh (fun W=>Qr ⟨D.toArray⟩ W (by rw[QH hD];decide))
 rw[show (⟨D.toArray⟩:ByteArray).data.toList=D by simp] at KR
 obtain⟨bl,q,hcu,hDD⟩:=hD
 have KH:=Lh (fun W=>Qq s.data.toList (by simpa using hs) bl q hcu W)
 rw[← hDD] at KH
 have KH:Hid (∀ w,Calls Tryz.prog 21 #[.string s] w fun e w'=>e=.returned (.string ⟨D.toArray⟩)∧Below w.heap.size w w'):=KH.out
 obtain⟨DB,eD⟩:∃ B:ByteArray,B=⟨D.toArray⟩:=⟨_,rfl⟩
 rw[← eD] at KR KH
 obtain⟨N,eN⟩:=exzb (leN D%LN)
 rw[eN] at KR ⊢
 clear eN eD hDD hcu
 have HMIX:=Lh (show Tryz.prog.follows .mixedOrders=true by kernel_rfl)
 go_enter Tryz.func44,Tryz.ntmps44
 have hM0:=Mem.start w
 (go_step;go_step;refine wp_region_lit ?_)
 refine Au hM0 (ob:=.cells z4 23 (0,0)) (fun W=>Ab rfl (Dd W)) rfl fun b1 W1 hM1=>?_
 simp only[nmA]
 refine wpList_nil ?_
 ((iterate 3 go_step);refine wp_region_lit ?_)
 refine Ad (.string s) ?_
 simp only[nmA]
 refine Aj hM1 (args:=#[.string s]) (v:=.string DB) (rcf (enters_of Tryz.func21 rfl rfl)) (KH.out W1) rfl fun W2 hM2=>?_
 simp only[nmA]
 refine Aj hM2 (args:=#[.string DB]) (v:=Aa N) (rcf (enters_of Tryz.func103 rfl rfl)) (KR.out W2) rfl fun W3 hM3=>?_
 simp only[nmA]
 refine Ax hM3 0 (cs:=(elR N)) rfl rfl rfl rfl AY rfl (AB N) rfl rfl fun W4 hM4=>?_
 simp only[nm2,nm3] at hM4
 refine wpList_nil ?_
 ((iterate 3 go_step);refine bodyPost_ret (v:=Aa N) (Ao Tryz.results44 rfl (hM4.load 0 rfl AY)) rfl ⟨?_,hM4.below⟩)
 exact rfl
theorem du (k l:Nat) (W:World):(Instr.buildSlice 125 2 #[(0,Aa k),(1,Aa l)]).run Tryz.prog W=.ok (.slice (some ⟨W.heap.size,0,none⟩) 2 2) (W.alloc (.cells (elR k++elR l) 24 (0,0))):=by
 unfold Aa elR
 go_simp
theorem Uc (s t:ByteArray) (W:World):(Instr.buildSlice 74 2 #[(0,.string s),(1,.string t)]).run Tryz.prog W=.ok (.slice (some ⟨W.heap.size,0,none⟩) 2 2) (W.alloc (.cells #[.string s,.string t] 9 (0,0))):=by
 go_simp
theorem gN (r s t:ByteArray) (W:World):(Instr.buildSlice 74 3 #[(0,.string r),(1,.string s),(2,.string t)]).run Tryz.prog W=.ok (.slice (some ⟨W.heap.size,0,none⟩) 3 3) (W.alloc (.cells #[.string r,.string s,.string t] 9 (0,0))):=by
 go_simp
theorem M9 (k l:Nat) (hk:k<B64^4) (hl:l<B64^4) (g:Nat) (W:World) (h:W.heap[g]?=some (.cells (elR k++elR l) 24 (0,0))):sc_IsNums W (some ⟨g,0,none⟩) 2 [k,l] :=
 ⟨rfl,fun n hn=>by
  simp only[List.mem_cons,List.not_mem_nil,or_false] at hn
  rcases hn with rfl | rfl
  ·exact hk
  ·exact hl,fun _=>⟨g,rfl,(Array.getElem?_eq_some_iff.1 h).1,fun i j hi hj=>by
  rw[cell_of_row W g (i*4+j) _ _ _ h]
  have hi2:i=0∨i=1:=by omega
  have hj4:j=0∨j=1∨j=2∨j=3:=by omega
  rcases hi2 with rfl | rfl <;> rcases hj4 with rfl | rfl | rfl | rfl <;> rfl⟩⟩
theorem Xw (k l s:Nat) (hk:k<B64^4) (hl:l<B64^4) (hs:(k+l)%LN=s) (g:Nat) (W:World) (h:W.heap[g]?=some (.cells (elR k++elR l) 24 (0,0))):Calls Tryz.prog 43 #[.slice (some ⟨g,0,none⟩) 2 2] W fun e w'=>e=.returned (Aa s)∧Below W.heap.size W w':=by
 have hc:=Sv (some ⟨g,0,none⟩) 2 2 [k,l] W (by decide) (M9 k l hk hl g W h)
 rw[show [k,l].foldl (fun a b=>(a+b)%LN) 0=s by
  rw[← hs]
  simp only[List.foldl_cons,List.foldl_nil,Nat.zero_add]
  rw[Nat.mod_add_mod]] at hc
 exact hc
theorem Vn (k l s:Nat) (hk:k<B64^4) (hl:l<B64^4) (hs:k*l%LN=s) (g:Nat) (W:World) (h:W.heap[g]?=some (.cells (elR k++elR l) 24 (0,0))):Calls Tryz.prog 42 #[.slice (some ⟨g,0,none⟩) 2 2] W fun e w'=>e=.returned (Aa s)∧Below W.heap.size W w':=by
 have hc:=PA (some ⟨g,0,none⟩) 2 2 [k,l] W (by decide) (M9 k l hk hl g W h)
 rw[show [k,l].foldl (fun a b=>a*b%LN) 1=s by
  rw[← hs]
  simp only[List.foldl_cons,List.foldl_nil,Nat.one_mul]
  rw[Nat.mod_mul_mod]] at hc
 exact hc
theorem fR (s F2 PB RB SB SG:ByteArray) (n N1 N2 X Z:Nat) (R:N4) (a2:Option Addr) (l2 c2:Nat) (ss2:List (List UInt8)) (D1 D2:List UInt8) (hl:l2=ss2.length) (hl2:ss2.length≤1000)
    (hD1:hs5 ([F2.data.toList].flatten++ss2.flatten) D1) (hD2:hs5 ([RB.data.toList,PB.data.toList].flatten++ss2.flatten) D2) (hn_D1:[F2.data.toList].flatten.length+ss2.flatten.length≤1000000) (hn_D2:[RB.data.toList,PB.data.toList].flatten.length+ss2.flatten.length≤1000000) (eN1:leN D1%LN=N1) (eN2:leN D2%LN=N2) (eSG:RB++SB=SG) (hz:RB.size+SB.size≤9223372036854775807)
    (KO:Hid (∀ w,Calls Tryz.prog 6 #[.string s] w fun E w'=>E=.returned (.tuple #[FF n F2 PB,.int .i64 0])∧Below w.heap.size w w')) (KB:Hid (∀ w,Calls Tryz.prog 41 #[Aa N1] w fun E w'=>E=.returned (pv4 R)∧Below w.heap.size w w')) (KE:Hid (∀ w,Calls Tryz.prog 40 #[pv4 R] w fun E w'=>E=.returned (.string RB)∧Below w.heap.size w w')) (KX:Hid (∀ (g:Nat) (w:World),w.heap[g]?=some (.cells (elR N2++elR n) 24 (0,0))→Calls Tryz.prog 42 #[.slice (some ⟨g,0,none⟩) 2 2] w fun E w'=>E=.returned (Aa X)∧Below w.heap.size w w')) (KZ:Hid (∀ (g:Nat) (w:World),w.heap[g]?=some (.cells (elR N1++elR X) 24 (0,0))→Calls Tryz.prog 43 #[.slice (some ⟨g,0,none⟩) 2 2] w fun E w'=>E=.returned (Aa Z)∧Below w.heap.size w w')) (KSB:Hid (∀ w,Calls Tryz.prog 31 #[Aa Z] w fun E w'=>E=.returned (.string SB)∧Below w.heap.size w w')) (w:World) (hs2:DJ w a2 ss2):Calls Tryz.prog 14 #[.string s,.slice a2 l2 c2] w fun E w'=>E=.returned (.tuple #[.string SG,.int .i64 0])∧Below w.heap.size w w':=by
 subst hl
 obtain⟨l2,el2⟩:=exza (ss2.length)
 have KNM:=Lh (fun W h=>QY a2 c2 ss2 W h)
 rw[← el2] at KNM ⊢
 have HMIX:=Lh (show Tryz.prog.follows .mixedOrders=true by kernel_rfl)
 go_enter Tryz.func14,Tryz.ntmps14
 have hM0:=Mem.start w
 (go_step;go_step;refine wp_region_lit ?_)
 refine Ad (.string (⟨#[]⟩)) ?_
 simp only[nmA]
 refine Ad (.int .i64 0) ?_
 simp only[nmA]
 refine wpList_nil ?_
 ((iterate 3 go_step);refine wp_region_lit ?_)
 refine Ad (.string s) ?_
 simp only[nmA]
 refine Aj hM0 (args:=#[.string s]) (v:=.tuple #[FF n F2 PB,.int .i64 0]) (rcf (enters_of Tryz.func6 rfl rfl)) (KO.out w) rfl fun W1 hM1=>?_
 simp only[nmA]
 refine Ad (.tuple #[FF n F2 PB,.int .i64 0]) ?_
 simp only[nmA]
 refine Ad (FF n F2 PB) ?_
 simp only[nmA]
 refine Ad (.int .i64 0) ?_
 simp only[nmA]
 refine Au hM1 (ob:=.cells Dr 26 (0,0)) (fun W=>Ab rfl (GF W)) rfl fun b1 W2 hM2=>?_
 simp only[nmA]
 refine Ax hM2 0 (cs:=((NL n F2 PB))) rfl rfl rfl rfl D8 rfl (I4 _ _ _) rfl rfl fun W3 hM3=>?_
 simp only[nm2,nm3] at hM3
 refine Ad (.int .i64 0) ?_
 simp only[nmA]
 refine wpList_nil ?_
 ((iterate 4 go_step);refine wp_region_lit ?_)
 refine Ad (.int .i64 0) ?_
 simp only[nmA]
 refine Ac (v:=.bool false) (fun W=>BY W rfl rfl rfl rfl) rfl ?_
 simp only[nmA]
 refine wpList_nil ?_
 ((iterate 7 go_step);refine wp_region_lit ?_)
 refine Ad (.slice a2 l2 c2) ?_
 simp only[nmA]
 refine Gl (args:=#[.slice a2 l2 c2]) (rcf (enters_of Tryz.func39 rfl rfl)) (KNM.out W3 (hs2.below hM3.below)) rfl ?_
 rintro e W4 ⟨t3,t1,rfl,hN,hb⟩
 refine⟨_,rfl,?_⟩
 have hM4:=hM3.calls hb
 simp only[nmA]
 have hMs:=Mem.start W4
 refine Ad (.func (.func 87) #[] #[.pointer (some ⟨t3,0,none⟩),.pointer (some ⟨t1,0,none⟩)]) ?_
 simp only[nmA]
 refine wpList_nil ?_
 ((iterate 3 go_step);refine wp_region_lit ?_)
 refine Ad (.func (.func 87) #[] #[.pointer (some ⟨t3,0,none⟩),.pointer (some ⟨t1,0,none⟩)]) ?_
 simp only[nmA]
 refine Ac (v:=.pointer (some ⟨b1,4,none⟩)) (fun W=>AM rfl rfl (aI b1 W)) rfl ?_
 simp only[nmA]
 refine Ro (v:=.string F2) (CP rfl rfl (hMs.old (hM4.get 0 rfl)) rfl NP) rfl ?_
 simp only[nmA]
 refine FT hMs (f:=fun b=>.slice (some ⟨b,0,none⟩) 1 1) (ob:=.cells (#[.string F2]) 9 (0,0)) (fun W=>At rfl (by simp[Act.eval]) (YT F2 W)) rfl fun b2 W5 hM5=>?_
 simp only[nmA]
 refine Aj hM5 (args:=#[.slice (some ⟨b2,0,none⟩) 1 1,.pointer (some ⟨t3,0,none⟩),.pointer (some ⟨t1,0,none⟩)]) (v:=Aa N1) (fun W=>BX W (enters_of Tryz.func87 rfl rfl) rfl rfl (by simp[Act.eval];rfl) rfl) (eN1 ▸ JL t3 t1 (some ⟨b2,0,none⟩) a2 1 c2 [F2.data.toList] ss2 l2 D1 W5 (hN.below hM5.below) (Gc [F2] (hM5.get 0 rfl)) (by simp) hl2 hn_D1 hD1) rfl fun W6 hM6=>?_
 simp only[nmA]
 refine Au hM6 (ob:=.cells z4 24 (0,0)) (fun W=>Ab rfl (FJ W)) rfl fun b3 W7 hM7=>?_
 simp only[nmA]
 refine Ax hM7 0 (cs:=(elR N1)) rfl rfl rfl rfl Bw rfl (AB N1) rfl rfl fun W8 hM8=>?_
 simp only[nm2,nm3] at hM8
 refine wpList_nil ?_
 ((iterate 3 go_step);refine wp_region_lit ?_)
 refine AG hM8 0 (v:=Aa N1) rfl rfl rfl rfl Bw rfl ?_
 simp only[nmA]
 refine Aj hM8 (args:=#[Aa N1]) (v:=pv4 R) (rcf (enters_of Tryz.func41 rfl rfl)) (KB.out W8) rfl fun W9 hM9=>?_
 simp only[nmA]
 refine Aj hM9 (args:=#[pv4 R]) (v:=.string RB) (rcf (enters_of Tryz.func40 rfl rfl)) (KE.out W9) rfl fun W10 hM10=>?_
 simp only[nmA]
 refine Ad (.string RB) ?_
 simp only[nmA]
 refine wpList_nil ?_
 ((iterate 3 go_step);refine An 11 HMIX.out (by decide) (by kernel_rfl) (by kernel_rfl) ?_)
 refine Az (.func (.func 87) #[] #[.pointer (some ⟨t3,0,none⟩),.pointer (some ⟨t1,0,none⟩)]) ?_;simp only[nmA]
 refine Az (.string RB) ?_;simp only[nmA]
 refine As (v:=.pointer (some ⟨b1,5,none⟩)) (fun W=>AM rfl rfl (T4 b1 W)) rfl rfl ?_;simp only[nmA]
 refine Kh (v:=.string PB) (fun W hW=>CP rfl rfl ((hM10.calls hW).old (hM4.get 0 rfl)) rfl NP) rfl rfl ?_;simp only[nmA]
 refine AR (n:=2) (L:=#[.string RB,.string PB]) (T:=9) (fun W=>At rfl (by simp[Act.eval]) (Uc RB PB W)) rfl rfl ?_;simp only[List.nil_append,List.cons_append]
 refine Gf 4 34 (args:=fun b=>#[.slice (some ⟨b,0,none⟩) 2 2,.pointer (some ⟨t3,0,none⟩),.pointer (some ⟨t1,0,none⟩)]) (v0:=fun b=>.slice (some ⟨b,0,none⟩) 2 2) (v:=Aa N2) rfl rfl (fun _=>rfl) (fun b W=>BX W (enters_of Tryz.func87 rfl rfl) rfl rfl (by simp[Act.eval,Act.put];rfl) rfl) (fun b W hW h=>eN2 ▸ JL t3 t1 (some ⟨b,0,none⟩) a2 2 c2 [RB.data.toList,PB.data.toList] ss2 l2 D2 W (hN.below (hM10.calls hW).below) (Gc [RB,PB] h) (by simp) hl2 hn_D2 hD2) ?_;simp only[nmA]
 refine As (v:=.pointer (some ⟨b1,0,none⟩)) (fun W=>AM rfl rfl (ao b1 W)) rfl rfl ?_;simp only[nmA]
 refine Kh (v:=Aa n) (fun W hW=>CQ (cs:=((NL n F2 PB))) (sub:=(elR n)) rfl rfl ((hM10.calls hW).old (hM4.get 0 rfl)) rfl Bw) rfl rfl ?_;simp only[nmA]
 refine AR (n:=2) (L:=elR N2++elR n) (T:=24) (fun W=>At rfl (by simp[Act.eval]) (du N2 n W)) rfl rfl ?_;simp only[List.nil_append,List.cons_append]
 refine A7 8 38 (v:=Aa X) rfl rfl (fun _=>rfl) (fun b W=>AK W (enters_of Tryz.func42 rfl rfl) rfl (by simp[Act.eval,Act.put])) (fun b W h=>KX.out b W h) ?_;simp only[nmA]
 refine Cc (.cells z4 24 (0,0)) rfl rfl (fun A W=>Ab rfl (FJ W)) ?_;simp only[List.nil_append,List.cons_append]
 refine AX fun d os=>?_
 refine A6 (t:=34) rfl fun s4=>?_
 refine A6 (t:=38) rfl fun s8=>?_
 refine Bk (t:=11) rfl fun b4 lb4 gb4=>?_
 refine AF fun hap=>?_
 simp only[nmA] at hap ⊢
 have hM11:=hM10.news1 (below_regrown W10 d os) lb4 gb4 
 clear hap lb4 gb4
 generalize grow (redrawn W10 d) os=W11 at hM11 ⊢
 change wpAny _ _ _ _ 1 _ _ _
 refine A8 (n:=11) (by kernel_rfl) rfl hM11 0 (cs:=(elR X)) rfl rfl rfl rfl Bw rfl (AB X) rfl rfl fun W12 hM12=>?_
 simp only[nm2,nm3] at hM12
 refine wpAny_done (by kernel_rfl) ?_ _
 ((iterate 3 go_step);refine wp_region_lit ?_)
 refine Ad (.string RB) ?_
 simp only[nmA]
 refine AG hM12 1 (v:=Aa N1) rfl rfl rfl rfl Bw rfl ?_
 simp only[nmA]
 refine AG hM12 0 (v:=Aa X) rfl rfl rfl rfl Bw rfl ?_
 simp only[nmA]
 refine FT hM12 (f:=fun b=>.slice (some ⟨b,0,none⟩) 2 2) (ob:=.cells (elR N1++elR X) 24 (0,0)) (fun W=>At rfl (by simp[Act.eval]) (du N1 X W)) rfl fun b5 W13 hM13=>?_
 simp only[nmA]
 refine Aj hM13 (args:=#[.slice (some ⟨b5,0,none⟩) 2 2]) (v:=Aa Z) (rcf (enters_of Tryz.func43 rfl rfl)) (KZ.out b5 W13 (hM13.get 0 rfl)) rfl fun W14 hM14=>?_
 simp only[nmA]
 refine Aj hM14 (args:=#[Aa Z]) (v:=.string SB) (rcf (enters_of Tryz.func31 rfl rfl)) (KSB.out W14) rfl fun W15 hM15=>?_
 simp only[nmA]
 refine Ac (v:=.string SG) (fun W=>Ai rfl rfl rfl (eSG ▸ Gs _ _ W hz)) rfl ?_
 simp only[nmA]
 refine Ad (.string SG) ?_
 simp only[nmA]
 refine Ad (.int .i64 0) ?_
 simp only[nmA]
 refine wpList_nil ?_
 have hK:=hM4.calls hM15.below
 ((iterate 3 go_step);refine bodyPost_ret (v:=.tuple #[.string SG,.int .i64 0]) (FA Tryz.results14 rfl rfl) rfl ⟨rfl,hK.below⟩)
theorem eU (s:ByteArray) (hs:s.size≠32) (a2:Option Addr) (l2 c2:Nat) (w:World):Calls Tryz.prog 14 #[.string s,.slice a2 l2 c2] w fun E w'=>E=.returned (.tuple #[.string ⟨#[]⟩,.int .i64 1])∧Below w.heap.size w w':=by
 have KO:=Lh (fun w=>fE s hs w)
 have HMIX:=Lh (show Tryz.prog.follows .mixedOrders=true by kernel_rfl)
 go_enter Tryz.func14,Tryz.ntmps14
 have hM0:=Mem.start w
 (go_step;go_step;refine wp_region_lit ?_)
 refine Ad (.string (⟨#[]⟩)) ?_
 simp only[nmA]
 refine Ad (.int .i64 0) ?_
 simp only[nmA]
 refine wpList_nil ?_
 ((iterate 3 go_step);refine wp_region_lit ?_)
 refine Ad (.string s) ?_
 simp only[nmA]
 refine Aj hM0 (args:=#[.string s]) (v:=.tuple #[.agg Dr,.int .i64 1]) (rcf (enters_of Tryz.func6 rfl rfl)) (KO.out w) rfl fun W1 hM1=>?_
 simp only[nmA]
 refine Ad (.tuple #[.agg Dr,.int .i64 1]) ?_
 simp only[nmA]
 refine Ad (.agg Dr) ?_
 simp only[nmA]
 refine Ad (.int .i64 1) ?_
 simp only[nmA]
 refine Au hM1 (ob:=.cells Dr 26 (0,0)) (fun W=>Ab rfl (GF W)) rfl fun b1 W2 hM2=>?_
 simp only[nmA]
 refine Ax hM2 0 (cs:=Dr) rfl rfl rfl rfl D8 rfl Jb rfl rfl fun W3 hM3=>?_
 simp only[nm2,nm3] at hM3
 refine Ad (.int .i64 1) ?_
 simp only[nmA]
 refine wpList_nil ?_
 ((iterate 4 go_step);refine wp_region_lit ?_)
 refine Ad (.int .i64 1) ?_
 simp only[nmA]
 refine Ac (v:=.bool true) (fun W=>BY W rfl rfl rfl rfl) rfl ?_
 simp only[nmA]
 refine wpList_nil ?_
 ((iterate 4 go_step);refine wp_region_lit ?_)
 refine Ad (.int .i64 1) ?_
 simp only[nmA]
 refine Ad (.string (⟨#[]⟩)) ?_
 simp only[nmA]
 refine Ad (.int .i64 1) ?_
 simp only[nmA]
 refine wpList_nil ?_
 ((iterate 4 go_step);refine bodyPost_ret (v:=.tuple #[.string ⟨#[]⟩,.int .i64 1]) (FA Tryz.results14 rfl rfl) rfl ⟨rfl,hM3.below⟩)
theorem bS (s m F2 PB RB SB SG T1 T2 T3:ByteArray) (n N1 N2 X Z:Nat) (Q:N3) (eT1:F2++m=T1) (eT2:RB++PB=T2) (eT3:T2++m=T3) (eSG:RB++SB=SG) (hz1:F2.size+m.size≤9223372036854775807) (hz2:RB.size+PB.size≤9223372036854775807) (hz3:T2.size+m.size≤9223372036854775807) (hz:RB.size+SB.size≤9223372036854775807)
    (KO:Hid (∀ w,Calls Tryz.prog 9 #[.string s] w fun E w'=>E=.returned (.tuple #[Aa n,.string F2,.string PB])∧Below w.heap.size w w')) (KN1:Hid (∀ w,Calls Tryz.prog 44 #[.string T1] w fun E w'=>E=.returned (Aa N1)∧Below w.heap.size w w')) (KN2:Hid (∀ w,Calls Tryz.prog 44 #[.string T3] w fun E w'=>E=.returned (Aa N2)∧Below w.heap.size w w')) (KT:Hid (∀ w,Calls Tryz.prog 24 #[Aa N1,pv3 (bX,bY,1)] w fun E w'=>E=.returned (pv3 Q)∧Below w.heap.size w w')) (KE:Hid (∀ w,Calls Tryz.prog 23 #[pv3 Q] w fun E w'=>E=.returned (.string RB)∧Below w.heap.size w w')) (KX:Hid (∀ w,Calls Tryz.prog 47 #[Aa N2,Aa n] w fun E w'=>E=.returned (Aa X)∧Below w.heap.size w w')) (KZ:Hid (∀ w,Calls Tryz.prog 46 #[Aa N1,Aa X] w fun E w'=>E=.returned (Aa Z)∧Below w.heap.size w w')) (KSB:Hid (∀ w,Calls Tryz.prog 45 #[Aa Z] w fun E w'=>E=.returned (.string SB)∧Below w.heap.size w w')) (w:World):Calls Tryz.prog 15 #[.string s,.string m] w fun E w'=>E=.returned (.string SG)∧Below w.heap.size w w':=by
 have HMIX:=Lh (show Tryz.prog.follows .mixedOrders=true by kernel_rfl)
 go_enter Tryz.func15,Tryz.ntmps15
 have hM0:=Mem.start w
 (go_step;go_step;refine wp_region_lit ?_)
 refine Ad (.string (⟨#[]⟩)) ?_
 simp only[nmA]
 refine wpList_nil ?_
 ((iterate 3 go_step);refine wp_region_lit ?_)
 refine Ad (.string s) ?_
 simp only[nmA]
 refine Aj hM0 (args:=#[.string s]) (v:=.tuple #[Aa n,.string F2,.string PB]) (rcf (enters_of Tryz.func9 rfl rfl)) (KO.out w) rfl fun W1 hM1=>?_
 simp only[nmA]
 refine Ad (.tuple #[Aa n,.string F2,.string PB]) ?_
 simp only[nmA]
 refine Ad (Aa n) ?_
 simp only[nmA]
 refine Ad (.string F2) ?_
 simp only[nmA]
 refine Ad (.string PB) ?_
 simp only[nmA]
 refine Au hM1 (ob:=.cells z4 23 (0,0)) (fun W=>Ab rfl (Dd W)) rfl fun b1 W2 hM2=>?_
 simp only[nmA]
 refine Ax hM2 0 (cs:=(elR n)) rfl rfl rfl rfl AY rfl (AB n) rfl rfl fun W3 hM3=>?_
 simp only[nm2,nm3] at hM3
 refine Ad (.string F2) ?_
 simp only[nmA]
 refine Ad (.string PB) ?_
 simp only[nmA]
 refine wpList_nil ?_
 ((iterate 3 go_step);refine wp_region_lit ?_)
 refine Ad (.string F2) ?_
 simp only[nmA]
 refine Ad (.string m) ?_
 simp only[nmA]
 refine Ac (v:=.string T1) (fun W=>Ai rfl rfl rfl (eT1 ▸ Gs _ _ W hz1)) rfl ?_
 simp only[nmA]
 refine Aj hM3 (args:=#[.string T1]) (v:=Aa N1) (rcf (enters_of Tryz.func44 rfl rfl)) (KN1.out W3) rfl fun W4 hM4=>?_
 simp only[nmA]
 refine Au hM4 (ob:=.cells z4 23 (0,0)) (fun W=>Ab rfl (Dd W)) rfl fun b2 W5 hM5=>?_
 simp only[nmA]
 refine Ax hM5 0 (cs:=(elR N1)) rfl rfl rfl rfl AY rfl (AB N1) rfl rfl fun W6 hM6=>?_
 simp only[nm2,nm3] at hM6
 refine wpList_nil ?_
 ((iterate 3 go_step);refine An 5 HMIX.out (by decide) (by kernel_rfl) (by kernel_rfl) ?_)
 refine Ar hM6 0 (v:=Aa N1) rfl rfl rfl rfl AY rfl rfl ?_;simp only[nmA]
 refine Aq (args:=#[]) (v:=pv3 ((bX,bY,1))) (rcf (enters_of Tryz.func25 rfl rfl)) (fun W _=>M6 W) rfl rfl ?_;simp only[nmA]
 refine Aq (args:=#[Aa N1,pv3 ((bX,bY,1))]) (v:=pv3 Q) (rcf (enters_of Tryz.func24 rfl rfl)) (fun W _=>KT.out W) rfl rfl ?_;simp only[nmA]
 refine Aq (args:=#[pv3 Q]) (v:=.string RB) (rcf (enters_of Tryz.func23 rfl rfl)) (fun W _=>KE.out W) rfl rfl ?_;simp only[nmA]
 refine Az (.string RB) ?_;simp only[nmA]
 refine AX fun d os=>?_
 refine AF fun hap=>?_
 have hM7:=hM6.calls (below_regrown W6 d os)
 clear hap 
 generalize grow (redrawn W6 d) os=W7 at hM7 ⊢
 refine wpAny_done (by kernel_rfl) ?_ _
 ((iterate 3 go_step);refine wp_region_lit ?_)
 refine Ad (.string RB) ?_
 simp only[nmA]
 refine Ad (.string PB) ?_
 simp only[nmA]
 refine Ac (v:=.string T2) (fun W=>Ai rfl rfl rfl (eT2 ▸ Gs _ _ W hz2)) rfl ?_
 simp only[nmA]
 refine Ad (.string m) ?_
 simp only[nmA]
 refine Ac (v:=.string T3) (fun W=>Ai rfl rfl rfl (eT3 ▸ Gs _ _ W hz3)) rfl ?_
 simp only[nmA]
 refine Aj hM7 (args:=#[.string T3]) (v:=Aa N2) (rcf (enters_of Tryz.func44 rfl rfl)) (KN2.out W7) rfl fun W8 hM8=>?_
 simp only[nmA]
 refine Au hM8 (ob:=.cells z4 23 (0,0)) (fun W=>Ab rfl (Dd W)) rfl fun b3 W9 hM9=>?_
 simp only[nmA]
 refine Ax hM9 0 (cs:=(elR N2)) rfl rfl rfl rfl AY rfl (AB N2) rfl rfl fun W10 hM10=>?_
 simp only[nm2,nm3] at hM10
 refine wpList_nil ?_
 ((iterate 3 go_step);refine An 9 HMIX.out (by decide) (by kernel_rfl) (by kernel_rfl) ?_)
 refine Az (.string RB) ?_;simp only[nmA]
 refine Ar hM10 1 (v:=Aa N1) rfl rfl rfl rfl AY rfl rfl ?_;simp only[nmA]
 refine Ar hM10 0 (v:=Aa N2) rfl rfl rfl rfl AY rfl rfl ?_;simp only[nmA]
 refine Ar hM10 2 (v:=Aa n) rfl rfl rfl rfl AY rfl rfl ?_;simp only[nmA]
 refine Aq (args:=#[Aa N2,Aa n]) (v:=Aa X) (rcf (enters_of Tryz.func47 rfl rfl)) (fun W _=>KX.out W) rfl rfl ?_;simp only[nmA]
 refine Aq (args:=#[Aa N1,Aa X]) (v:=Aa Z) (rcf (enters_of Tryz.func46 rfl rfl)) (fun W _=>KZ.out W) rfl rfl ?_;simp only[nmA]
 refine Aq (args:=#[Aa Z]) (v:=.string SB) (rcf (enters_of Tryz.func45 rfl rfl)) (fun W _=>KSB.out W) rfl rfl ?_;simp only[nmA]
 refine As (v:=.string SG) (fun W=>Ai rfl rfl rfl (eSG ▸ Gs _ _ W hz)) rfl rfl ?_;simp only[nmA]
 refine Az (.string SG) ?_;simp only[nmA]
 refine AX fun d os=>?_
 refine AF fun hap=>?_
 have hM11:=hM10.calls (below_regrown W10 d os)
 clear hap 
 generalize grow (redrawn W10 d) os=W11 at hM11 ⊢
 refine wpAny_done (by kernel_rfl) ?_ _
 ((iterate 3 go_step);refine bodyPost_ret (v:=.string SG) (Br Tryz.results15 rfl) rfl ⟨?_,hM11.below⟩)
 exact rfl
theorem Kv (n k:Nat) (c:Bool) (hc:(n != k)=c) (x y:Operand) (W:World):(do eqGuard .neq 3 x y (.int .i64 (n:Int)) (.int .i64 (k:Int));binOp .neq 3 (.int .i64 (n:Int)) (.int .i64 (k:Int)):Sem Value).run Tryz.prog W=.ok (.bool c) W:=by
 have e:((n:Int) != (k:Int))=c:=by
  rw[← hc,bne,bne]
  congr 1
  rw[Bool.eq_iff_iff]
  simp
  omega
 clear hc
 go_simp
theorem HU {s t:ByteArray}:s.toList=t.toList↔s=t:=by
 constructor
 ·intro h
  rw[ByteArray.toList_eq,ByteArray.toList_eq] at h
  have h2:=Array.toList_inj.1 h
  cases s
  cases t
  exact congrArg ByteArray.mk h2
 ·intro h
  rw[h]
theorem dp (s t:ByteArray) (c:Bool) (hc:(!decide (s=t))=c) (x y:Operand) (W:World):(do eqGuard .neq 9 x y (.string s) (.string t);binOp .neq 9 (.string s) (.string t):Sem Value).run Tryz.prog W=.ok (.bool c) W:=by
 have e:(s.toList == t.toList)=!c:=by
  rw[← hc,Bool.not_not,Bool.eq_iff_iff,beq_iff_eq,decide_eq_true_iff]
  exact HU
 clear hc
 go_simp
theorem cS (p g:ByteArray) (a2:Option Addr) (l2 c2:Nat) (hp:(p.size != 32)=false) (hg:(g.size != 64)=false) (D:N4) (hH:g.size=64) (G1 G2:ByteArray) (e1:g.extract 0 32=G1) (e2:g.extract 32 g.size=G2) (z eD eS R:Nat) (KD:Hid (∀ w,Calls Tryz.prog 10 #[.string p] w fun E w'=>E=.returned (.tuple #[pv4 D,.int .i64 (eD:Int)])∧Below w.heap.size w w')) (KS:Hid (∀ w,Calls Tryz.prog 48 #[.string G2] w fun E w'=>E=.returned (.tuple #[Aa z,.int .i64 (eS:Int)])∧Below w.heap.size w w')) {P:Pt} (oD:Ok4 D P) (ss2:List (List UInt8)) (hl:l2=ss2.length) (hl2:ss2.length≤1000) (D2:List UInt8) (hD2:hs5 ([G1.data.toList,p.data.toList].flatten++ss2.flatten) D2) (hn_D2:[G1.data.toList,p.data.toList].flatten.length+ss2.flatten.length≤1000000) (N2:Nat) (eN2:leN D2%LN=N2) (B:N4) (KB:Hid (∀ w,Calls Tryz.prog 49 #[Aa N2,pv4 (GG D),Aa z] w fun E w'=>E=.returned (pv4 B)∧Below w.heap.size w w')) (EB:ByteArray) (KE:Hid (∀ w,Calls Tryz.prog 40 #[pv4 B] w fun E w'=>E=.returned (.string EB)∧Below w.heap.size w w')) (hR:R=bif !decide (eD=0) then eD else bif !decide (eS=0) then eS else bif !decide (EB=G1) then 21 else 0) (w:World) (hs2:DJ w a2 ss2):Calls Tryz.prog 16 #[.string p,.string g,.slice a2 l2 c2] w fun E w'=>E=.returned (.int .i64 (R:Int))∧Below w.heap.size w w':=by
 subst hl
 obtain⟨l2,el2⟩:=exza (ss2.length)
 have KNM:=Lh (fun W h=>QY a2 c2 ss2 W h)
 rw[← el2] at KNM ⊢
 have HMIX:=Lh (show Tryz.prog.follows .mixedOrders=true by kernel_rfl)
 go_enter Tryz.func16,Tryz.ntmps16
 have hM0:=Mem.start w
 (go_step;go_step;refine wp_region_lit ?_)
 refine Ad (.int .i64 0) ?_
 simp only[nmA]
 refine wpList_nil ?_
 ((iterate 4 go_step);refine wp_region_lit ?_)
 refine Ad (.string p) ?_
 simp only[nmA]
 refine Ac (v:=.int .i64 (p.size:Int)) (fun W=>Cs W rfl (by simp[Act.eval]) rfl Tryz.underlying9) rfl ?_
 simp only[nmA]
 refine Ac (v:=.bool false) (fun W=>Ai rfl rfl rfl (Kv p.size 32 false hp _ _ W)) rfl ?_
 simp only[nmA]
 refine Ad (.bool false) ?_
 simp only[nmA]
 refine Ad (.string g) ?_
 simp only[nmA]
 refine Ac (v:=.int .i64 (g.size:Int)) (fun W=>Cs W rfl (by simp[Act.eval]) rfl Tryz.underlying9) rfl ?_
 simp only[nmA]
 refine Ac (v:=.bool false) (fun W=>Ai rfl rfl rfl (Kv g.size 64 false hg _ _ W)) rfl ?_
 simp only[nmA]
 refine Ad (.bool false) ?_
 simp only[nmA]
 refine wpList_nil ?_
 ((iterate 7 go_step);refine wp_region_lit ?_)
 refine Ad (.string p) ?_
 simp only[nmA]
 refine Aj hM0 (args:=#[.string p]) (v:=.tuple #[pv4 D,.int .i64 (eD:Int)]) (rcf (enters_of Tryz.func10 rfl rfl)) (KD.out w) rfl fun W1 hM1=>?_
 simp only[nmA]
 refine Ad (.tuple #[pv4 D,.int .i64 (eD:Int)]) ?_
 simp only[nmA]
 refine Ad (pv4 D) ?_
 simp only[nmA]
 refine Ad (.int .i64 (eD:Int)) ?_
 simp only[nmA]
 refine Au hM1 (ob:=.cells z16 39 (0,0)) (fun W=>Ab rfl (En W)) rfl fun b1 W2 hM2=>?_
 simp only[nmA]
 refine Ax hM2 0 (cs:=((pc4 D))) rfl rfl rfl rfl AS rfl (Cd _) rfl rfl fun W3 hM3=>?_
 simp only[nm2,nm3] at hM3
 refine Ad (.int .i64 (eD:Int)) ?_
 simp only[nmA]
 refine wpList_nil ?_
 ((iterate 4 go_step);refine wp_region_lit ?_)
 refine Ad (.int .i64 (eD:Int)) ?_
 simp only[nmA]
 obtain⟨c1,hc1⟩:=exza (!decide (eD=0))
 refine Ac (v:=.bool c1) (fun W=>Ai rfl rfl rfl (by rw[hc1];exact FL eD _ _ W)) rfl ?_
 simp only[nmA]
 refine wpList_nil ?_
 cases c1
 ·skip
  ((iterate 7 go_step);refine wp_region_lit ?_)
  refine Ad (.string g) ?_
  simp only[nmA]
  refine Ac (v:=.string G1) (fun W=>e1 ▸ Bp W rfl (by simp[Act.eval]) (DI (j:=32) W Tryz.underlying9 (by rw[hH];decide))) rfl ?_
  simp only[nmA]
  refine Ad (.string G1) ?_
  simp only[nmA]
  refine wpList_nil ?_
  ((iterate 3 go_step);refine wp_region_lit ?_)
  refine Ad (.string g) ?_
  simp only[nmA]
  refine Ac (v:=.string G2) (fun W=>e2 ▸ Bp W rfl (by simp[Act.eval]) (EV (i:=32) W Tryz.underlying9 (by rw[hH];decide))) rfl ?_
  simp only[nmA]
  refine Aj hM3 (args:=#[.string G2]) (v:=.tuple #[Aa z,.int .i64 (eS:Int)]) (rcf (enters_of Tryz.func48 rfl rfl)) (KS.out W3) rfl fun W4 hM4=>?_
  simp only[nmA]
  refine Ad (.tuple #[Aa z,.int .i64 (eS:Int)]) ?_
  simp only[nmA]
  refine Ad (Aa z) ?_
  simp only[nmA]
  refine Ad (.int .i64 (eS:Int)) ?_
  simp only[nmA]
  refine Au hM4 (ob:=.cells z4 24 (0,0)) (fun W=>Ab rfl (FJ W)) rfl fun b2 W5 hM5=>?_
  simp only[nmA]
  refine Ax hM5 0 (cs:=(elR z)) rfl rfl rfl rfl Bw rfl (AB z) rfl rfl fun W6 hM6=>?_
  simp only[nm2,nm3] at hM6
  refine Ad (.int .i64 (eS:Int)) ?_
  simp only[nmA]
  refine wpList_nil ?_
  ((iterate 4 go_step);refine wp_region_lit ?_)
  refine Ad (.int .i64 (eS:Int)) ?_
  simp only[nmA]
  obtain⟨c2,hc2⟩:=exza (!decide (eS=0))
  refine Ac (v:=.bool c2) (fun W=>Ai rfl rfl rfl (by rw[hc2];exact FL eS _ _ W)) rfl ?_
  simp only[nmA]
  refine wpList_nil ?_
  cases c2
  ·skip
   ((iterate 7 go_step);refine wp_region_lit ?_)
   refine Ad (.slice a2 l2 c2) ?_
   simp only[nmA]
   refine Gl (args:=#[.slice a2 l2 c2]) (rcf (enters_of Tryz.func39 rfl rfl)) (KNM.out W6 (hs2.below hM6.below)) rfl ?_
   rintro e W7 ⟨t3,t1,rfl,hN,hb⟩
   refine⟨_,rfl,?_⟩
   have hM7:=hM6.calls hb
   simp only[nmA]
   have hMs:=Mem.start W7
   refine Ad (.string G1) ?_
   simp only[nmA]
   refine Ad (.string p) ?_
   simp only[nmA]
   refine FT hMs (f:=fun b=>.slice (some ⟨b,0,none⟩) 2 2) (ob:=.cells (#[.string G1,.string p]) 9 (0,0)) (fun W=>At rfl (by simp[Act.eval]) (Uc G1 p W)) rfl fun b3 W8 hM8=>?_
   simp only[nmA]
   refine Aj hM8 (args:=#[.slice (some ⟨b3,0,none⟩) 2 2,.pointer (some ⟨t3,0,none⟩),.pointer (some ⟨t1,0,none⟩)]) (v:=Aa N2) (fun W=>BX W (enters_of Tryz.func87 rfl rfl) rfl rfl (by simp[Act.eval];rfl) rfl) (eN2 ▸ JL t3 t1 (some ⟨b3,0,none⟩) a2 2 c2 [G1.data.toList,p.data.toList] ss2 l2 D2 W8 (hN.below hM8.below) (Gc [G1,p] (hM8.get 0 rfl)) (by simp) hl2 hn_D2 hD2) rfl fun W9 hM9=>?_
   simp only[nmA]
   refine Au hM9 (ob:=.cells z4 24 (0,0)) (fun W=>Ab rfl (FJ W)) rfl fun b4 W10 hM10=>?_
   simp only[nmA]
   refine Ax hM10 0 (cs:=(elR N2)) rfl rfl rfl rfl Bw rfl (AB N2) rfl rfl fun W11 hM11=>?_
   simp only[nm2,nm3] at hM11
   refine wpList_nil ?_
   ((iterate 4 go_step);refine An 8 HMIX.out (by decide) (by kernel_rfl) (by kernel_rfl) ?_)
   refine Ar hM11 0 (v:=Aa N2) rfl rfl rfl rfl Bw rfl rfl ?_;simp only[nmA]
   refine Kh (v:=pv4 D) (fun W hW=>CQ (cs:=((pc4 D))) (sub:=((pc4 D))) rfl rfl ((hM11.calls hW).old (hM7.get 1 rfl)) rfl AS) rfl rfl ?_;simp only[nmA]
   refine Aq (args:=#[pv4 D]) (v:=pv4 ((GG D))) (rcf (enters_of Tryz.func35 rfl rfl)) (fun W _=>ZN oD W) rfl rfl ?_;simp only[nmA]
   refine Kh (v:=Aa z) (fun W hW=>CQ (cs:=(elR z)) (sub:=(elR z)) rfl rfl ((hM11.calls hW).old (hM7.get 0 rfl)) rfl Bw) rfl rfl ?_;simp only[nmA]
   refine Aq (args:=#[Aa N2,pv4 ((GG D)),Aa z]) (v:=pv4 B) (rcf (enters_of Tryz.func49 rfl rfl)) (fun W _=>KB.out W) rfl rfl ?_;simp only[nmA]
   refine Aq (args:=#[pv4 B]) (v:=.string EB) (rcf (enters_of Tryz.func40 rfl rfl)) (fun W _=>KE.out W) rfl rfl ?_;simp only[nmA]
   refine Az (.string G1) ?_;simp only[nmA]
   obtain⟨c3,hc3⟩:=exza (!decide (EB=G1))
   refine As (v:=.bool c3) (fun W=>Ai rfl rfl rfl (by rw[hc3];exact dp EB G1 _ rfl _ _ W)) rfl rfl ?_;simp only[nmA]
   refine AX fun d os=>?_
   refine AF fun hap=>?_
   have hM12:=hM11.calls (below_regrown W11 d os)
   clear hap 
   generalize grow (redrawn W11 d) os=W12 at hM12 ⊢
   refine wpAny_done (by kernel_rfl) ?_ _
   cases c3
   ·skip
    ((iterate 7 go_step);refine wp_region_lit ?_)
    refine Ad (.int .i64 0) ?_
    simp only[nmA]
    refine wpList_nil ?_
    have hK:=hM7.calls hM12.below
    ((iterate 3 go_step);refine bodyPost_ret (v:=.int .i64 0) (Br Tryz.results16 rfl) rfl ⟨?_,hK.below⟩)
    exact by rw[hR,← hc1,← hc2,← hc3];rfl
   ·skip
    ((iterate 4 go_step);refine wp_region_lit ?_)
    refine Ad (.int .i64 21) ?_
    simp only[nmA]
    refine wpList_nil ?_
    have hK:=hM7.calls hM12.below
    ((iterate 4 go_step);refine bodyPost_ret (v:=.int .i64 21) (Br Tryz.results16 rfl) rfl ⟨?_,hK.below⟩)
    exact by rw[hR,← hc1,← hc2,← hc3];rfl
  ·skip
   ((iterate 4 go_step);refine wp_region_lit ?_)
   refine Ad (.int .i64 (eS:Int)) ?_
   simp only[nmA]
   refine Ad (.int .i64 (eS:Int)) ?_
   simp only[nmA]
   refine wpList_nil ?_
   ((iterate 4 go_step);refine bodyPost_ret (v:=.int .i64 (eS:Int)) (Br Tryz.results16 rfl) rfl ⟨?_,hM6.below⟩)
   exact by rw[hR,← hc1,← hc2];rfl
 ·skip
  ((iterate 4 go_step);refine wp_region_lit ?_)
  refine Ad (.int .i64 (eD:Int)) ?_
  simp only[nmA]
  refine Ad (.int .i64 (eD:Int)) ?_
  simp only[nmA]
  refine wpList_nil ?_
  ((iterate 4 go_step);refine bodyPost_ret (v:=.int .i64 (eD:Int)) (Br Tryz.results16 rfl) rfl ⟨?_,hM3.below⟩)
  exact by rw[hR,← hc1];rfl
theorem TM {L D D':List UInt8} (h:hs5 L D) (h':hs5 L D'):D=D':=by
 obtain⟨bl,q,c,rfl⟩:=h
 obtain⟨bl',q',c',rfl⟩:=h'
 obtain⟨rfl,rfl⟩:=DV.one c c'
 rfl
theorem OO (a:Nat):a%LN<B64^4:=Nat.lt_trans (Nat.mod_lt _ FD) G7
theorem UW (n k r x z:Nat) (hx:k*n%LN=x) (hz:(r+x)%LN=z):Bi (AC k (OD (AC n BK))) (AC z BK)=AC r BK:=by
 have oA:=Ca BK Di n
 have oR:=Ca BK Di r
 have oX:=Ca BK Di x
 rw[eE r x z hz]
 have e1:AC x BK=AC k (AC n BK):=by rw[← hx,Nk,EX BK Di]
 rw[e1]
 have oN:=Ca _ (OG _ oA) k
 have oK:=Ca _ oA k
 rw[CZ (AC r BK),← Cv _ _ _ oN oK oR,← JF _ _ (OG _ oA) oA,CZ (OD _),af _ oA,IF,Ev _ oR]
theorem F9 (a b:ByteArray):(a++b).data.toList=a.data.toList++b.data.toList:=by
 show (a++b).data.toList=_
 simp
theorem fi (a b:ByteArray) (ha:a.size=32):(a++b).extract 0 32=a:=by
 have h:((a++b).extract 0 32).data.toList=a.data.toList:=by
  rw[DM,F9,List.drop_zero]
  have hl:a.data.toList.length=32:=by simpa using ha
  rw[show 32-0=a.data.toList.length by rw[hl]]
  exact List.take_left' rfl
 exact HU.1 (by rw[ByteArray.toList_eq,ByteArray.toList_eq,h])
theorem eO (a b:ByteArray) (ha:a.size=32):(a++b).extract 32 (a++b).size=b:=by
 have hl:a.data.toList.length=32:=by simpa using ha
 have h:((a++b).extract 32 (a++b).size).data.toList=b.data.toList:=by
  rw[DM,F9]
  rw[show a.data.toList++b.data.toList=a.data.toList++b.data.toList from rfl,List.drop_left' hl]
  refine List.take_of_length_le ?_
  have:(a++b).size=a.size+b.size:=by simp
  have hb:b.data.toList.length=b.size:=by simp
  omega
 exact HU.1 (by rw[ByteArray.toList_eq,ByteArray.toList_eq,h])
theorem YZ (s:ByteArray) (hs:s.size=32) (M:List UInt8) (hM:M.length≤300):∃ (F2 PB RB SG:ByteArray) (n:Nat) (D1 D2:List UInt8),n=clN (leN ((Jl s.data.toList).take 32))∧PB=⟨(byL (Fd (AC n BK).1.val (AC n BK).2.val)).toArray⟩∧F2.data.toList=(Jl s.data.toList).drop 32∧hs5 (F2.data.toList++M) D1∧RB=⟨(byL (Fd (AC (leN D1%LN) BK).1.val (AC (leN D1%LN) BK).2.val)).toArray⟩∧hs5 (RB.data.toList++PB.data.toList++M) D2∧SG=RB++⟨(byL ((leN D1%LN+(leN D2%LN)*n%LN)%LN)).toArray⟩ ∧
    Hid (∀ (a2:Option Addr) (l2 c2:Nat) (ss2:List (List UInt8)) (w:World),ss2.flatten=M→l2=ss2.length→ss2.length≤1000→DJ w a2 ss2→Calls Tryz.prog 14 #[.string s,.slice a2 l2 c2] w fun E w'=>E=.returned (.tuple #[.string SG,.int .i64 0])∧Below w.heap.size w w') ∧
    Hid (∀ (m:ByteArray) (w:World),m.data.toList=M→Calls Tryz.prog 15 #[.string s,.string m] w fun E w'=>E=.returned (.string SG)∧Below w.heap.size w w') ∧
    Hid (∀ w,Calls Tryz.prog 7 #[.string s] w fun E w'=>E=.returned (.tuple #[.string PB,.int .i64 0])∧Below w.heap.size w w') ∧
    Hid (∀ (a2:Option Addr) (l2 c2:Nat) (ss2:List (List UInt8)) (w:World),ss2.flatten=M→l2=ss2.length→ss2.length≤1000→DJ w a2 ss2→Calls Tryz.prog 16 #[.string PB,.string SG,.slice a2 l2 c2] w fun E w'=>E=.returned (.int .i64 0)∧Below w.heap.size w w'):=by
 obtain⟨F2,PB,n,en,ePB,hF,hn,KO,KP,KR⟩:=f9 s hs
 have hFl:F2.data.toList.length=32:=by
  rw[hF,List.length_drop,Q3 _ (by simpa using hs)]
 have hFs:F2.size=32:=by simpa using hFl
 have oA:=Ca BK Di n
 obtain⟨dE,dP⟩:=bQ (AC n BK) oA
 have hPs:PB.size=32:=by rw[ePB];exact Ex _
 have hPl:PB.data.toList.length=32:=by simpa using hPs
 obtain⟨DD,oD,KD⟩:=RQ PB hPs
 have KD:=Lh KD
 have hle:leN PB.data.toList=Fd (AC n BK).1.val (AC n BK).2.val:=by rw[ePB];exact Kp _ (Ui _ _ (Fin.isLt _)).2.2
 rw[hle,dE] at KD
 rw[hle,dP] at oD
 obtain⟨D1,hD1⟩:=ZD (F2.data.toList++M)
 obtain⟨N1,eN1⟩:=exzb (leN D1%LN)
 have hN1:N1<B64^4:=by rw[← eN1];exact OO _
 obtain⟨R,oR,KB⟩:=Uh N1 hN1
 obtain⟨Q,oQ,KT⟩:=Nc Qo N1 hN1
 obtain⟨RB,eRB⟩:∃ B:ByteArray,B=⟨(byL (Fd (AC N1 BK).1.val (AC N1 BK).2.val)).toArray⟩:=⟨_,rfl⟩
 have KE:=Lh (fun w=>IK oR w)
 have KE2:=Lh (fun w=>J5 oQ w)
 rw[← eRB] at KE KE2
 have hRs:RB.size=32:=by rw[eRB];exact Ex _
 have hRl:RB.data.toList.length=32:=by simpa using hRs
 obtain⟨D2,hD2⟩:=ZD (RB.data.toList++PB.data.toList++M)
 obtain⟨N2,eN2⟩:=exzb (leN D2%LN)
 have hN2:N2<B64^4:=by rw[← eN2];exact OO _
 obtain⟨X,eX⟩:=exzb (N2*n%LN)
 have hX:X<B64^4:=by rw[← eX];exact OO _
 obtain⟨Z,eZ⟩:=exzb ((N1+X)%LN)
 have hZL:Z<LN:=by rw[← eZ];exact Nat.mod_lt _ FD
 have hZ:Z<B64^4:=Nat.lt_trans hZL G7
 obtain⟨SB,eSB⟩:∃ B:ByteArray,B=⟨(byL Z).toArray⟩:=⟨_,rfl⟩
 have hSs:SB.size=32:=by rw[eSB];exact Ex _
 have KSB:=Lh (fun w=>Ep Z w)
 have KSR:=Lh (fun w=>Le Z w)
 rw[← eSB] at KSB KSR
 obtain⟨SG,eSG⟩:=exzb (RB++SB)
 have KX:=Lh (fun g w h=>Vn N2 n X hN2 hn eX g w h)
 have KZ:=Lh (fun g w h=>Xw N1 X Z hN1 hX eZ g w h)
 have KXr:=Lh (fun w=>Oc N2 n w hN2 hn)
 have KZr:=Lh (fun w=>WR N1 X w hN1 hX)
 rw[eX] at KXr
 rw[eZ] at KZr
 have hgs:SG.size=64:=by
  have:(RB++SB).size=RB.size+SB.size:=by simp
  rw[← eSG,this,hRs,hSs]
 have c1:SG.extract 0 32=RB:=by rw[← eSG];exact fi RB SB hRs
 have cut2:SG.extract 32 SG.size=SB:=by rw[← eSG];exact eO RB SB hRs
 have KS:=Lh (fun w=>Xn SB w hSs)
 have hlZ:leN SB.data.toList=Z:=by rw[eSB];exact Kp _ hZ
 rw[hlZ,if_pos hZL] at KS
 obtain⟨BV,oBV,KBV⟩:=Yq (Td oD) N2 Z hN2 hZ
 rw[UW n N2 N1 X Z eX eZ] at oBV
 have KEV:=Lh (fun w=>IK oBV w)
 rw[← eRB] at KEV
 have hp:(PB.size != 32)=false:=by rw[hPs];rfl
 have hg:(SG.size != 64)=false:=by rw[hgs];rfl
 refine⟨F2,PB,RB,SG,n,D1,D2,en,ePB,hF,hD1,?_,hD2,?_,?_,?_,KP,?_⟩
 ·rw[eN1];exact eRB
 ·rw[eN1,eN2,eX,eZ,← eSB];exact eSG.symm
 ·intro a2 l2 c2 ss2 w hf hl hl2 hst
  exact fR s F2 PB RB SB SG n N1 N2 X Z R a2 l2 c2 ss2 D1 D2 hl hl2 (by rw[hf];simpa using hD1) (by rw[hf];simpa using hD2) (by rw[hf];simp only[List.flatten_cons,List.flatten_nil,List.append_nil];omega) (by rw[hf];simp only[List.flatten_cons,List.flatten_nil,List.append_nil,List.length_append];omega) eN1 eN2 eSG (by omega) KO KB KE KX KZ KSB w hst
 ·intro m w hm
  have hms:m.size≤300:=by
   have:m.data.toList.length=m.size:=by simp
   rw[hm] at this
   omega
  have z1:(F2++m).size=F2.size+m.size:=by simp
  have z2:(RB++PB).size=RB.size+PB.size:=by simp
  have z3:(RB++PB++m).size=(RB++PB).size+m.size:=by simp
  have KN1:=Lh (fun w=>Iz (F2++m) D1 (by omega) (by rw[F9,hm];exact hD1) w)
  have KN2:=Lh (fun w=>Iz (RB++PB++m) D2 (by omega) (by rw[F9,F9,hm];exact hD2) w)
  rw[eN1] at KN1
  rw[eN2] at KN2
  exact bS s m F2 PB RB SB SG _ _ _ n N1 N2 X Z Q rfl rfl rfl eSG (by omega) (by omega) (by omega) (by omega) KR KN1 KN2 KT KE2 KXr KZr KSR w
 ·intro a2 l2 c2 ss2 w hf hl hl2 hst
  exact cS PB SG a2 l2 c2 hp hg DD hgs RB SB c1 cut2 Z 0 0 0 KD KS oD ss2 hl hl2 D2 (by rw[hf];simpa using hD2) (by rw[hf];simp only[List.flatten_cons,List.flatten_nil,List.append_nil,List.length_append];omega) N2 eN2 BV KBV RB KEV (by simp) w hst
end Go.Proofs.YtnaldciakclccaaGreat
