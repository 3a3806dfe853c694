/- Lemmas of this proof. -/
import Derived.Test.YtnaldciakclccaaGreatEv27
import Derived.Test.YtnaldciakclccaaGreatEv28
namespace Go.Proofs.YtnaldciakclccaaGreat
set_option maxRecDepth 20000
set_option maxHeartbeats 8000000
set_option linter.unusedSimpArgs false
set_option linter.unusedVariables false
open Go.RowKit Go.Sort
section
variable {P:Program} {w w0:World} {ops:Array Oper} {Q:Exit→Act→World→Prop} {o:Oper} {rest:List Oper} {A:Act}
theorem Sn {v:Value} (h:(execOp A.eval o).run P w=.ok (.value v) w) (hgd:Region.wanted o (yielded ops A.tmps)=true) (hr:wpList P ops Q rest (A.put o.dst v) w):wpList P ops Q (o::rest) A w:=by
 refine wpList_step fun K hK=>?_
 rw[if_pos hgd]
 unfold Oper.wp
 rw[h]
 exact hK _ _ hr
theorem GA {f:FuncId} {args:Array Value} {R:Ending→World→Prop} (h:∀ W,(execOp A.eval o).run P W=.ok (.enter f args) W) (hc:Calls P f args w R) (hgd:Region.wanted o (yielded ops A.tmps)=true) (hr:∀ e w',R e w'→∃ v,e=.returned v∧wpList P ops Q rest (A.put o.dst v) w'):wpList P ops Q (o::rest) A w:=by
 refine wpList_step fun K hK=>?_
 rw[if_pos hgd]
 unfold Oper.wp
 rw[h]
 exact hc.mono fun e w' he=>by
  obtain⟨v,rfl,hv⟩:=hr e w' he
  exact hK _ _ hv
end
section
variable {P:Program} {ops:Array Oper} {w0:World} {Q:Act→World→Prop} {o:Oper} {rest:List Oper} {k:Nat} {A:Act} {Ps:List PkW} {ns:List Nat}
theorem U6 (j:Nat) (t:Tmp) {f:FuncId} {args:Nat→Array Value} {v:Value} {v0:Nat→Value} {ob:Obj} (hf:Ps.filter (BZ ops o)=[(j,fun u w'=>∃ b,u=v0 b∧w'.heap[b]?=some ob)]) (hd:AW ops j=some t)
    (hw:∀ b,Region.wanted o (yielded ops (A.put (some t) (v0 b)).tmps)=true)
    (h:∀ b W,(execOp (A.put (some t) (v0 b)).eval o).run P W=.ok (.enter f (args b)) W)
    (hc:∀ b W,Below w0.heap.size w0 W→W.heap[b]?=some ob→Calls P f (args b) W fun e w'=>e=.returned v∧Below W.heap.size W w')
    (hr:BO P ops w0 Q rest (k+1) (A.put o.dst v) Ps ns):BO P ops w0 Q (o::rest) k A Ps ns :=
 .inl ⟨v,fun d os=>by
  rw[hf]
  rintro u ⟨b,rfl,hb⟩
  show CC P ops o _ _ (A.put (AW ops j) (v0 b))
  rw[hd]
  unfold CC
  rw[if_pos (hw b),h]
  exact⟨rfl,(hc b _ (below_regrown w0 d os) hb).mono fun e w' he=>⟨v,he.1,rfl,he.2⟩⟩,hr⟩
end
section
variable {P:Program} {ops:Array Oper} {w0:World} {Q:Act→World→Prop} {o:Oper} {rest:List Oper} {k:Nat} {A:Act} {Ps:List PkW} {ns:List Nat}
theorem Lc {v:Value} (h:∀ W,Below w0.heap.size w0 W→(execOp A.eval o).run P W=.ok (.value v) W) (hf:Ps.filter (BZ ops o)=[]) (hw:Region.wanted o (yielded ops A.tmps)=true)
    (hr:BO P ops w0 Q rest (k+1) (A.put o.dst v) Ps ns):BO P ops w0 Q (o::rest) k A Ps ns :=
 .inl ⟨v,fun d os=>by
  rw[hf]
  show CC P ops o _ _ A
  unfold CC
  rw[if_pos hw,h _ (below_regrown w0 d os)]
  exact⟨rfl,Below.refl _ _⟩,hr⟩
end
def hs5 (L D:List UInt8):Prop:=∃ bl q,DY 128 (L++E8 L) bl q∧D=FV (CP Bt Bf bl)
theorem Ti (L:List UInt8):∃ D,hs5 L D:=by
 obtain⟨bl,q,h⟩:=LC _ (L++E8 L) (Nat.le_refl _)
 exact⟨_,bl,q,h,rfl⟩
theorem bC {L D:List UInt8} (h:hs5 L D):D.length=64:=by
 obtain⟨bl,q,_,rfl⟩:=h
 rw[Jg,(FT _ _ Cj.1 Cj.2 _).1]
theorem Rj {L D:List UInt8} (h:hs5 L D):(⟨D.toArray⟩:ByteArray).size=64:=by
 show D.toArray.size=64
 rw[List.size_toArray]
 exact bC h
theorem I8 {W:World} {g:Nat} {T:TypeId} (ss:List ByteArray) (h:W.heap[g]?=some (.cells (ss.map Value.string).toArray T (0,0))):DN W (some ⟨g,0,none⟩) (ss.map fun s=>s.data.toList):=by
 refine .inr ⟨g,0,rfl,(Array.getElem?_eq_some_iff.1 h).1,fun i hi=>?_⟩
 rw[cell_of_row W g _ _ _ _ h]
 have hi':i<ss.length:=by simpa using hi
 rw[List.getElem_map]
 show _=some (Value.string ⟨(ss[i]).data.toList.toArray⟩)
 rw[GX]
 simp[hi']
theorem Yd:Di Tryz.prog 117:=⟨⟨_,Tryz.underlying117,rfl⟩,by kernel_rfl⟩
theorem gP:Di Tryz.prog 74:=⟨⟨_,Tryz.underlying74,rfl⟩,by kernel_rfl⟩
theorem hJ (W:World):(Instr.alloc 117 true (.tuple #[])).run Tryz.prog W=.ok (.pointer (some ⟨W.heap.size,0,none⟩)) (W.alloc (.cells #[.pointer none] 117 (0,0))):=by
 kernel_rfl
theorem io (a:Option Addr) (l c:Nat) (W:World):(Instr.box 74 (.slice a l c)).run Tryz.prog W=.ok (.pointer (some ⟨W.heap.size,0,none⟩)) (W.alloc (.cells #[.slice a l c] 74 (0,0))):=by
 go_simp
def Z0 (w:World) (t3 t1:Nat) (a2:Option Addr) (l2 c2:Nat) (ss2:List (List UInt8)):Prop :=
 l2=ss2.length∧∃ c g,Dl w c g []∧w.heap[t3]?=some (.cells #[.pointer (some ⟨c,0,none⟩)] 117 (0,0))∧w.heap[t1]?=some (.cells #[.slice a2 l2 c2] 74 (0,0))∧DN w a2 ss2
theorem Z0.below {w w':World} {t3 t1:Nat} {a2:Option Addr} {l2 c2:Nat} {ss2:List (List UInt8)} (h:Z0 w t3 t1 a2 l2 c2 ss2) (hb:Below w.heap.size w w'):Z0 w' t3 t1 a2 l2 c2 ss2:=by
 obtain⟨e,c,g,h1,h2,h3,h4⟩:=h
 exact⟨e,c,g,h1.below hb,(hb.block t3 (Array.getElem?_eq_some_iff.1 h2).1).trans h2,(hb.block t1 (Array.getElem?_eq_some_iff.1 h3).1).trans h3,h4.below hb⟩
theorem Qd {w w':World} {a:Option Addr} {ss:List (List UInt8)} (h:DN w a ss) (hb:Below w.heap.size w w') {c g:Nat} (hc:w.heap.size≤c) (hg:w.heap.size≤g):ss=[]∨∃ b off,a=some ⟨b,off,none⟩∧b≠c∧b≠g∧∀ i,(hi:i<ss.length)→w'.cell? ⟨b,off+i,none⟩=some (Cd ss[i]) :=
 h.imp id fun ⟨b,off,e,hl,hx⟩=>⟨b,off,e,by omega,by omega,fun i hi=>(hb.cell (p:=⟨b,off+i,none⟩) hl).trans (hx i hi)⟩
theorem JK (t3 t1:Nat) (a1 a2:Option Addr) (c1 c2:Nat) (ss1 ss2:List (List UInt8)) (l2:Nat) (D:List UInt8) (w:World) (hN:Z0 w t3 t1 a2 l2 c2 ss2) (hs1:DN w a1 ss1) (hl1:ss1.length≤1000) (hl2:ss2.length≤1000) (hn:ss1.flatten.length+ss2.flatten.length≤1000000) (hD:hs5 (ss1.flatten++ss2.flatten) D) :
    Calls Tryz.prog 87 #[.slice a1 ss1.length c1,.pointer (some ⟨t3,0,none⟩),.pointer (some ⟨t1,0,none⟩)] w fun e w'=>e=.returned (Aa (leN D%LN))∧Below w.heap.size w w':=by
 obtain⟨rfl,c,g,hH,h3,h1,hs2⟩:=hN
 have KR:=Lh (fun W=>Tj ⟨D.toArray⟩ W (by rw[Rj hD];decide))
 rw[show (⟨D.toArray⟩:ByteArray).data.toList=D by simp] at KR
 obtain⟨N,eN⟩:=exzb (leN D%LN)
 rw[eN] at KR ⊢
 clear eN
 obtain⟨DB,eD⟩:∃ B:ByteArray,B=⟨D.toArray⟩:=⟨_,rfl⟩
 rw[← eD] at KR
 obtain⟨bl,q,hcu,hDD⟩:=hD
 obtain⟨m1,em1⟩:=exza (ss1.length)
 obtain⟨m2,em2⟩:=exza (ss2.length)
 rw[← em1]
 rw[← em2] at h1
 go_enter Tryz.func87,Tryz.ntmps87
 have hM0:=Mem.start w
 (go_step;go_step;refine wp_region_lit ?_)
 refine At hM0 (ob:=.cells z4 24 (0,0)) (fun W=>Ab rfl (Gb W)) rfl fun b1 W1 hM1=>?_
 simp only[nmA]
 refine wpList_nil ?_
 ((iterate 3 go_step);refine wp_region_lit ?_)
 refine Sn (v:=.pointer (some ⟨c,0,none⟩)) (CR rfl rfl (hM1.old h3) rfl Yd) rfl ?_
 simp only[nmA]
 refine GA (args:=#[.pointer (some ⟨c,0,none⟩)]) (rcf (enters_of Tryz.func88 rfl rfl)) (Nc c g [] W1 (hH.below hM1.below)) rfl ?_
 rintro e W2 ⟨c',g',rfl,hc',hg',hH2,hb2⟩
 refine⟨_,rfl,?_⟩
 simp only[nmA]
 refine Ad (.pointer (some ⟨c',0,none⟩)) ?_
 simp only[nmA]
 refine wpList_nil ?_
 have hM2:=hM1.calls hb2
 ((iterate 3 go_step);refine wp_region_lit ?_)
 refine Ad (.pointer (some ⟨c',0,none⟩)) ?_
 simp only[nmA]
 refine Ad (.slice a1 m1 c1) ?_
 simp only[nmA]
 refine GA (args:=#[.pointer (some ⟨c',0,none⟩),.slice a1 m1 c1]) (rcf (enters_of Tryz.func89 rfl rfl)) (em1 ▸ Hc c' g' c1 a1 [] ss1 W2 hH2 (Qd (hs1.below hM1.below) hb2 hc' hg') hl1 (by rw[List.length_nil];omega)) rfl ?_
 rintro e W3 ⟨rfl,hH3,hT3⟩
 rw[List.nil_append] at hH3
 refine⟨_,rfl,?_⟩
 simp only[nmA]
 refine wpList_nil ?_
 have hb3:=Two.below hb2 hT3 hb2.size hc' hg'
 have hM3:=hM1.calls hb3
 ((iterate 3 go_step);refine wp_region_lit ?_)
 refine Ad (.pointer (some ⟨c',0,none⟩)) ?_
 simp only[nmA]
 refine Sn (v:=.slice a2 m2 c2) (CR rfl rfl (hM3.old h1) rfl gP) rfl ?_
 simp only[nmA]
 refine GA (args:=#[.pointer (some ⟨c',0,none⟩),.slice a2 m2 c2]) (rcf (enters_of Tryz.func89 rfl rfl)) (em2 ▸ Hc c' g' c2 a2 ss1.flatten ss2 W3 hH3 (Qd (hs2.below hM1.below) hb3 hc' hg') hl2 (by omega)) rfl ?_
 rintro e W4 ⟨rfl,hH4,hT4⟩
 refine⟨_,rfl,?_⟩
 simp only[nmA]
 refine wpList_nil ?_
 have hb4:=Two.below hb3 hT4 hb3.size hc' hg'
 have hM4:=hM1.calls hb4
 ((iterate 3 go_step);refine wp_region_lit ?_)
 refine Ad (.pointer (some ⟨c',0,none⟩)) ?_
 simp only[nmA]
 refine Ah hM4 (args:=#[.pointer (some ⟨c',0,none⟩)]) (v:=.string DB) (rcf (enters_of Tryz.func91 rfl rfl)) (by rw[eD,hDD];exact PK c' g' (ss1.flatten++ss2.flatten) W4 hH4 (by rw[List.length_append];exact hn) bl q hcu) rfl fun W5 hM5=>?_
 simp only[nmA]
 refine Ah hM5 (args:=#[.string DB]) (v:=.tuple #[Aa N,.int .i64 0]) (rcf (enters_of Tryz.func90 rfl rfl)) (KR.out W5) rfl fun W6 hM6=>?_
 simp only[nmA]
 refine Ad (.tuple #[Aa N,.int .i64 0]) ?_
 simp only[nmA]
 refine Ad (Aa N) ?_
 simp only[nmA]
 refine Ad (.int .i64 0) ?_
 simp only[nmA]
 refine At hM6 (ob:=.cells z4 24 (0,0)) (fun W=>Ab rfl (Gb W)) rfl fun b2 W7 hM7=>?_
 simp only[nmA]
 refine Av hM7 0 (cs:=elR N) rfl rfl rfl rfl Bx rfl (Ay N) rfl rfl fun W8 hM8=>?_
 simp only[nm2,nm3] at hM8
 refine Ad (.int .i64 0) ?_
 simp only[nmA]
 refine wpList_nil ?_
 ((iterate 3 go_step);refine wp_region_lit ?_)
 refine AD hM8 0 (v:=Aa N) rfl rfl rfl rfl Bx rfl ?_
 simp only[nmA]
 refine Av hM8 1 (cs:=elR N) rfl rfl rfl rfl Bx rfl (Ay N) rfl rfl fun W9 hM9=>?_
 simp only[nm2,nm3] at hM9
 refine wpList_nil ?_
 ((iterate 3 go_step);refine bodyPost_ret (v:=Aa N) (Ap Tryz.results87 rfl (hM9.load 1 rfl Bx)) rfl ⟨rfl,hM9.below⟩)
theorem Rn (a2:Option Addr) (c2:Nat) (ss2:List (List UInt8)) (w:World) (hs2:DN w a2 ss2):Calls Tryz.prog 39 #[.slice a2 ss2.length c2] w fun e w'=>∃ t3 t1,e=.returned (.func (.func 87) #[] #[.pointer (some ⟨t3,0,none⟩),.pointer (some ⟨t1,0,none⟩)])∧Z0 w' t3 t1 a2 ss2.length c2 ss2∧Below w.heap.size w w':=by
 obtain⟨l2,el2⟩:=exza (ss2.length)
 rw[← el2]
 go_enter Tryz.func39,Tryz.ntmps39
 have hM0:=Mem.start w
 (go_step;go_step;refine wp_region_lit ?_)
 refine At hM0 (ob:=.cells #[.slice a2 l2 c2] 74 (0,0)) (fun W=>AK rfl rfl (io a2 l2 c2 W)) rfl fun b1 W1 hM1=>?_
 simp only[nmA]
 refine Ad (.nilFunc) ?_
 simp only[nmA]
 refine wpList_nil ?_
 ((iterate 3 go_step);refine wp_region_lit ?_)
 refine GA (args:=#[]) (rcf (enters_of Tryz.func86 rfl rfl)) (Qn W1) rfl ?_
 rintro e W2 ⟨c,g,rfl,hc,hg,hH,hb⟩
 refine⟨_,rfl,?_⟩
 have hM2:=hM1.calls hb
 simp only[nmA]
 have hMs:=Mem.start W2
 refine At hMs (ob:=.cells #[.pointer none] 117 (0,0)) (fun W=>Ab rfl (hJ W)) rfl fun b2 W3 hM3=>?_
 simp only[nmA]
 refine Ba hM3 0 (cs':=#[.pointer (some ⟨c,0,none⟩)]) rfl rfl rfl rfl (by show 0<1;decide) (rfl) Yd rfl rfl rfl fun W4 hM4=>?_
 simp only[nm2,nm3] at hM4
 refine wpList_nil ?_
 ((iterate 3 go_step);refine wp_region_lit ?_)
 refine Ac (v:=.func (.func 87) #[] #[.pointer (some ⟨b2,0,none⟩),.pointer (some ⟨b1,0,none⟩)]) (fun W=>Bs rfl (by simp[Instr.makeFunc,Act.eval])) rfl ?_
 simp only[nmA]
 refine Ad (.func (.func 87) #[] #[.pointer (some ⟨b2,0,none⟩),.pointer (some ⟨b1,0,none⟩)]) ?_
 simp only[nmA]
 refine wpList_nil ?_
 have hK:=hM2.calls hM4.below
 ((iterate 3 go_step);refine bodyPost_ret (v:=.func (.func 87) #[] #[.pointer (some ⟨b2,0,none⟩),.pointer (some ⟨b1,0,none⟩)]) (AY Tryz.results39 rfl) rfl ⟨b2,b1,rfl,⟨el2,c,g,hH.below hM4.below,hM4.get 0 rfl,hK.get 0 rfl,hs2.below hK.below⟩,hK.below⟩)
theorem Gi (s:ByteArray) (D:List UInt8) (hs:s.size≤4000) (hD:hs5 s.data.toList D) (w:World):Calls Tryz.prog 44 #[.string s] w fun E w'=>E=.returned (Aa (leN D%LN))∧Below w.heap.size w w':=by
 have KR:=Lh (fun W=>QH ⟨D.toArray⟩ W (by rw[Rj hD];decide))
 rw[show (⟨D.toArray⟩:ByteArray).data.toList=D by simp] at KR
 obtain⟨bl,q,hcu,hDD⟩:=hD
 have KH:=Lh (fun W=>P7 s.data.toList (by simpa using hs) bl q hcu W)
 rw[← hDD] at KH
 have KH:Hid (∀ w,Calls Tryz.prog 21 #[.string s] w fun e w'=>e=.returned (.string ⟨D.toArray⟩)∧Below w.heap.size w w'):=KH.out
 obtain⟨DB,eD⟩:∃ B:ByteArray,B=⟨D.toArray⟩:=⟨_,rfl⟩
 rw[← eD] at KR KH
 obtain⟨N,eN⟩:=exzb (leN D%LN)
 rw[eN] at KR ⊢
 clear eN eD hDD hcu
 have HMIX:=Lh (show Tryz.prog.follows .mixedOrders=true by kernel_rfl)
 go_enter Tryz.func44,Tryz.ntmps44
 have hM0:=Mem.start w
 (go_step;go_step;refine wp_region_lit ?_)
 refine At hM0 (ob:=.cells z4 23 (0,0)) (fun W=>Ab rfl (Cr W)) rfl fun b1 W1 hM1=>?_
 simp only[nmA]
 refine wpList_nil ?_
 ((iterate 3 go_step);refine wp_region_lit ?_)
 refine Ad (.string s) ?_
 simp only[nmA]
 refine Ah hM1 (args:=#[.string s]) (v:=.string DB) (rcf (enters_of Tryz.func21 rfl rfl)) (KH.out W1) rfl fun W2 hM2=>?_
 simp only[nmA]
 refine Ah hM2 (args:=#[.string DB]) (v:=Aa N) (rcf (enters_of Tryz.func103 rfl rfl)) (KR.out W2) rfl fun W3 hM3=>?_
 simp only[nmA]
 refine Av hM3 0 (cs:=(elR N)) rfl rfl rfl rfl AG rfl (Ay N) rfl rfl fun W4 hM4=>?_
 simp only[nm2,nm3] at hM4
 refine wpList_nil ?_
 ((iterate 3 go_step);refine bodyPost_ret (v:=Aa N) (Ap Tryz.results44 rfl (hM4.load 0 rfl AG)) rfl ⟨?_,hM4.below⟩)
 exact rfl
theorem eG (k l:Nat) (W:World):(Instr.buildSlice 125 2 #[(0,Aa k),(1,Aa l)]).run Tryz.prog W=.ok (.slice (some ⟨W.heap.size,0,none⟩) 2 2) (W.alloc (.cells (elR k++elR l) 24 (0,0))):=by
 unfold Aa elR
 go_simp
theorem eu (s t:ByteArray) (W:World):(Instr.buildSlice 74 2 #[(0,.string s),(1,.string t)]).run Tryz.prog W=.ok (.slice (some ⟨W.heap.size,0,none⟩) 2 2) (W.alloc (.cells #[.string s,.string t] 9 (0,0))):=by
 go_simp
theorem NX (k l:Nat) (hk:k<B64^4) (hl:l<B64^4) (g:Nat) (W:World) (h:W.heap[g]?=some (.cells (elR k++elR l) 24 (0,0))):sc_IsNums W (some ⟨g,0,none⟩) 2 [k,l] :=
 ⟨rfl,fun n hn=>by
  simp only[List.mem_cons,List.not_mem_nil,or_false] at hn
  rcases hn with rfl | rfl
  ·exact hk
  ·exact hl,fun _=>⟨g,rfl,(Array.getElem?_eq_some_iff.1 h).1,fun i j hi hj=>by
  rw[cell_of_row W g (i*4+j) _ _ _ h]
  have hi2:i=0∨i=1:=by omega
  have hj4:j=0∨j=1∨j=2∨j=3:=by omega
  rcases hi2 with rfl | rfl <;> rcases hj4 with rfl | rfl | rfl | rfl <;> rfl⟩⟩
theorem YM (k l s:Nat) (hk:k<B64^4) (hl:l<B64^4) (hs:(k+l)%LN=s) (g:Nat) (W:World) (h:W.heap[g]?=some (.cells (elR k++elR l) 24 (0,0))):Calls Tryz.prog 43 #[.slice (some ⟨g,0,none⟩) 2 2] W fun e w'=>e=.returned (Aa s)∧Below W.heap.size W w':=by
 have hc:=SV (some ⟨g,0,none⟩) 2 2 [k,l] W (by decide) (NX k l hk hl g W h)
 rw[show [k,l].foldl (fun a b=>(a+b)%LN) 0=s by
  rw[← hs]
  simp only[List.foldl_cons,List.foldl_nil,Nat.zero_add]
  rw[Nat.mod_add_mod]] at hc
 exact hc
theorem VS (k l s:Nat) (hk:k<B64^4) (hl:l<B64^4) (hs:k*l%LN=s) (g:Nat) (W:World) (h:W.heap[g]?=some (.cells (elR k++elR l) 24 (0,0))):Calls Tryz.prog 42 #[.slice (some ⟨g,0,none⟩) 2 2] W fun e w'=>e=.returned (Aa s)∧Below W.heap.size W w':=by
 have hc:=QC (some ⟨g,0,none⟩) 2 2 [k,l] W (by decide) (NX k l hk hl g W h)
 rw[show [k,l].foldl (fun a b=>a*b%LN) 1=s by
  rw[← hs]
  simp only[List.foldl_cons,List.foldl_nil,Nat.one_mul]
  rw[Nat.mod_mul_mod]] at hc
 exact hc
theorem fX (s F2 PB RB SB SG:ByteArray) (n N1 N2 X Z:Nat) (R:N4) (a2:Option Addr) (l2 c2:Nat) (ss2:List (List UInt8)) (D1 D2:List UInt8) (hl:l2=ss2.length) (hl2:ss2.length≤1000)
    (hD1:hs5 ([F2.data.toList].flatten++ss2.flatten) D1) (hD2:hs5 ([RB.data.toList,PB.data.toList].flatten++ss2.flatten) D2) (hn_D1:[F2.data.toList].flatten.length+ss2.flatten.length≤1000000) (hn_D2:[RB.data.toList,PB.data.toList].flatten.length+ss2.flatten.length≤1000000) (eN1:leN D1%LN=N1) (eN2:leN D2%LN=N2) (eSG:RB++SB=SG) (hz:RB.size+SB.size≤9223372036854775807)
    (KO:Hid (∀ w,Calls Tryz.prog 6 #[.string s] w fun E w'=>E=.returned (.tuple #[FW n F2 PB,.int .i64 0])∧Below w.heap.size w w')) (KB:Hid (∀ w,Calls Tryz.prog 41 #[Aa N1] w fun E w'=>E=.returned (pv4 R)∧Below w.heap.size w w')) (KE:Hid (∀ w,Calls Tryz.prog 40 #[pv4 R] w fun E w'=>E=.returned (.string RB)∧Below w.heap.size w w')) (KX:Hid (∀ (g:Nat) (w:World),w.heap[g]?=some (.cells (elR N2++elR n) 24 (0,0))→Calls Tryz.prog 42 #[.slice (some ⟨g,0,none⟩) 2 2] w fun E w'=>E=.returned (Aa X)∧Below w.heap.size w w')) (KZ:Hid (∀ (g:Nat) (w:World),w.heap[g]?=some (.cells (elR N1++elR X) 24 (0,0))→Calls Tryz.prog 43 #[.slice (some ⟨g,0,none⟩) 2 2] w fun E w'=>E=.returned (Aa Z)∧Below w.heap.size w w')) (KSB:Hid (∀ w,Calls Tryz.prog 31 #[Aa Z] w fun E w'=>E=.returned (.string SB)∧Below w.heap.size w w')) (w:World) (hs2:DN w a2 ss2):Calls Tryz.prog 14 #[.string s,.slice a2 l2 c2] w fun E w'=>E=.returned (.tuple #[.string SG,.int .i64 0])∧Below w.heap.size w w':=by
 subst hl
 obtain⟨l2,el2⟩:=exza (ss2.length)
 have KNM:=Lh (fun W h=>Rn a2 c2 ss2 W h)
 rw[← el2] at KNM ⊢
 have HMIX:=Lh (show Tryz.prog.follows .mixedOrders=true by kernel_rfl)
 go_enter Tryz.func14,Tryz.ntmps14
 have hM0:=Mem.start w
 (go_step;go_step;refine wp_region_lit ?_)
 refine Ad (.string (⟨#[]⟩)) ?_
 simp only[nmA]
 refine Ad (.int .i64 0) ?_
 simp only[nmA]
 refine wpList_nil ?_
 ((iterate 3 go_step);refine wp_region_lit ?_)
 refine Ad (.string s) ?_
 simp only[nmA]
 refine Ah hM0 (args:=#[.string s]) (v:=.tuple #[FW n F2 PB,.int .i64 0]) (rcf (enters_of Tryz.func6 rfl rfl)) (KO.out w) rfl fun W1 hM1=>?_
 simp only[nmA]
 refine Ad (.tuple #[FW n F2 PB,.int .i64 0]) ?_
 simp only[nmA]
 refine Ad (FW n F2 PB) ?_
 simp only[nmA]
 refine Ad (.int .i64 0) ?_
 simp only[nmA]
 refine At hM1 (ob:=.cells LE 26 (0,0)) (fun W=>Ab rfl (LJ W)) rfl fun b1 W2 hM2=>?_
 simp only[nmA]
 refine Av hM2 0 (cs:=((OD n F2 PB))) rfl rfl rfl rfl G7 rfl (JD _ _ _) rfl rfl fun W3 hM3=>?_
 simp only[nm2,nm3] at hM3
 refine Ad (.int .i64 0) ?_
 simp only[nmA]
 refine wpList_nil ?_
 ((iterate 4 go_step);refine wp_region_lit ?_)
 refine Ad (.int .i64 0) ?_
 simp only[nmA]
 refine Ac (v:=.bool false) (fun W=>Cl W rfl rfl rfl rfl) rfl ?_
 simp only[nmA]
 refine wpList_nil ?_
 ((iterate 7 go_step);refine wp_region_lit ?_)
 refine Ad (.slice a2 l2 c2) ?_
 simp only[nmA]
 refine GA (args:=#[.slice a2 l2 c2]) (rcf (enters_of Tryz.func39 rfl rfl)) (KNM.out W3 (hs2.below hM3.below)) rfl ?_
 rintro e W4 ⟨t3,t1,rfl,hN,hb⟩
 refine⟨_,rfl,?_⟩
 have hM4:=hM3.calls hb
 simp only[nmA]
 have hMs:=Mem.start W4
 refine Ad (.func (.func 87) #[] #[.pointer (some ⟨t3,0,none⟩),.pointer (some ⟨t1,0,none⟩)]) ?_
 simp only[nmA]
 refine wpList_nil ?_
 ((iterate 3 go_step);refine wp_region_lit ?_)
 refine Ad (.func (.func 87) #[] #[.pointer (some ⟨t3,0,none⟩),.pointer (some ⟨t1,0,none⟩)]) ?_
 simp only[nmA]
 refine Ac (v:=.pointer (some ⟨b1,4,none⟩)) (fun W=>AJ rfl rfl (dL b1 W)) rfl ?_
 simp only[nmA]
 refine Sn (v:=.string F2) (CR rfl rfl (hMs.old (hM4.get 0 rfl)) rfl Oi) rfl ?_
 simp only[nmA]
 refine FN hMs (f:=fun b=>.slice (some ⟨b,0,none⟩) 1 1) (ob:=.cells (#[.string F2]) 9 (0,0)) (fun W=>Ax rfl (by simp[Act.eval]) (YU F2 W)) rfl fun b2 W5 hM5=>?_
 simp only[nmA]
 refine Ah hM5 (args:=#[.slice (some ⟨b2,0,none⟩) 1 1,.pointer (some ⟨t3,0,none⟩),.pointer (some ⟨t1,0,none⟩)]) (v:=Aa N1) (fun W=>Ca W (enters_of Tryz.func87 rfl rfl) rfl rfl (by simp[Act.eval];rfl) rfl) (eN1 ▸ JK t3 t1 (some ⟨b2,0,none⟩) a2 1 c2 [F2.data.toList] ss2 l2 D1 W5 (hN.below hM5.below) (I8 [F2] (hM5.get 0 rfl)) (by simp) hl2 hn_D1 hD1) rfl fun W6 hM6=>?_
 simp only[nmA]
 refine At hM6 (ob:=.cells z4 24 (0,0)) (fun W=>Ab rfl (Gb W)) rfl fun b3 W7 hM7=>?_
 simp only[nmA]
 refine Av hM7 0 (cs:=(elR N1)) rfl rfl rfl rfl Bx rfl (Ay N1) rfl rfl fun W8 hM8=>?_
 simp only[nm2,nm3] at hM8
 refine wpList_nil ?_
 ((iterate 3 go_step);refine wp_region_lit ?_)
 refine AD hM8 0 (v:=Aa N1) rfl rfl rfl rfl Bx rfl ?_
 simp only[nmA]
 refine Ah hM8 (args:=#[Aa N1]) (v:=pv4 R) (rcf (enters_of Tryz.func41 rfl rfl)) (KB.out W8) rfl fun W9 hM9=>?_
 simp only[nmA]
 refine Ah hM9 (args:=#[pv4 R]) (v:=.string RB) (rcf (enters_of Tryz.func40 rfl rfl)) (KE.out W9) rfl fun W10 hM10=>?_
 simp only[nmA]
 refine Ad (.string RB) ?_
 simp only[nmA]
 refine wpList_nil ?_
 ((iterate 3 go_step);refine Ak 11 HMIX.out (by decide) (by kernel_rfl) (by kernel_rfl) ?_)
 refine AM (.func (.func 87) #[] #[.pointer (some ⟨t3,0,none⟩),.pointer (some ⟨t1,0,none⟩)]) ?_;simp only[nmA]
 refine AM (.string RB) ?_;simp only[nmA]
 refine As (v:=.pointer (some ⟨b1,5,none⟩)) (fun W=>AJ rfl rfl (TM b1 W)) rfl rfl ?_;simp only[nmA]
 refine Lc (v:=.string PB) (fun W hW=>CR rfl rfl ((hM10.calls hW).old (hM4.get 0 rfl)) rfl Oi) rfl rfl ?_;simp only[nmA]
 refine AX (n:=2) (L:=#[.string RB,.string PB]) (T:=9) (fun W=>Ax rfl (by simp[Act.eval]) (eu RB PB W)) rfl rfl ?_;simp only[List.nil_append,List.cons_append]
 refine U6 4 34 (args:=fun b=>#[.slice (some ⟨b,0,none⟩) 2 2,.pointer (some ⟨t3,0,none⟩),.pointer (some ⟨t1,0,none⟩)]) (v0:=fun b=>.slice (some ⟨b,0,none⟩) 2 2) (v:=Aa N2) rfl rfl (fun _=>rfl) (fun b W=>Ca W (enters_of Tryz.func87 rfl rfl) rfl rfl (by simp[Act.eval,Act.put];rfl) rfl) (fun b W hW h=>eN2 ▸ JK t3 t1 (some ⟨b,0,none⟩) a2 2 c2 [RB.data.toList,PB.data.toList] ss2 l2 D2 W (hN.below (hM10.calls hW).below) (I8 [RB,PB] h) (by simp) hl2 hn_D2 hD2) ?_;simp only[nmA]
 refine As (v:=.pointer (some ⟨b1,0,none⟩)) (fun W=>AJ rfl rfl (dJ b1 W)) rfl rfl ?_;simp only[nmA]
 refine Lc (v:=Aa n) (fun W hW=>CS (cs:=((OD n F2 PB))) (sub:=(elR n)) rfl rfl ((hM10.calls hW).old (hM4.get 0 rfl)) rfl Bx) rfl rfl ?_;simp only[nmA]
 refine AX (n:=2) (L:=elR N2++elR n) (T:=24) (fun W=>Ax rfl (by simp[Act.eval]) (eG N2 n W)) rfl rfl ?_;simp only[List.nil_append,List.cons_append]
 refine A9 8 38 (v:=Aa X) rfl rfl (fun _=>rfl) (fun b W=>AR W (enters_of Tryz.func42 rfl rfl) rfl (by simp[Act.eval,Act.put])) (fun b W h=>KX.out b W h) ?_;simp only[nmA]
 refine Ce (.cells z4 24 (0,0)) rfl rfl (fun A W=>Ab rfl (Gb W)) ?_;simp only[List.nil_append,List.cons_append]
 refine AO fun d os=>?_
 refine Bb (t:=34) rfl fun s4=>?_
 refine Bb (t:=38) rfl fun s8=>?_
 refine Bm (t:=11) rfl fun b4 lb4 gb4=>?_
 refine Az fun hap=>?_
 simp only[nmA] at hap ⊢
 have hM11:=hM10.news1 (below_regrown W10 d os) lb4 gb4 
 clear hap lb4 gb4
 generalize grow (redrawn W10 d) os=W11 at hM11 ⊢
 change wpAny _ _ _ _ 1 _ _ _
 refine A7 (n:=11) (by kernel_rfl) rfl hM11 0 (cs:=(elR X)) rfl rfl rfl rfl Bx rfl (Ay X) rfl rfl fun W12 hM12=>?_
 simp only[nm2,nm3] at hM12
 refine wpAny_done (by kernel_rfl) ?_ _
 ((iterate 3 go_step);refine wp_region_lit ?_)
 refine Ad (.string RB) ?_
 simp only[nmA]
 refine AD hM12 1 (v:=Aa N1) rfl rfl rfl rfl Bx rfl ?_
 simp only[nmA]
 refine AD hM12 0 (v:=Aa X) rfl rfl rfl rfl Bx rfl ?_
 simp only[nmA]
 refine FN hM12 (f:=fun b=>.slice (some ⟨b,0,none⟩) 2 2) (ob:=.cells (elR N1++elR X) 24 (0,0)) (fun W=>Ax rfl (by simp[Act.eval]) (eG N1 X W)) rfl fun b5 W13 hM13=>?_
 simp only[nmA]
 refine Ah hM13 (args:=#[.slice (some ⟨b5,0,none⟩) 2 2]) (v:=Aa Z) (rcf (enters_of Tryz.func43 rfl rfl)) (KZ.out b5 W13 (hM13.get 0 rfl)) rfl fun W14 hM14=>?_
 simp only[nmA]
 refine Ah hM14 (args:=#[Aa Z]) (v:=.string SB) (rcf (enters_of Tryz.func31 rfl rfl)) (KSB.out W14) rfl fun W15 hM15=>?_
 simp only[nmA]
 refine Ac (v:=.string SG) (fun W=>Ag rfl rfl rfl (eSG ▸ FE _ _ W hz)) rfl ?_
 simp only[nmA]
 refine Ad (.string SG) ?_
 simp only[nmA]
 refine Ad (.int .i64 0) ?_
 simp only[nmA]
 refine wpList_nil ?_
 have hK:=hM4.calls hM15.below
 ((iterate 3 go_step);refine bodyPost_ret (v:=.tuple #[.string SG,.int .i64 0]) (Ia Tryz.results14 rfl rfl) rfl ⟨rfl,hK.below⟩)
theorem dW (s m F2 PB RB SB SG T1 T2 T3:ByteArray) (n N1 N2 X Z:Nat) (Q:N3) (eT1:F2++m=T1) (eT2:RB++PB=T2) (eT3:T2++m=T3) (eSG:RB++SB=SG) (hz1:F2.size+m.size≤9223372036854775807) (hz2:RB.size+PB.size≤9223372036854775807) (hz3:T2.size+m.size≤9223372036854775807) (hz:RB.size+SB.size≤9223372036854775807)
    (KO:Hid (∀ w,Calls Tryz.prog 9 #[.string s] w fun E w'=>E=.returned (.tuple #[Aa n,.string F2,.string PB])∧Below w.heap.size w w')) (KN1:Hid (∀ w,Calls Tryz.prog 44 #[.string T1] w fun E w'=>E=.returned (Aa N1)∧Below w.heap.size w w')) (KN2:Hid (∀ w,Calls Tryz.prog 44 #[.string T3] w fun E w'=>E=.returned (Aa N2)∧Below w.heap.size w w')) (KT:Hid (∀ w,Calls Tryz.prog 24 #[Aa N1,pv3 (bX,bY,1)] w fun E w'=>E=.returned (pv3 Q)∧Below w.heap.size w w')) (KE:Hid (∀ w,Calls Tryz.prog 23 #[pv3 Q] w fun E w'=>E=.returned (.string RB)∧Below w.heap.size w w')) (KX:Hid (∀ w,Calls Tryz.prog 47 #[Aa N2,Aa n] w fun E w'=>E=.returned (Aa X)∧Below w.heap.size w w')) (KZ:Hid (∀ w,Calls Tryz.prog 46 #[Aa N1,Aa X] w fun E w'=>E=.returned (Aa Z)∧Below w.heap.size w w')) (KSB:Hid (∀ w,Calls Tryz.prog 45 #[Aa Z] w fun E w'=>E=.returned (.string SB)∧Below w.heap.size w w')) (w:World):Calls Tryz.prog 15 #[.string s,.string m] w fun E w'=>E=.returned (.string SG)∧Below w.heap.size w w':=by
 have HMIX:=Lh (show Tryz.prog.follows .mixedOrders=true by kernel_rfl)
 go_enter Tryz.func15,Tryz.ntmps15
 have hM0:=Mem.start w
 (go_step;go_step;refine wp_region_lit ?_)
 refine Ad (.string (⟨#[]⟩)) ?_
 simp only[nmA]
 refine wpList_nil ?_
 ((iterate 3 go_step);refine wp_region_lit ?_)
 refine Ad (.string s) ?_
 simp only[nmA]
 refine Ah hM0 (args:=#[.string s]) (v:=.tuple #[Aa n,.string F2,.string PB]) (rcf (enters_of Tryz.func9 rfl rfl)) (KO.out w) rfl fun W1 hM1=>?_
 simp only[nmA]
 refine Ad (.tuple #[Aa n,.string F2,.string PB]) ?_
 simp only[nmA]
 refine Ad (Aa n) ?_
 simp only[nmA]
 refine Ad (.string F2) ?_
 simp only[nmA]
 refine Ad (.string PB) ?_
 simp only[nmA]
 refine At hM1 (ob:=.cells z4 23 (0,0)) (fun W=>Ab rfl (Cr W)) rfl fun b1 W2 hM2=>?_
 simp only[nmA]
 refine Av hM2 0 (cs:=(elR n)) rfl rfl rfl rfl AG rfl (Ay n) rfl rfl fun W3 hM3=>?_
 simp only[nm2,nm3] at hM3
 refine Ad (.string F2) ?_
 simp only[nmA]
 refine Ad (.string PB) ?_
 simp only[nmA]
 refine wpList_nil ?_
 ((iterate 3 go_step);refine wp_region_lit ?_)
 refine Ad (.string F2) ?_
 simp only[nmA]
 refine Ad (.string m) ?_
 simp only[nmA]
 refine Ac (v:=.string T1) (fun W=>Ag rfl rfl rfl (eT1 ▸ FE _ _ W hz1)) rfl ?_
 simp only[nmA]
 refine Ah hM3 (args:=#[.string T1]) (v:=Aa N1) (rcf (enters_of Tryz.func44 rfl rfl)) (KN1.out W3) rfl fun W4 hM4=>?_
 simp only[nmA]
 refine At hM4 (ob:=.cells z4 23 (0,0)) (fun W=>Ab rfl (Cr W)) rfl fun b2 W5 hM5=>?_
 simp only[nmA]
 refine Av hM5 0 (cs:=(elR N1)) rfl rfl rfl rfl AG rfl (Ay N1) rfl rfl fun W6 hM6=>?_
 simp only[nm2,nm3] at hM6
 refine wpList_nil ?_
 ((iterate 3 go_step);refine Ak 5 HMIX.out (by decide) (by kernel_rfl) (by kernel_rfl) ?_)
 refine Ao hM6 0 (v:=Aa N1) rfl rfl rfl rfl AG rfl rfl ?_;simp only[nmA]
 refine Am (args:=#[]) (v:=pv3 ((bX,bY,1))) (rcf (enters_of Tryz.func25 rfl rfl)) (fun W _=>JO W) rfl rfl ?_;simp only[nmA]
 refine Am (args:=#[Aa N1,pv3 ((bX,bY,1))]) (v:=pv3 Q) (rcf (enters_of Tryz.func24 rfl rfl)) (fun W _=>KT.out W) rfl rfl ?_;simp only[nmA]
 refine Am (args:=#[pv3 Q]) (v:=.string RB) (rcf (enters_of Tryz.func23 rfl rfl)) (fun W _=>KE.out W) rfl rfl ?_;simp only[nmA]
 refine AM (.string RB) ?_;simp only[nmA]
 refine AO fun d os=>?_
 refine Az fun hap=>?_
 have hM7:=hM6.calls (below_regrown W6 d os)
 clear hap 
 generalize grow (redrawn W6 d) os=W7 at hM7 ⊢
 refine wpAny_done (by kernel_rfl) ?_ _
 ((iterate 3 go_step);refine wp_region_lit ?_)
 refine Ad (.string RB) ?_
 simp only[nmA]
 refine Ad (.string PB) ?_
 simp only[nmA]
 refine Ac (v:=.string T2) (fun W=>Ag rfl rfl rfl (eT2 ▸ FE _ _ W hz2)) rfl ?_
 simp only[nmA]
 refine Ad (.string m) ?_
 simp only[nmA]
 refine Ac (v:=.string T3) (fun W=>Ag rfl rfl rfl (eT3 ▸ FE _ _ W hz3)) rfl ?_
 simp only[nmA]
 refine Ah hM7 (args:=#[.string T3]) (v:=Aa N2) (rcf (enters_of Tryz.func44 rfl rfl)) (KN2.out W7) rfl fun W8 hM8=>?_
 simp only[nmA]
 refine At hM8 (ob:=.cells z4 23 (0,0)) (fun W=>Ab rfl (Cr W)) rfl fun b3 W9 hM9=>?_
 simp only[nmA]
 refine Av hM9 0 (cs:=(elR N2)) rfl rfl rfl rfl AG rfl (Ay N2) rfl rfl fun W10 hM10=>?_
 simp only[nm2,nm3] at hM10
 refine wpList_nil ?_
 ((iterate 3 go_step);refine Ak 9 HMIX.out (by decide) (by kernel_rfl) (by kernel_rfl) ?_)
 refine AM (.string RB) ?_;simp only[nmA]
 refine Ao hM10 1 (v:=Aa N1) rfl rfl rfl rfl AG rfl rfl ?_;simp only[nmA]
 refine Ao hM10 0 (v:=Aa N2) rfl rfl rfl rfl AG rfl rfl ?_;simp only[nmA]
 refine Ao hM10 2 (v:=Aa n) rfl rfl rfl rfl AG rfl rfl ?_;simp only[nmA]
 refine Am (args:=#[Aa N2,Aa n]) (v:=Aa X) (rcf (enters_of Tryz.func47 rfl rfl)) (fun W _=>KX.out W) rfl rfl ?_;simp only[nmA]
 refine Am (args:=#[Aa N1,Aa X]) (v:=Aa Z) (rcf (enters_of Tryz.func46 rfl rfl)) (fun W _=>KZ.out W) rfl rfl ?_;simp only[nmA]
 refine Am (args:=#[Aa Z]) (v:=.string SB) (rcf (enters_of Tryz.func45 rfl rfl)) (fun W _=>KSB.out W) rfl rfl ?_;simp only[nmA]
 refine As (v:=.string SG) (fun W=>Ag rfl rfl rfl (eSG ▸ FE _ _ W hz)) rfl rfl ?_;simp only[nmA]
 refine AM (.string SG) ?_;simp only[nmA]
 refine AO fun d os=>?_
 refine Az fun hap=>?_
 have hM11:=hM10.calls (below_regrown W10 d os)
 clear hap 
 generalize grow (redrawn W10 d) os=W11 at hM11 ⊢
 refine wpAny_done (by kernel_rfl) ?_ _
 ((iterate 3 go_step);refine bodyPost_ret (v:=.string SG) (AY Tryz.results15 rfl) rfl ⟨?_,hM11.below⟩)
 exact rfl
end Go.Proofs.YtnaldciakclccaaGreat
