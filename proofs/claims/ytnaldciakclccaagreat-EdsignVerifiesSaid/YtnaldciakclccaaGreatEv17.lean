/- Lemmas of this proof. -/
import Derived.Test.YtnaldciakclccaaGreatEv16
import Derived.Test.YtnaldciakclccaaGreatEv03
namespace Go.Proofs.YtnaldciakclccaaGreat
set_option maxRecDepth 20000
set_option maxHeartbeats 8000000
set_option linter.unusedSimpArgs false
set_option linter.unusedVariables false
open Go.RowKit Go.Sort
theorem eI (v:Value) (g n:Nat) (hv:v=.slice (some ⟨g,0,none⟩) n n) (W:World):(Instr.box 184 v).run Tryz.prog W=.ok (.pointer (some ⟨W.heap.size,0,none⟩)) (W.alloc (.cells #[v] 184 (0,0))):=by
 subst hv
 go_simp
theorem eq (W:World):(Instr.alloc 185 true (.tuple #[])).run Tryz.prog W=.ok (.pointer (some ⟨W.heap.size,0,none⟩)) (W.alloc (.cells #[.nilFunc] 185 (0,0))):=by
 kernel_rfl
theorem ev (W:World):(Instr.alloc 189 true (.tuple #[])).run Tryz.prog W=.ok (.pointer (some ⟨W.heap.size,0,none⟩)) (W.alloc (.cells #[.slice none 0 0] 189 (0,0))):=by
 kernel_rfl
theorem iP (c:Nat→N4) (W:World):(Instr.buildSlice 189 1 #[(0,.agg ((List.range 16).flatMap fun i=>pl4 (c i)).toArray)]).run Tryz.prog W=.ok (.slice (some ⟨W.heap.size,0,none⟩) 1 1) (W.alloc (.cells ((List.range 16).flatMap fun i=>pl4 (c i)).toArray 190 (0,0))):=by
 kernel_rfl
theorem Ys (a:N4) (W:World):(Instr.buildSlice 189 1 #[(0,.agg (CT a 16).toArray)]).run Tryz.prog W=.ok (.slice (some ⟨W.heap.size,0,none⟩) 1 1) (W.alloc (.cells (CT a 16).toArray 190 (0,0))):=iP (tab a) W
theorem Mz (a c:Nat) (hc:a+4=c) (h:a≤1000) (x y:Operand) (W:World):(do eqGuard .add 3 x y (.int .i64 (a:Int)) (.int .i64 4);binOp .add 3 (.int .i64 (a:Int)) (.int .i64 4):Sem Value).run Tryz.prog W=.ok (.int .i64 (c:Int)) W:=by
 have e:IntKind.i64.wrap ((a:Int)+4)=(c:Int):=by rw[IntWalk.i64_in _ (by omega)];omega
 clear hc
 go_simp
theorem Mf (c d:Nat) (hd:d+1=c) (h:c≤10000) (x y:Operand) (W:World):(do eqGuard .sub 3 x y (.int .i64 (c:Int)) (.int .i64 1);binOp .sub 3 (.int .i64 (c:Int)) (.int .i64 1):Sem Value).run Tryz.prog W=.ok (.int .i64 (d:Int)) W:=by
 have e:IntKind.i64.wrap ((c:Int)-1)=(d:Int):=by rw[IntWalk.i64_in _ (by omega)];omega
 clear hd
 go_simp
theorem Mt (d q:Nat) (hq:d/4=q) (h:d≤10000) (x y:Operand) (W:World):(do eqGuard .quo 3 x y (.int .i64 (d:Int)) (.int .i64 4);binOp .quo 3 (.int .i64 (d:Int)) (.int .i64 4):Sem Value).run Tryz.prog W=.ok (.int .i64 (q:Int)) W:=by
 have e:((d:Int).tdiv 4)=(q:Int):=by rw[Int.tdiv_eq_ediv_of_nonneg (by omega)];omega
 have e2:IntKind.i64.wrap (q:Int)=(q:Int):=IntWalk.i64_in _ (by omega)
 have e3:(d:Int)/4=(q:Int):=by omega
 clear hq
 go_simp
theorem IS {P:Program} {o:Oper} {A:Act} {x y:Operand} {tys:Array TypeId} {a b c:Nat} (W:World) (ho:o.op=.call { callee:=.builtin .max,args:=#[x,y],argTypes:=tys }) (hx:A.eval x=.int .i64 (a:Int)) (hy:A.eval y=.int .i64 (b:Int)) (hc:max a b=c):(execOp A.eval o).run P W=.ok (.value (.int .i64 (c:Int))) W:=by
 have e:(if (a:Int)<(b:Int) then (b:Int) else (a:Int))=(c:Int):=by
  rw[← hc]
  split <;> omega
 unfold execOp
 simp[ho,resolve,invoke,builtin,hx,hy,Builtin.max_,Builtin.max2]
 rw[← hc]
 split <;> omega
theorem fE:(Tryz.prog.info? 190).map (fun i=>(i.size,i.bytes,(i.zero.map fun z=>z.cells.size)))=some (256,2048,some 256):=by kernel_rfl
theorem eK:∃ (i:TypeInfo) (z:Value),Tryz.prog.info? 190=some i∧i.zero=some z∧i.size=256∧i.bytes=2048∧z.cells.size=256:=by
 have h:=fE
 cases hi:Tryz.prog.info? 190 with
 | none=>rw[hi] at h;cases h
 | some i =>
   rw[hi] at h
   cases hz:i.zero with
   | none=>rw[Option.map_some,hz] at h;simp at h
   | some z =>
     rw[Option.map_some,hz] at h
     simp at h
     exact⟨i,z,rfl,hz,h.1,h.2.1,h.2.2⟩
theorem bS {a o:N4} {p:Pt} (k s:Nat) (ha:Ok4 a p) (ho:∃ P,Ok4 o P):∃ P,Ok4 (F8 k a o s) P:=by
 obtain⟨P,hP⟩:=ho
 exact⟨_,Fd (IE hP) (ED ha (k/16^s%16))⟩
theorem ce {a b o:N4} {p q:Pt} (k l s:Nat) (ha:Ok4 a p) (hb:Ok4 b q) (ho:∃ P,Ok4 o P):∃ P,Ok4 (Gc k l a b o s) P:=by
 obtain⟨P,hP⟩:=ho
 exact⟨_,Fd (Fd (IE hP) (ED ha (k/16^s%16))) (ED hb (l/16^s%16))⟩
theorem I7 (k:Nat) (h:k<B64^4):Go.bitLen k≤256:=by
 by_cases h0:k=0
 ·subst h0
  decide
 ·have h1:=(bitLen_spec k).2 h0
  have h2:2^(Go.bitLen k-1)<2^256:=Nat.lt_of_le_of_lt h1 (by rw[show (2:Nat)^256=B64^4 by decide +kernel];exact h)
  have h3:=(Nat.pow_lt_pow_iff_right (by decide:1<2)).1 h2
  omega
theorem Oh (k:Nat) (h:k<B64^4):Eo k≤64:=by
 have:=I7 k h
 unfold Eo
 omega
theorem Jd (s:Nat) (m:Int) (x y:Operand) (W:World) (h:m=(s:Int)-1) (h1:s≤1000):(do eqGuard .sub 3 x y (.int .i64 (s:Int)) (.int .i64 1);binOp .sub 3 (.int .i64 (s:Int)) (.int .i64 1):Sem Value).run Tryz.prog W=.ok (.int .i64 m) W:=by
 have e:IntKind.i64.wrap ((s:Int)-1)=m:=by rw[IntWalk.i64_in _ (by omega)];exact h.symm
 clear h
 go_simp
theorem NJ (n:Int) (x y:Operand) (W:World):(do eqGuard .geq 3 x y (.int .i64 n) (.int .i64 0);binOp .geq 3 (.int .i64 n) (.int .i64 0):Sem Value).run Tryz.prog W=.ok (.bool (decide (0≤n))) W:=by
 go_simp
theorem Vc {a:N4} {p:Pt} (ha:Ok4 a p) (k:Nat) (hk:k<B64^4) (g:Nat) (w:World) (hg:w.heap[g]?=some (.cells (tmL k a).toArray 139 (0,0))):Calls Tryz.prog 111 #[.slice (some ⟨g,0,none⟩) 1 1] w fun E w'=>E=.returned (pv4 (Hn (F8 k a) (Eo k) Cu))∧Below w.heap.size w w':=by
 have HMIX:=Lh (show Tryz.prog.follows .mixedOrders=true by kernel_rfl)
 obtain⟨iT,zT,IT⟩:=eK
 have KMa:=Lh (fun W=>Gd ha W)
 have KBa:=Lh (fun W=>Ys a W)
 have hTAla:(CT a 16).length=1*256:=by rw[CO]
 have hTAoa:=Lp a
 obtain⟨TAa,eTAa⟩:=exza (CT a 16)
 rw[← eTAa] at KMa KBa hTAla hTAoa
 have hsk64:=Oh k hk
 have hblk:=I7 k hk
 have KLk:=Lh (fun W=>K9 k W hk)
 unfold Eo at *
 obtain⟨blk,eblk⟩:=exza (Go.bitLen k)
 rw[← eblk] at KLk hsk64 hblk ⊢
 have hlblk:blk≤1000:=by omega
 obtain⟨xfk,exfk⟩:=exzb (blk+4)
 obtain⟨xtk,extk⟩:∃ x,x+1=xfk:=⟨blk+3,by omega⟩
 rw[show blk+3=xtk by omega] at hsk64 ⊢
 obtain⟨xqk,exqk⟩:=exzb (xtk/4)
 rw[exqk] at hsk64 ⊢
 have hxfk:xfk≤10000:=by omega
 have hxtk:xtk≤10000:=by omega
 obtain⟨sk,esk⟩:=exza (xqk)
 have hskm:max 0 xqk=sk:=by omega
 have hsk64:sk≤64:=by omega
 have hsk1000:sk≤1000:=by omega
 rw[← esk]
 obtain⟨R,hR⟩:=exza (Hn (F8 k a) sk Cu)
 rw[← hR]
 go_enter Tryz.func111,Tryz.ntmps111
 have hM0:=Mem.start w
 (go_step;go_step;refine wp_region_lit ?_)
 refine At hM0 (ob:=.cells #[.slice (some ⟨g,0,none⟩) 1 1] 184 (0,0)) (fun W=>AK rfl rfl (eI _ g 1 rfl W)) rfl fun b1 W1 hM1=>?_
 simp only[nmA]
 refine At hM1 (ob:=.cells z16 39 (0,0)) (fun W=>Ab rfl (Ew W)) rfl fun b2 W2 hM2=>?_
 simp only[nmA]
 refine wpList_nil ?_
 ((iterate 3 go_step);refine wp_region_lit ?_)
 refine Ah hM2 (args:=#[]) (v:=Aa dN) (rcf (enters_of Tryz.func156 rfl rfl)) (Jy W2) rfl fun W3 hM3=>?_
 simp only[nmA]
 refine Ac (v:=.func (.func 157) #[Aa dN] #[]) (fun W=>Bs rfl (by simp[Instr.makeFunc,Act.eval])) rfl ?_
 simp only[nmA]
 refine At hM3 (ob:=.cells #[.nilFunc] 185 (0,0)) (fun W=>Ab rfl (eq W)) rfl fun b3 W4 hM4=>?_
 simp only[nmA]
 refine Ba hM4 0 (cs':=(#[.func (.func 157) #[Aa dN] #[]])) rfl rfl rfl rfl (by show 0<1;decide) (rfl) Ic rfl rfl rfl fun W5 hM5=>?_
 simp only[nm2,nm3] at hM5
 refine wpList_nil ?_
 ((iterate 3 go_step);refine wp_region_lit ?_)
 refine Ad (.int .i64 0) ?_
 simp only[nmA]
 refine wpList_nil ?_
 ((iterate 3 go_step);refine wp_region_lit ?_)
 refine At hM5 (ob:=.cells #[.slice none 0 0] 189 (0,0)) (fun W=>Ab rfl (ev W)) rfl fun b4 W6 hM6=>?_
 simp only[nmA]
 refine wpList_nil ?_
 ((iterate 4 go_step);refine wp_region_lit ?_)
 refine Bc hM6 3 (v:=.slice (some ⟨g,0,none⟩) 1 1) rfl rfl rfl rfl Oj rfl ?_
 simp only[nmA]
 refine Ac (v:=.int .i64 1) (fun W=>by go_simp) rfl ?_
 simp only[nmA]
 refine Ad (.int .i64 0) ?_
 simp only[nmA]
 refine wpList_nil ?_
 ((iterate 3 go_step);refine wp_loop_rounds 2 ?_)
 rw[rounds_succ]
 (go_step;refine wp_region_lit ?_)
 refine Ac (v:=.bool true) (fun W=>by go_simp) rfl ?_
 simp only[nmA]
 refine wpList_nil ?_
 ((iterate 10 go_step);refine wp_region_lit ?_)
 refine Ac (v:=.pointer (some ⟨g,0,none⟩)) (fun W=>by go_simp) rfl ?_
 simp only[nmA]
 refine IR (hM6.old hg) (v:=.agg (tmL k a).toArray) (sub:=(tmL k a).toArray) rfl rfl rfl rfl Hg rfl ?_
 simp only[nmA]
 refine At hM6 (ob:=.cells z20 139 (0,0)) (fun W=>Ab rfl (NY W)) rfl fun b5 W7 hM7=>?_
 simp only[nmA]
 refine Av hM7 0 (cs:=((tmL k a).toArray)) rfl rfl rfl rfl Hg rfl (JN k a) rfl rfl fun W8 hM8=>?_
 simp only[nm2,nm3] at hM8
 refine wpList_nil ?_
 ((iterate 3 go_step);refine Ak 6 HMIX.out (by decide) (by kernel_rfl) (by kernel_rfl) ?_)
 refine Cv hM8 1 (v:=.slice none 0 0) rfl rfl rfl rfl G5 rfl rfl ?_;simp only[nmA]
 refine As (v:=.pointer (some ⟨b5,4,none⟩)) (fun W=>AJ rfl rfl (R0 b5 W)) rfl rfl ?_;simp only[nmA]
 refine BJ hM8 0 (v:=pv4 a) (sub:=((pc4 a))) rfl rfl rfl rfl rfl AS rfl rfl ?_;simp only[nmA]
 refine Cv hM8 2 (v:=.func (.func 157) #[Aa dN] #[]) rfl rfl rfl rfl Ic rfl rfl ?_;simp only[nmA]
 refine Am (args:=#[pv4 a,.func (.func 157) #[Aa dN] #[]]) (v:=.agg TAa.toArray) (rcf (enters_of Tryz.func158 rfl rfl)) (fun W _=>KMa.out W) rfl rfl ?_;simp only[nmA]
 refine AX (n:=1) (L:=(TAa).toArray) (T:=190) (fun W=>Ax rfl (by simp[Act.eval]) (KBa.out W)) rfl rfl ?_;simp only[List.nil_append,List.cons_append]
 refine AO fun d os=>?_
 refine JV (t:=24) rfl fun s5 hs5=>?_
 refine Az fun hap=>?_
 simp only[nmA] at hap ⊢
 have hM9:=hM8.calls (below_regrown W8 d os)
 clear hap 
 generalize grow (redrawn W8 d) os=W9 at hM9 hs5 ⊢
 change wpAny _ _ _ _ 2 _ _ _
 refine Kn (n:=6) (by kernel_rfl) rfl hM9 rfl rfl rfl Tryz.underlying189 IT.1 IT.2.1 IT.2.2.1 IT.2.2.2.1 IT.2.2.2.2 (by decide) rfl rfl (news:=TAa) hs5 (by decide) hTAla hTAoa (by decide) (by decide) fun ga1 ca1 ra1 W10 ok1 hM10=>?_
 simp only[nmA]
 refine Et (n:=7) (by kernel_rfl) rfl hM10 2 (cs':=#[.slice (some ⟨ga1,0,none⟩) 1 ca1]) rfl rfl rfl rfl (by show 0<1;decide) (rfl) G5 rfl rfl rfl fun W11 hM11=>?_
 simp only[nm2,nm3] at hM11
 refine wpAny_done (by kernel_rfl) ?_ _
 (go_step;go_step;refine wp_region_lit ?_)
 refine Ad (.int .i64 0) ?_
 simp only[nmA]
 refine Ac (v:=.pointer (some ⟨b5,0,none⟩)) (fun W=>AJ rfl rfl (JS b5 W)) rfl ?_
 simp only[nmA]
 refine Hd hM11 1 (v:=Aa k) (sub:=(elR k)) rfl rfl rfl rfl rfl Bx rfl ?_
 simp only[nmA]
 refine Ah hM11 (args:=#[Aa k]) (v:=.int .i64 (blk:Int)) (rcf (enters_of Tryz.func159 rfl rfl)) (KLk.out W11) rfl fun W12 hM12=>?_
 simp only[nmA]
 refine Ac (v:=.int .i64 (xfk:Int)) (fun W=>Ag rfl rfl rfl (Mz blk xfk exfk hlblk _ _ W)) rfl ?_
 simp only[nmA]
 refine Ac (v:=.int .i64 (xtk:Int)) (fun W=>Ag rfl rfl rfl (Mf xfk xtk extk hxfk _ _ W)) rfl ?_
 simp only[nmA]
 refine Ac (v:=.int .i64 (xqk:Int)) (fun W=>Ag rfl rfl rfl (Mt xtk xqk exqk hxtk _ _ W)) rfl ?_
 simp only[nmA]
 refine Ac (v:=.int .i64 (sk:Int)) (fun W=>IS (a:=0) (b:=xqk) (c:=sk) W rfl rfl rfl hskm) rfl ?_
 simp only[nmA]
 refine Ad (.int .i64 (sk:Int)) ?_
 simp only[nmA]
 refine wpList_nil ?_
 (go_step;go_step;refine wp_region_lit ?_)
 refine Ac (v:=.int .i64 1) (fun W=>by go_simp;decide) rfl ?_
 simp only[nmA]
 refine Ad (.int .i64 1) ?_
 simp only[nmA]
 refine wpList_nil ?_
 have hT0:=hM12.swap.tail
 go_step
 rw[rounds_succ]
 (go_step;refine wp_region_lit ?_)
 refine Ac (v:=.bool false) (fun W=>by go_simp) rfl ?_
 simp only[nmA]
 refine wpList_nil ?_
 obtain⟨st,est⟩:=exza (sk)
 rw[← est]
 have hst64:st≤64:=by rw[est];exact hsk64
 have hst:st≤1000:=by rw[est];exact hsk1000
 clear IT
 obtain⟨n0,en0⟩:∃ x:Int,x=(st:Int)-1:=⟨_,rfl⟩
 rw[eTAa] at hT0
 ((iterate 8 go_step);refine wp_region_lit ?_)
 refine Ah hT0 (args:=#[]) (v:=pv4 Cu) (rcf (enters_of Tryz.func27 rfl rfl)) (Ik W12) rfl fun W13 hM13=>?_
 simp only[nmA]
 refine At hM13 (ob:=.cells z16 39 (0,0)) (fun W=>Ab rfl (Ew W)) rfl fun b6 W14 hM14=>?_
 simp only[nmA]
 refine Av hM14 0 (cs:=((pc4 Cu))) rfl rfl rfl rfl AS rfl (Cf _) rfl rfl fun W15 hM15=>?_
 simp only[nm2,nm3] at hM15
 refine wpList_nil ?_
 ((iterate 3 go_step);refine wp_region_lit ?_)
 refine Ac (v:=.func (.func 160) #[] #[.pointer (some ⟨b6,0,none⟩),.pointer (some ⟨b1,0,none⟩),.pointer (some ⟨b3,0,none⟩),.pointer (some ⟨b4,0,none⟩)]) (fun W=>Bs rfl (by simp[Instr.makeFunc,Act.eval])) rfl ?_
 simp only[nmA]
 refine Ad (.func (.func 160) #[] #[.pointer (some ⟨b6,0,none⟩),.pointer (some ⟨b1,0,none⟩),.pointer (some ⟨b3,0,none⟩),.pointer (some ⟨b4,0,none⟩)]) ?_
 simp only[nmA]
 refine wpList_nil ?_
 ((iterate 4 go_step);refine wp_region_lit ?_)
 refine Ad (.int .i64 (st:Int)) ?_
 simp only[nmA]
 refine Ac (v:=.int .i64 n0) (fun W=>Ag rfl rfl rfl (Jd st n0 _ _ W en0 hst)) rfl ?_
 simp only[nmA]
 refine Ad (.int .i64 n0) ?_
 simp only[nmA]
 refine wpList_nil ?_
 ((iterate 3 go_step);go_loopw [10] (fun i wr=>∃ (m:Nat) (o:N4),m≤st∧i=.int .i64 ((m:Int)-1)∧(∃ P,Ok4 o P)∧Hn (F8 k a) m o=R∧Mem w [(b6,.cells (pc4 o) 39 (0,0)),(ga1,.cells ((CT a 16++ra1).toArray) 190 (0,0)),(b4,.cells #[.slice (some ⟨ga1,0,none⟩) 1 ca1] 189 (0,0)),(b3,.cells (#[Value.func (.func 157) #[Aa dN] #[]]) 185 (0,0)),(b2,.cells z16 39 (0,0)),(b1,.cells #[.slice (some ⟨g,0,none⟩) 1 1] 184 (0,0))] wr) (fun i _=>(Go.RowKit.intOf i+1).toNat))
 case atStart=>exact⟨st,Cu,Nat.le_refl _,by rw[en0],⟨_,Ft⟩,by rw[hR,est],hM15⟩
 case round =>
  obtain⟨m,o,hm,rfl,hOk,hrun,hQ⟩:=hrel
  clear hM1 hM2 hM3 hM4 hM5 hM6 hM7 hM8 hM9 hM10 hM11 hM12 hM13 hM14 hM15
  obtain⟨n,hn⟩:∃ n:Int,n=(m:Int)-1:=⟨_,rfl⟩
  rw[← hn]
  obtain⟨Po,ho⟩:=hOk
  ((iterate 3 go_step);refine wp_region_lit ?_)
  refine Ad (.int .i64 n) ?_
  simp only[nmA]
  obtain⟨c1,hc1⟩:=exza (decide (0≤n))
  refine Ac (v:=.bool c1) (fun W=>Ag rfl rfl rfl (by rw[hc1];exact NJ n _ _ W)) rfl ?_
  simp only[nmA]
  refine wpList_nil ?_
  cases c1
  ·skip
   have hm0:m=0:=by
    have h9:=of_decide_eq_false hc1.symm
    omega
   subst hm0
   rw[Ir] at hrun
   subst hrun
   ((iterate 9 go_step);refine wp_region_lit ?_)
   refine AD hQ 0 (v:=pv4 o) rfl rfl rfl rfl AS rfl ?_
   simp only[nmA]
   refine Av hQ 4 (cs:=((pc4 o))) rfl rfl rfl rfl AS rfl (Cf _) rfl rfl fun W17 hM17=>?_
   simp only[nm2,nm3] at hM17
   refine wpList_nil ?_
   ((iterate 3 go_step);refine bodyPost_ret (v:=pv4 o) (Ap Tryz.results111 rfl (hM17.load 4 rfl AS)) rfl ⟨?_,hM17.below⟩)
   exact rfl
  ·skip
   have h9:=of_decide_eq_true hc1.symm
   obtain⟨s,hsm⟩:∃ s,m=s+1:=⟨m-1,by omega⟩
   have hns:n=(s:Int):=by omega
   obtain⟨n2,en2⟩:∃ x:Int,x=(s:Int)-1:=⟨_,rfl⟩
   ((iterate 8 go_step);refine wp_region_lit ?_)
   refine Ad (.func (.func 160) #[] #[.pointer (some ⟨b6,0,none⟩),.pointer (some ⟨b1,0,none⟩),.pointer (some ⟨b3,0,none⟩),.pointer (some ⟨b4,0,none⟩)]) ?_
   simp only[nmA]
   refine Ad (.int .i64 n) ?_
   simp only[nmA]
   refine Jp  (args:=#[.int .i64 n,.pointer (some ⟨b6,0,none⟩),.pointer (some ⟨b1,0,none⟩),.pointer (some ⟨b3,0,none⟩),.pointer (some ⟨b4,0,none⟩)]) (v:=.tuple #[]) (fun W=>Ca W (enters_of Tryz.func160 rfl rfl) rfl rfl (by simp[Act.eval];rfl) rfl) (by rw[hns];exact UV w wr g b6 ga1 b4 b3 b2 b1 ca1 s ra1 ha k ho (by omega) hg hQ) rfl fun W17 hM17=>?_
   simp only[nmA]
   refine wpList_nil ?_
   (go_step;go_step;refine wp_region_lit ?_)
   refine Ad (.int .i64 n) ?_
   simp only[nmA]
   refine Ac (v:=.int .i64 n2) (fun W=>by rw[hns];exact Ag rfl rfl (by rw[← hns];rfl) (Jd s n2 _ _ W en2 (by omega))) rfl ?_
   simp only[nmA]
   refine Ad (.int .i64 n2) ?_
   simp only[nmA]
   refine wpList_nil ?_
   go_roundw
   case rel =>
    refine⟨_,_,_,_,_,_,_,_,?_,rfl⟩
    refine⟨s,F8 k a o s,by omega,by rw[en2],bS k s ha ⟨_,ho⟩,by rw[← hrun,hsm,Iv],?_⟩
    exact hM17
   case measure=>simp[Go.RowKit.intOf];omega
theorem Xb {a b:N4} {p q:Pt} (ha:Ok4 a p) (hb:Ok4 b q) (k l:Nat) (hk:k<B64^4) (hl:l<B64^4) (g:Nat) (w:World) (hg:w.heap[g]?=some (.cells (tmL k a++tmL l b).toArray 139 (0,0))):Calls Tryz.prog 111 #[.slice (some ⟨g,0,none⟩) 2 2] w fun E w'=>E=.returned (pv4 (Hn (Gc k l a b) (max (Eo k) (Eo l)) Cu))∧Below w.heap.size w w':=by
 have HMIX:=Lh (show Tryz.prog.follows .mixedOrders=true by kernel_rfl)
 obtain⟨iT,zT,IT⟩:=eK
 have KMa:=Lh (fun W=>Gd ha W)
 have KBa:=Lh (fun W=>Ys a W)
 have hTAla:(CT a 16).length=1*256:=by rw[CO]
 have hTAoa:=Lp a
 obtain⟨TAa,eTAa⟩:=exza (CT a 16)
 rw[← eTAa] at KMa KBa hTAla hTAoa
 have KMb:=Lh (fun W=>Gd hb W)
 have KBb:=Lh (fun W=>Ys b W)
 have hTAlb:(CT b 16).length=1*256:=by rw[CO]
 have hTAob:=Lp b
 obtain⟨TAb,eTAb⟩:=exza (CT b 16)
 rw[← eTAb] at KMb KBb hTAlb hTAob
 have hsk64:=Oh k hk
 have hblk:=I7 k hk
 have KLk:=Lh (fun W=>K9 k W hk)
 have hsl64:=Oh l hl
 have hbll:=I7 l hl
 have KLl:=Lh (fun W=>K9 l W hl)
 unfold Eo at *
 obtain⟨blk,eblk⟩:=exza (Go.bitLen k)
 rw[← eblk] at KLk hsk64 hblk ⊢
 have hlblk:blk≤1000:=by omega
 obtain⟨bll,ebll⟩:=exza (Go.bitLen l)
 rw[← ebll] at KLl hsl64 hbll ⊢
 have hlbll:bll≤1000:=by omega
 obtain⟨xfk,exfk⟩:=exzb (blk+4)
 obtain⟨xtk,extk⟩:∃ x,x+1=xfk:=⟨blk+3,by omega⟩
 rw[show blk+3=xtk by omega] at hsk64 ⊢
 obtain⟨xqk,exqk⟩:=exzb (xtk/4)
 rw[exqk] at hsk64 ⊢
 have hxfk:xfk≤10000:=by omega
 have hxtk:xtk≤10000:=by omega
 obtain⟨xfl,exfl⟩:=exzb (bll+4)
 obtain⟨xtl,extl⟩:∃ x,x+1=xfl:=⟨bll+3,by omega⟩
 rw[show bll+3=xtl by omega] at hsl64 ⊢
 obtain⟨xql,exql⟩:=exzb (xtl/4)
 rw[exql] at hsl64 ⊢
 have hxfl:xfl≤10000:=by omega
 have hxtl:xtl≤10000:=by omega
 obtain⟨sk,esk⟩:=exza (xqk)
 have hskm:max 0 xqk=sk:=by omega
 have hsk64:sk≤64:=by omega
 have hsk1000:sk≤1000:=by omega
 rw[← esk]
 obtain⟨st,est⟩:=exza (max sk xql)
 have hstm:max sk xql=st:=est.symm
 have hst64:st≤64:=by omega
 have hst1000:st≤1000:=by omega
 rw[← est]
 obtain⟨R,hR⟩:=exza (Hn (Gc k l a b) st Cu)
 rw[← hR]
 go_enter Tryz.func111,Tryz.ntmps111
 have hM0:=Mem.start w
 (go_step;go_step;refine wp_region_lit ?_)
 refine At hM0 (ob:=.cells #[.slice (some ⟨g,0,none⟩) 2 2] 184 (0,0)) (fun W=>AK rfl rfl (eI _ g 2 rfl W)) rfl fun b1 W1 hM1=>?_
 simp only[nmA]
 refine At hM1 (ob:=.cells z16 39 (0,0)) (fun W=>Ab rfl (Ew W)) rfl fun b2 W2 hM2=>?_
 simp only[nmA]
 refine wpList_nil ?_
 ((iterate 3 go_step);refine wp_region_lit ?_)
 refine Ah hM2 (args:=#[]) (v:=Aa dN) (rcf (enters_of Tryz.func156 rfl rfl)) (Jy W2) rfl fun W3 hM3=>?_
 simp only[nmA]
 refine Ac (v:=.func (.func 157) #[Aa dN] #[]) (fun W=>Bs rfl (by simp[Instr.makeFunc,Act.eval])) rfl ?_
 simp only[nmA]
 refine At hM3 (ob:=.cells #[.nilFunc] 185 (0,0)) (fun W=>Ab rfl (eq W)) rfl fun b3 W4 hM4=>?_
 simp only[nmA]
 refine Ba hM4 0 (cs':=(#[.func (.func 157) #[Aa dN] #[]])) rfl rfl rfl rfl (by show 0<1;decide) (rfl) Ic rfl rfl rfl fun W5 hM5=>?_
 simp only[nm2,nm3] at hM5
 refine wpList_nil ?_
 ((iterate 3 go_step);refine wp_region_lit ?_)
 refine Ad (.int .i64 0) ?_
 simp only[nmA]
 refine wpList_nil ?_
 ((iterate 3 go_step);refine wp_region_lit ?_)
 refine At hM5 (ob:=.cells #[.slice none 0 0] 189 (0,0)) (fun W=>Ab rfl (ev W)) rfl fun b4 W6 hM6=>?_
 simp only[nmA]
 refine wpList_nil ?_
 ((iterate 4 go_step);refine wp_region_lit ?_)
 refine Bc hM6 3 (v:=.slice (some ⟨g,0,none⟩) 2 2) rfl rfl rfl rfl Oj rfl ?_
 simp only[nmA]
 refine Ac (v:=.int .i64 2) (fun W=>by go_simp) rfl ?_
 simp only[nmA]
 refine Ad (.int .i64 0) ?_
 simp only[nmA]
 refine wpList_nil ?_
 ((iterate 3 go_step);refine wp_loop_rounds 3 ?_)
 rw[rounds_succ]
 (go_step;refine wp_region_lit ?_)
 refine Ac (v:=.bool true) (fun W=>by go_simp) rfl ?_
 simp only[nmA]
 refine wpList_nil ?_
 ((iterate 10 go_step);refine wp_region_lit ?_)
 refine Ac (v:=.pointer (some ⟨g,0,none⟩)) (fun W=>by go_simp) rfl ?_
 simp only[nmA]
 refine IR (hM6.old hg) (v:=.agg (tmL k a).toArray) (sub:=(tmL k a).toArray) rfl rfl rfl rfl Hg rfl ?_
 simp only[nmA]
 refine At hM6 (ob:=.cells z20 139 (0,0)) (fun W=>Ab rfl (NY W)) rfl fun b5 W7 hM7=>?_
 simp only[nmA]
 refine Av hM7 0 (cs:=((tmL k a).toArray)) rfl rfl rfl rfl Hg rfl (JN k a) rfl rfl fun W8 hM8=>?_
 simp only[nm2,nm3] at hM8
 refine wpList_nil ?_
 ((iterate 3 go_step);refine Ak 6 HMIX.out (by decide) (by kernel_rfl) (by kernel_rfl) ?_)
 refine Cv hM8 1 (v:=.slice none 0 0) rfl rfl rfl rfl G5 rfl rfl ?_;simp only[nmA]
 refine As (v:=.pointer (some ⟨b5,4,none⟩)) (fun W=>AJ rfl rfl (R0 b5 W)) rfl rfl ?_;simp only[nmA]
 refine BJ hM8 0 (v:=pv4 a) (sub:=((pc4 a))) rfl rfl rfl rfl rfl AS rfl rfl ?_;simp only[nmA]
 refine Cv hM8 2 (v:=.func (.func 157) #[Aa dN] #[]) rfl rfl rfl rfl Ic rfl rfl ?_;simp only[nmA]
 refine Am (args:=#[pv4 a,.func (.func 157) #[Aa dN] #[]]) (v:=.agg TAa.toArray) (rcf (enters_of Tryz.func158 rfl rfl)) (fun W _=>KMa.out W) rfl rfl ?_;simp only[nmA]
 refine AX (n:=1) (L:=(TAa).toArray) (T:=190) (fun W=>Ax rfl (by simp[Act.eval]) (KBa.out W)) rfl rfl ?_;simp only[List.nil_append,List.cons_append]
 refine AO fun d os=>?_
 refine JV (t:=24) rfl fun s5 hs5=>?_
 refine Az fun hap=>?_
 simp only[nmA] at hap ⊢
 have hM9:=hM8.calls (below_regrown W8 d os)
 clear hap 
 generalize grow (redrawn W8 d) os=W9 at hM9 hs5 ⊢
 change wpAny _ _ _ _ 2 _ _ _
 refine Kn (n:=6) (by kernel_rfl) rfl hM9 rfl rfl rfl Tryz.underlying189 IT.1 IT.2.1 IT.2.2.1 IT.2.2.2.1 IT.2.2.2.2 (by decide) rfl rfl (news:=TAa) hs5 (by decide) hTAla hTAoa (by decide) (by decide) fun ga1 ca1 ra1 W10 ok1 hM10=>?_
 simp only[nmA]
 refine Et (n:=7) (by kernel_rfl) rfl hM10 2 (cs':=#[.slice (some ⟨ga1,0,none⟩) 1 ca1]) rfl rfl rfl rfl (by show 0<1;decide) (rfl) G5 rfl rfl rfl fun W11 hM11=>?_
 simp only[nm2,nm3] at hM11
 refine wpAny_done (by kernel_rfl) ?_ _
 (go_step;go_step;refine wp_region_lit ?_)
 refine Ad (.int .i64 0) ?_
 simp only[nmA]
 refine Ac (v:=.pointer (some ⟨b5,0,none⟩)) (fun W=>AJ rfl rfl (JS b5 W)) rfl ?_
 simp only[nmA]
 refine Hd hM11 1 (v:=Aa k) (sub:=(elR k)) rfl rfl rfl rfl rfl Bx rfl ?_
 simp only[nmA]
 refine Ah hM11 (args:=#[Aa k]) (v:=.int .i64 (blk:Int)) (rcf (enters_of Tryz.func159 rfl rfl)) (KLk.out W11) rfl fun W12 hM12=>?_
 simp only[nmA]
 refine Ac (v:=.int .i64 (xfk:Int)) (fun W=>Ag rfl rfl rfl (Mz blk xfk exfk hlblk _ _ W)) rfl ?_
 simp only[nmA]
 refine Ac (v:=.int .i64 (xtk:Int)) (fun W=>Ag rfl rfl rfl (Mf xfk xtk extk hxfk _ _ W)) rfl ?_
 simp only[nmA]
 refine Ac (v:=.int .i64 (xqk:Int)) (fun W=>Ag rfl rfl rfl (Mt xtk xqk exqk hxtk _ _ W)) rfl ?_
 simp only[nmA]
 refine Ac (v:=.int .i64 (sk:Int)) (fun W=>IS (a:=0) (b:=xqk) (c:=sk) W rfl rfl rfl hskm) rfl ?_
 simp only[nmA]
 refine Ad (.int .i64 (sk:Int)) ?_
 simp only[nmA]
 refine wpList_nil ?_
 (go_step;go_step;refine wp_region_lit ?_)
 refine Ac (v:=.int .i64 1) (fun W=>by go_simp;decide) rfl ?_
 simp only[nmA]
 refine Ad (.int .i64 1) ?_
 simp only[nmA]
 refine wpList_nil ?_
 have hT0:=hM12.swap.tail
 go_step
 rw[rounds_succ]
 (go_step;refine wp_region_lit ?_)
 refine Ac (v:=.bool true) (fun W=>by go_simp) rfl ?_
 simp only[nmA]
 refine wpList_nil ?_
 ((iterate 10 go_step);refine wp_region_lit ?_)
 refine Ac (v:=.pointer (some ⟨g,20,none⟩)) (fun W=>by go_simp) rfl ?_
 simp only[nmA]
 refine IR (hT0.old hg) (v:=.agg (tmL l b).toArray) (sub:=(tmL l b).toArray) rfl rfl rfl rfl Hg rfl ?_
 simp only[nmA]
 refine At hT0 (ob:=.cells z20 139 (0,0)) (fun W=>Ab rfl (NY W)) rfl fun b6 W13 hM13=>?_
 simp only[nmA]
 refine Av hM13 0 (cs:=((tmL l b).toArray)) rfl rfl rfl rfl Hg rfl (JN l b) rfl rfl fun W14 hM14=>?_
 simp only[nm2,nm3] at hM14
 refine wpList_nil ?_
 have hS1:=hM14.swap
 ((iterate 3 go_step);refine Ak 6 HMIX.out (by decide) (by kernel_rfl) (by kernel_rfl) ?_)
 refine Cv hS1 2 (v:=.slice (some ⟨ga1,0,none⟩) 1 ca1) rfl rfl rfl rfl G5 rfl rfl ?_;simp only[nmA]
 refine As (v:=.pointer (some ⟨b6,4,none⟩)) (fun W=>AJ rfl rfl (R0 b6 W)) rfl rfl ?_;simp only[nmA]
 refine BJ hS1 1 (v:=pv4 b) (sub:=((pc4 b))) rfl rfl rfl rfl rfl AS rfl rfl ?_;simp only[nmA]
 refine Cv hS1 3 (v:=.func (.func 157) #[Aa dN] #[]) rfl rfl rfl rfl Ic rfl rfl ?_;simp only[nmA]
 refine Am (args:=#[pv4 b,.func (.func 157) #[Aa dN] #[]]) (v:=.agg TAb.toArray) (rcf (enters_of Tryz.func158 rfl rfl)) (fun W _=>KMb.out W) rfl rfl ?_;simp only[nmA]
 refine AX (n:=1) (L:=(TAb).toArray) (T:=190) (fun W=>Ax rfl (by simp[Act.eval]) (KBb.out W)) rfl rfl ?_;simp only[List.nil_append,List.cons_append]
 refine AO fun d os=>?_
 refine JV (t:=24) rfl fun s5 hs5=>?_
 refine Az fun hap=>?_
 simp only[nmA] at hap ⊢
 have hM15:=hS1.calls (below_regrown W14 d os)
 clear hap 
 generalize grow (redrawn W14 d) os=W15 at hM15 hs5 ⊢
 change wpAny _ _ _ _ 2 _ _ _
 refine QV (n:=6) (by kernel_rfl) rfl hM15 ok1 rfl rfl rfl Tryz.underlying189 IT.1 IT.2.1 IT.2.2.1 IT.2.2.2.1 IT.2.2.2.2 (by decide) rfl rfl (news:=TAb) hs5 (by decide) hTAlb hTAob (by decide) (by decide) fun ga2 ca2 ra2 W16 ok2 hM16=>?_
 simp only[nmA]
 refine Et (n:=7) (by kernel_rfl) rfl hM16 2 (cs':=#[.slice (some ⟨ga2,0,none⟩) 2 ca2]) rfl rfl rfl rfl (by show 0<1;decide) (rfl) G5 rfl rfl rfl fun W17 hM17=>?_
 simp only[nm2,nm3] at hM17
 refine wpAny_done (by kernel_rfl) ?_ _
 (go_step;go_step;refine wp_region_lit ?_)
 refine Ad (.int .i64 (sk:Int)) ?_
 simp only[nmA]
 refine Ac (v:=.pointer (some ⟨b6,0,none⟩)) (fun W=>AJ rfl rfl (JS b6 W)) rfl ?_
 simp only[nmA]
 refine Hd hM17 1 (v:=Aa l) (sub:=(elR l)) rfl rfl rfl rfl rfl Bx rfl ?_
 simp only[nmA]
 refine Ah hM17 (args:=#[Aa l]) (v:=.int .i64 (bll:Int)) (rcf (enters_of Tryz.func159 rfl rfl)) (KLl.out W17) rfl fun W18 hM18=>?_
 simp only[nmA]
 refine Ac (v:=.int .i64 (xfl:Int)) (fun W=>Ag rfl rfl rfl (Mz bll xfl exfl hlbll _ _ W)) rfl ?_
 simp only[nmA]
 refine Ac (v:=.int .i64 (xtl:Int)) (fun W=>Ag rfl rfl rfl (Mf xfl xtl extl hxfl _ _ W)) rfl ?_
 simp only[nmA]
 refine Ac (v:=.int .i64 (xql:Int)) (fun W=>Ag rfl rfl rfl (Mt xtl xql exql hxtl _ _ W)) rfl ?_
 simp only[nmA]
 refine Ac (v:=.int .i64 (st:Int)) (fun W=>IS (a:=sk) (b:=xql) (c:=st) W rfl rfl rfl hstm) rfl ?_
 simp only[nmA]
 refine Ad (.int .i64 (st:Int)) ?_
 simp only[nmA]
 refine wpList_nil ?_
 (go_step;go_step;refine wp_region_lit ?_)
 refine Ac (v:=.int .i64 2) (fun W=>by go_simp;decide) rfl ?_
 simp only[nmA]
 refine Ad (.int .i64 2) ?_
 simp only[nmA]
 refine wpList_nil ?_
 have hT1:=hM18.swap.tail
 go_step
 rw[rounds_succ]
 (go_step;refine wp_region_lit ?_)
 refine Ac (v:=.bool false) (fun W=>by go_simp) rfl ?_
 simp only[nmA]
 refine wpList_nil ?_
 have hst:st≤1000:=hst1000
 clear IT
 obtain⟨n0,en0⟩:∃ x:Int,x=(st:Int)-1:=⟨_,rfl⟩
 rw[List.append_assoc] at hT1
 rw[eTAa,eTAb] at hT1
 ((iterate 8 go_step);refine wp_region_lit ?_)
 refine Ah hT1 (args:=#[]) (v:=pv4 Cu) (rcf (enters_of Tryz.func27 rfl rfl)) (Ik W18) rfl fun W19 hM19=>?_
 simp only[nmA]
 refine At hM19 (ob:=.cells z16 39 (0,0)) (fun W=>Ab rfl (Ew W)) rfl fun b7 W20 hM20=>?_
 simp only[nmA]
 refine Av hM20 0 (cs:=((pc4 Cu))) rfl rfl rfl rfl AS rfl (Cf _) rfl rfl fun W21 hM21=>?_
 simp only[nm2,nm3] at hM21
 refine wpList_nil ?_
 ((iterate 3 go_step);refine wp_region_lit ?_)
 refine Ac (v:=.func (.func 160) #[] #[.pointer (some ⟨b7,0,none⟩),.pointer (some ⟨b1,0,none⟩),.pointer (some ⟨b3,0,none⟩),.pointer (some ⟨b4,0,none⟩)]) (fun W=>Bs rfl (by simp[Instr.makeFunc,Act.eval])) rfl ?_
 simp only[nmA]
 refine Ad (.func (.func 160) #[] #[.pointer (some ⟨b7,0,none⟩),.pointer (some ⟨b1,0,none⟩),.pointer (some ⟨b3,0,none⟩),.pointer (some ⟨b4,0,none⟩)]) ?_
 simp only[nmA]
 refine wpList_nil ?_
 ((iterate 4 go_step);refine wp_region_lit ?_)
 refine Ad (.int .i64 (st:Int)) ?_
 simp only[nmA]
 refine Ac (v:=.int .i64 n0) (fun W=>Ag rfl rfl rfl (Jd st n0 _ _ W en0 hst)) rfl ?_
 simp only[nmA]
 refine Ad (.int .i64 n0) ?_
 simp only[nmA]
 refine wpList_nil ?_
 ((iterate 3 go_step);go_loopw [10] (fun i wr=>∃ (m:Nat) (o:N4),m≤st∧i=.int .i64 ((m:Int)-1)∧(∃ P,Ok4 o P)∧Hn (Gc k l a b) m o=R∧Mem w [(b7,.cells (pc4 o) 39 (0,0)),(ga2,.cells ((CT a 16++(CT b 16++ra2)).toArray) 190 (0,0)),(b4,.cells #[.slice (some ⟨ga2,0,none⟩) 2 ca2] 189 (0,0)),(b3,.cells (#[Value.func (.func 157) #[Aa dN] #[]]) 185 (0,0)),(b2,.cells z16 39 (0,0)),(b1,.cells #[.slice (some ⟨g,0,none⟩) 2 2] 184 (0,0))] wr) (fun i _=>(Go.RowKit.intOf i+1).toNat))
 case atStart=>exact⟨st,Cu,Nat.le_refl _,by rw[en0],⟨_,Ft⟩,by rw[hR],hM21⟩
 case round =>
  obtain⟨m,o,hm,rfl,hOk,hrun,hQ⟩:=hrel
  clear hM1 hM2 hM3 hM4 hM5 hM6 hM7 hM8 hM9 hM10 hM11 hM12 hM13 hM14 hM15 hM16 hM17 hM18 hM19 hM20 hM21
  obtain⟨n,hn⟩:∃ n:Int,n=(m:Int)-1:=⟨_,rfl⟩
  rw[← hn]
  obtain⟨Po,ho⟩:=hOk
  ((iterate 3 go_step);refine wp_region_lit ?_)
  refine Ad (.int .i64 n) ?_
  simp only[nmA]
  obtain⟨c1,hc1⟩:=exza (decide (0≤n))
  refine Ac (v:=.bool c1) (fun W=>Ag rfl rfl rfl (by rw[hc1];exact NJ n _ _ W)) rfl ?_
  simp only[nmA]
  refine wpList_nil ?_
  cases c1
  ·skip
   have hm0:m=0:=by
    have h9:=of_decide_eq_false hc1.symm
    omega
   subst hm0
   rw[Ir] at hrun
   subst hrun
   ((iterate 9 go_step);refine wp_region_lit ?_)
   refine AD hQ 0 (v:=pv4 o) rfl rfl rfl rfl AS rfl ?_
   simp only[nmA]
   refine Av hQ 4 (cs:=((pc4 o))) rfl rfl rfl rfl AS rfl (Cf _) rfl rfl fun W23 hM23=>?_
   simp only[nm2,nm3] at hM23
   refine wpList_nil ?_
   ((iterate 3 go_step);refine bodyPost_ret (v:=pv4 o) (Ap Tryz.results111 rfl (hM23.load 4 rfl AS)) rfl ⟨?_,hM23.below⟩)
   exact rfl
  ·skip
   have h9:=of_decide_eq_true hc1.symm
   obtain⟨s,hsm⟩:∃ s,m=s+1:=⟨m-1,by omega⟩
   have hns:n=(s:Int):=by omega
   obtain⟨n2,en2⟩:∃ x:Int,x=(s:Int)-1:=⟨_,rfl⟩
   ((iterate 8 go_step);refine wp_region_lit ?_)
   refine Ad (.func (.func 160) #[] #[.pointer (some ⟨b7,0,none⟩),.pointer (some ⟨b1,0,none⟩),.pointer (some ⟨b3,0,none⟩),.pointer (some ⟨b4,0,none⟩)]) ?_
   simp only[nmA]
   refine Ad (.int .i64 n) ?_
   simp only[nmA]
   refine Jp  (args:=#[.int .i64 n,.pointer (some ⟨b7,0,none⟩),.pointer (some ⟨b1,0,none⟩),.pointer (some ⟨b3,0,none⟩),.pointer (some ⟨b4,0,none⟩)]) (v:=.tuple #[]) (fun W=>Ca W (enters_of Tryz.func160 rfl rfl) rfl rfl (by simp[Act.eval];rfl) rfl) (by rw[hns];exact Vq w wr g b7 ga2 b4 b3 b2 b1 ca2 s ra2 ha hb k l ho (by omega) hg hQ) rfl fun W23 hM23=>?_
   simp only[nmA]
   refine wpList_nil ?_
   (go_step;go_step;refine wp_region_lit ?_)
   refine Ad (.int .i64 n) ?_
   simp only[nmA]
   refine Ac (v:=.int .i64 n2) (fun W=>by rw[hns];exact Ag rfl rfl (by rw[← hns];rfl) (Jd s n2 _ _ W en2 (by omega))) rfl ?_
   simp only[nmA]
   refine Ad (.int .i64 n2) ?_
   simp only[nmA]
   refine wpList_nil ?_
   go_roundw
   case rel =>
    refine⟨_,_,_,_,_,_,_,_,?_,rfl⟩
    refine⟨s,Gc k l a b o s,by omega,by rw[en2],ce k l s ha hb ⟨_,ho⟩,by rw[← hrun,hsm,Iv],?_⟩
    exact hM23
   case measure=>simp[Go.RowKit.intOf];omega
open Go.RowKit
theorem ZN (a b:Nat) (w:World) (ha:a<B64^4) (hb:b<B64^4) :
    Calls Tryz.prog 102 #[.agg #[.int .u64 (wd a 0:Int),.int .u64 (wd a 1:Int),.int .u64 (wd a 2:Int),.int .u64 (wd a 3:Int)],.agg #[.int .u64 (wd b 0:Int),.int .u64 (wd b 1:Int),.int .u64 (wd b 2:Int),.int .u64 (wd b 3:Int)]] w fun e w'=>e=.returned (.tuple #[.agg #[.int .u64 (wd (BS a b) 0:Int),.int .u64 (wd (BS a b) 1:Int),.int .u64 (wd (BS a b) 2:Int),.int .u64 (wd (BS a b) 3:Int)],.int .u64 (DV a b:Int)])∧Below w.heap.size w w':=IB a b w ha hb
theorem Yi (a b:Nat) (w:World) (ha:a<B64^4) (hb:b<B64^4) :
    Calls Tryz.prog 134 #[.agg #[.int .u64 (wd a 0:Int),.int .u64 (wd a 1:Int),.int .u64 (wd a 2:Int),.int .u64 (wd a 3:Int)],.agg #[.int .u64 (wd b 0:Int),.int .u64 (wd b 1:Int),.int .u64 (wd b 2:Int),.int .u64 (wd b 3:Int)]] w fun e w'=>e=.returned (.tuple #[.agg #[.int .u64 (wd (Fq a b) 0:Int),.int .u64 (wd (Fq a b) 1:Int),.int .u64 (wd (Fq a b) 2:Int),.int .u64 (wd (Fq a b) 3:Int)],.int .u64 (Hm a b:Int)])∧Below w.heap.size w w':=Oy a b w ha hb
theorem au (r m b:Nat) (hr:r<m) (hm:m<B64^4) (hb:b<2) :
    BS r r+b<B64^4∧wd (BS r r+b) 0=wd (BS r r) 0+b∧(∀ k,1≤k→wd (BS r r+b) k=wd (BS r r) k)∧wd (BS r r) 0%2=0∧wd (BS r r) 0+b<18446744073709551616 ∧
    (DV r r=1∨DV r r=0∧Hm (BS r r+b) m=0→Fq (BS r r+b) m=(2*r+b)%m)∧(DV r r=0∧Hm (BS r r+b) m=1→BS r r+b=(2*r+b)%m)∧DV r r≤1∧Hm (BS r r+b) m≤1:=by
 have hT:B64^4=B64*B64^3:=by rw[Nat.pow_succ,Nat.mul_comm]
 have hTe:∃ t,B64^4=2*t:=⟨9223372036854775808*B64^3,by rw[hT,← Nat.mul_assoc];rfl⟩
 obtain⟨t,ht⟩:=hTe
 have hk:DV r r=0∧BS r r=2*r∨DV r r=1∧BS r r+B64^4=2*r:=by
  unfold DV BS
  by_cases h:r+r<B64^4
  ·left;rw[Nat.div_eq_of_lt h,Nat.mod_eq_of_lt h];omega
  ·right
   have h1:r+r<B64^4+B64^4:=by omega
   rw[Nat.mod_eq_sub_mod (by omega),Nat.mod_eq_of_lt (by omega),Nat.div_eq_sub_div (Nat.pow_pos B9) (by omega),Nat.div_eq_of_lt (by omega)]
   omega
 have hev:BS r r%2=0:=by rcases hk with ⟨_,h⟩ | ⟨_,h⟩ <;> omega
 have hlt:BS r r<B64^4:=Nat.mod_lt _ (Nat.pow_pos B9)
 have hlt2:BS r r+b<B64^4:=by omega
 have hw0:wd (BS r r) 0%2=0:=by rw[EI];unfold B64;omega
 have hw1:wd (BS r r) 0<18446744073709551616:=Cb _ _
 have hd:(BS r r+b)/B64=BS r r/B64:=by unfold B64;omega
 have hm0:wd (BS r r+b) 0=wd (BS r r) 0+b:=by rw[EI,EI];unfold B64;omega
 refine⟨hlt2,hm0,fun k hk=>?_,hw0,by omega,?_,?_,?_,?_⟩
 ·obtain⟨j,rfl⟩:∃ j,k=j+1:=⟨k-1,by omega⟩
  rw[CA,CA,hd]
 ·intro h
  unfold Hm at h
  unfold Fq
  rcases hk with ⟨h1,h2⟩ | ⟨h1,h2⟩
  ·rw[h1] at h
   have h3:¬ BS r r+b<m:=by
    rcases h with h | ⟨_,h⟩
    ·omega
    ·intro h4;rw[if_pos h4] at h;omega
   rw[if_neg h3,h2,Nat.mod_eq_sub_mod (by omega),Nat.mod_eq_of_lt (by omega)]
  ·have h3:BS r r+b<m:=by omega
   rw[if_pos h3,Nat.mod_eq_sub_mod (by omega),Nat.mod_eq_of_lt (by omega)]
   omega
 ·rintro⟨h1,h2⟩
  unfold Hm at h2
  have h3:BS r r+b<m:=by
   by_cases h4:BS r r+b<m
   ·exact h4
   ·rw[if_neg h4] at h2;omega
  rcases hk with ⟨_,h5⟩ | ⟨h5,_⟩
  ·rw[Nat.mod_eq_of_lt (by omega)];omega
  ·omega
 ·rcases hk with ⟨h,_⟩ | ⟨h,_⟩ <;> omega
 ·unfold Hm;split <;> omega
theorem gm (x b:Nat) (hx:x%2=0) (hb:b<2) (hl:x<18446744073709551616):bits .or .u64 (x:Int) (b:Int)=((x+b:Nat):Int):=by
 rw[bits_or_u64_nat _ _ (by omega) (by omega)]
 have h3:=Nat.shiftLeft_add_eq_or_of_lt (i:=1) (b:=b) (by omega) (x/2)
 rw[Nat.shiftLeft_eq,show x/2*2^1=x by omega] at h3
 rw[h3]
theorem In (W:World) (b i:Nat) (v:Value):W.grownBy (W.setCell ⟨b,i,none⟩ v) (some b) :=
 ⟨rfl,rfl,rfl,by show _≤(W.heap.modify _ _).size;rw[Array.size_modify];exact Nat.le_refl _,fun k _ hk=>Below.heap_setCell _ _ _ k (fun e=>hk (by rw[e]))⟩
theorem Ry {w Y:World} (h:Below w.heap.size w Y) (R:Nat):w.grownBy Y (some R):=⟨h.os,h.tape,h.output,h.size,fun k hk _=>h.block k hk⟩
def Kx (W:World) (b:Nat) (v0 v1 v2 v3:Value):World:=(((W.setCell ⟨b,0,none⟩ v0).setCell ⟨b,1,none⟩ v1).setCell ⟨b,2,none⟩ v2).setCell ⟨b,3,none⟩ v3
theorem LX {w Y:World} {R:Nat} (h:w.grownBy Y (some R)) (v0 v1 v2 v3:Value):w.grownBy (Kx Y R v0 v1 v2 v3) (some R) :=
 BH (BH (BH (BH h (In _ _ _ _)) (In _ _ _ _)) (In _ _ _ _)) (In _ _ _ _)
theorem JB {Y:World} {R x y:Nat} (h:Y.heap[R]?=some (.cells (An x).toArray 24 (0,0))):(Kx Y R (.int .u64 (wd y 0:Int)) (.int .u64 (wd y 1:Int)) (.int .u64 (wd y 2:Int)) (.int .u64 (wd y 3:Int))).heap[R]?=some (.cells (An y).toArray 24 (0,0)) :=
 AF (i:=3) (AF (i:=2) (AF (i:=1) (AF (i:=0) h (.int .u64 (wd y 0:Int))) (.int .u64 (wd y 1:Int))) (.int .u64 (wd y 2:Int))) (.int .u64 (wd y 3:Int))
theorem JH (W:World) (b:Nat) (v0 v1 v2 v3:Value):(Kx W b v0 v1 v2 v3).heap.size=W.heap.size:=by
 have sz:∀ (W:World) (a:Addr) (v:Value),(W.setCell a v).heap.size=W.heap.size:=fun W a v=>by show (W.heap.modify _ _).size=_;rw[Array.size_modify]
 unfold Kx
 rw[sz,sz,sz,sz]
theorem Lt {w w2:World} {R r T S:Nat} (o:Obj) (hlR:R<w2.heap.size) (hR:w2.heap[R]?=some (.cells (An r).toArray 24 (0,0))) (hw:Below w.heap.size w w2) :
    ((Kx w2 R (.int .u64 (wd T 0:Int)) (.int .u64 (wd T 1:Int)) (.int .u64 (wd T 2:Int)) (.int .u64 (wd T 3:Int))).alloc o).heap[R]?=some (.cells (An T).toArray 24 (0,0)) ∧
    w.grownBy ((Kx w2 R (.int .u64 (wd T 0:Int)) (.int .u64 (wd T 1:Int)) (.int .u64 (wd T 2:Int)) (.int .u64 (wd T 3:Int))).alloc o) (some R) ∧
    ((Kx (Kx w2 R (.int .u64 (wd T 0:Int)) (.int .u64 (wd T 1:Int)) (.int .u64 (wd T 2:Int)) (.int .u64 (wd T 3:Int))) R (.int .u64 (wd S 0:Int)) (.int .u64 (wd S 1:Int)) (.int .u64 (wd S 2:Int)) (.int .u64 (wd S 3:Int))).alloc o).heap[R]?=some (.cells (An S).toArray 24 (0,0)) ∧
    w.grownBy ((Kx (Kx w2 R (.int .u64 (wd T 0:Int)) (.int .u64 (wd T 1:Int)) (.int .u64 (wd T 2:Int)) (.int .u64 (wd T 3:Int))) R (.int .u64 (wd S 0:Int)) (.int .u64 (wd S 1:Int)) (.int .u64 (wd S 2:Int)) (.int .u64 (wd S 3:Int))).alloc o) (some R):=by
 have h1:=JB (y:=T) hR
 have h2:=JB (y:=S) h1
 have g1:=LX (Ry hw R) (.int .u64 (wd T 0:Int)) (.int .u64 (wd T 1:Int)) (.int .u64 (wd T 2:Int)) (.int .u64 (wd T 3:Int))
 have g2:=LX g1 (.int .u64 (wd S 0:Int)) (.int .u64 (wd S 1:Int)) (.int .u64 (wd S 2:Int)) (.int .u64 (wd S 3:Int))
 exact⟨(AQ _ _ _ (by rw[JH];exact hlR)).trans h1,BH g1 (World.grownBy_alloc _ _ _),(AQ _ _ _ (by rw[JH,JH];exact hlR)).trans h2,BH g2 (World.grownBy_alloc _ _ _)⟩
theorem PE (r m b R M:Nat) (w:World) (hr:r<m) (hm:m<B64^4) (hb:b<2) (hR:w.heap[R]?=some (.cells (An r).toArray 24 (0,0))) (hM:w.heap[M]?=some (.cells (An m).toArray 24 (0,0))) :
    Calls Tryz.prog 149 #[.int .u64 (b:Int),.pointer (some ⟨R,0,none⟩),.pointer (some ⟨M,0,none⟩)] w fun e w'=>e=.returned (.tuple #[])∧w'.heap[R]?=some (.cells (An ((2*r+b)%m)).toArray 24 (0,0))∧w.grownBy w' (some R):=by
 have hlR:R<w.heap.size:=by
  apply Nat.lt_of_not_le
  intro hle
  rw[Array.getElem?_eq_none hle] at hR
  simp at hR
 have hlM:M<w.heap.size:=by
  apply Nat.lt_of_not_le
  intro hle
  rw[Array.getElem?_eq_none hle] at hM
  simp at hM
 obtain⟨n1,n2,n3,n4,n5,n6,n7,n8,n9⟩:=au r m b hr hm hb
 have AA:=fun w=>ZN r r w (by omega) (by omega)
 have SS:=fun w=>Yi (BS r r+b) m w n1 hm
 have hor:=gm (wd (BS r r) 0) b n4 hb (Cb _ _)
 rw[← n2] at hor
 have e1:=n3 1 (by omega)
 have e2:=n3 2 (by omega)
 have e3:=n3 3 (by omega)
 rw[← e1,← e2,← e3] at AA
 have hw0:=Cb (BS r r) 0
 have hw1:=Cb (BS r r+b) 0
 generalize wd (BS r r) 0=T0 at AA hor hw0
 generalize hT:BS r r+b=T at AA SS hor n6 n7 n9 hw1
 generalize hK:DV r r=K at AA n6 n7 n8
 generalize hS:Fq T m=S at SS n6
 generalize hB:Hm T m=Bo at SS n6 n7 n9
 have HA:=Lh AA
 have HS:=Lh SS
 have H6:=Lh n6
 have H7:=Lh n7
 clear AA SS n1 n2 n3 n4 n5 n6 n7 e1 e2 e3 hT hK hS hB hr hm
 have c0:=(Af hR (Ai r 0 (by omega))).1
 have c1:=(Af hR (Ai r 1 (by omega))).1
 have c2:=(Af hR (Ai r 2 (by omega))).1
 have c3:=(Af hR (Ai r 3 (by omega))).1
 have HR:=Lh hR
 have HM:=Lh hM
 clear hR hM
 have b1:(b:Int)<2:=by omega
 go_enter Tryz.func149,Tryz.ntmps149
 go_wp2_with fail
 go_at_call 102
 refine (HA.out w).mono ?_
 rintro e w1 ⟨rfl,hb1⟩
 have hz1:=hb1.size
 have R1:=Lh ((hb1.block R hlR).trans HR.out)
 have hM1:=(hb1.block M hlM).trans HM.out
 have k0:=(Af hM1 (Ai m 0 (by omega))).1
 have k1:=(Af hM1 (Ai m 1 (by omega))).1
 have k2:=(Af hM1 (Ai m 2 (by omega))).1
 have k3:=(Af hM1 (Ai m 3 (by omega))).1
 have lM1:M<w1.heap.size:=by omega
 have HB1:=Lh hb1
 clear HR HM hM1 HA c0 c1 c2 c3 hb1
 go_wp2_with fail
 go_at_call 134
 refine (HS.out _).mono ?_
 rintro e w2 ⟨rfl,hb2⟩
 have hz2:=hb2.size
 rw[Ae] at hz2
 have hT2:=(hb2.block w1.heap.size (by rw[Ae];omega)).trans (Aj w1 (.cells (An T).toArray 24))
 have hR2:=(hb2.block R (by rw[Ae];omega)).trans ((AQ w1 _ R (by omega)).trans R1.out)
 have j0:=(Af hT2 (Ai T 0 (by omega))).1
 have j1:=(Af hT2 (Ai T 1 (by omega))).1
 have j2:=(Af hT2 (Ai T 2 (by omega))).1
 have j3:=(Af hT2 (Ai T 3 (by omega))).1
 obtain⟨g0,h0⟩:=Af hR2 (Ai r 0 (by omega))
 obtain⟨g1,h1⟩:=Af hR2 (Ai r 1 (by omega))
 obtain⟨g2,h2⟩:=Af hR2 (Ai r 2 (by omega))
 obtain⟨g3,h3⟩:=Af hR2 (Ai r 3 (by omega))
 have hw2:Below w.heap.size w w2:=HB1.out.trans (Below.mono ((Al (Below.refl _ _) _).trans (hb2.mono (by rw[Ae];omega))) (by omega))
 have HR2:=Lh hR2
 have HW2:=Lh hw2
 have lR2:R<w2.heap.size:=by omega
 have l12:w1.heap.size<w2.heap.size:=by omega
 have nR1:R≠w1.heap.size:=by omega
 have nR2:R≠w2.heap.size:=by omega
 clear hb2 hT2 hR2 hw2 HB1 R1 k0 k1 k2 k3 HS
 have hcase:K=1∨(K=0∧Bo=0)∨(K=0∧Bo=1):=by omega
 rcases hcase with rfl | ⟨rfl,rfl⟩ | ⟨rfl,rfl⟩
 ·have HV:=Lh (H6.out (.inl rfl))
  have HE:=Lh (Lt (T:=T) (S:=S) (.cells #[.int .u64 (wd S 0:Int),.int .u64 (wd S 1:Int),.int .u64 (wd S 2:Int),.int .u64 (wd S 3:Int)] 24) lR2 HR2.out HW2.out)
  clear H6 H7 HR2 HW2
  go_wp2_with fail
  go_end0
  rw[← HV.out]
  exact⟨rfl,HE.out.2.2.1,HE.out.2.2.2⟩
 ·have HV:=Lh (H6.out (.inr ⟨rfl,rfl⟩))
  have HE:=Lh (Lt (T:=T) (S:=S) (.cells #[.int .u64 (wd S 0:Int),.int .u64 (wd S 1:Int),.int .u64 (wd S 2:Int),.int .u64 (wd S 3:Int)] 24) lR2 HR2.out HW2.out)
  clear H6 H7 HR2 HW2
  go_wp2_with fail
  go_end0
  rw[← HV.out]
  exact⟨rfl,HE.out.2.2.1,HE.out.2.2.2⟩
 ·have HV:=Lh (H7.out ⟨rfl,rfl⟩)
  have HE:=Lh (Lt (T:=T) (S:=S) (.cells #[.int .u64 (wd S 0:Int),.int .u64 (wd S 1:Int),.int .u64 (wd S 2:Int),.int .u64 (wd S 3:Int)] 24) lR2 HR2.out HW2.out)
  clear H6 H7 HR2 HW2
  go_wp2_with fail
  go_end0
  rw[← HV.out]
  exact⟨rfl,HE.out.1,HE.out.2.1⟩
theorem LQ (a:Nat) (w:World) (ha:a<B64^4) :
    Calls Tryz.prog 148 #[Aa a] w fun e w'=>e=.returned (.bool (decide (a=0)))∧Below w.heap.size w w':=by
 have hz:decide (a=0)=(decide (wd a 0=0) && (decide (wd a 1=0) && (decide (wd a 2=0) && decide (wd a 3=0)))):=by
  by_cases h:a=0
  ·subst h;simp[wd]
  ·rw[decide_eq_false h]
   symm
   rw[Bool.eq_false_iff]
   intro hh
   simp only[Bool.and_eq_true,decide_eq_true_eq] at hh
   obtain⟨h0,h1,h2,h3⟩:=hh
   apply h
   have e0:=EL a 0
   have e1:=EL a 1
   have e2:=EL a 2
   have e3:=EL a 3
   rw[h0] at e0
   rw[h1] at e1
   rw[h2] at e2
   rw[h3,Nat.div_eq_of_lt ha,Nat.zero_mul,Nat.zero_add] at e3
   rw[e3,Nat.zero_mul,Nat.zero_add] at e2
   rw[e2,Nat.zero_mul,Nat.zero_add] at e1
   rw[e1,Nat.zero_mul,Nat.zero_add,Nat.pow_zero,Nat.div_one] at e0
   exact e0
 have HZ:=Lh hz
 clear hz
 unfold Aa
 generalize wd a 0=x0 at *
 generalize wd a 1=x1 at *
 generalize wd a 2=x2 at *
 generalize wd a 3=x3 at *
 have kq:=fun w=>bE w (x0:Int) (x1:Int) (x2:Int) (x3:Int) 0 0 0 0
 go_enter Tryz.func148,Tryz.ntmps148
 go_wp2_with fail
 go_ret
 refine⟨EM ?_,Al (Below.refl _ _) _⟩
 rw[HZ.out]
 have hb:∀ x:Nat,((x:Int) == 0)=decide (x=0):=fun x=>by
  by_cases h:x=0
  ·subst h;rfl
  ·have:¬ (x:Int)=0:=by omega
   simp[h,this]
 rw[← hb,← hb,← hb,← hb]
end Go.Proofs.YtnaldciakclccaaGreat
