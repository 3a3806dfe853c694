/- Lemmas of this proof. -/
import Derived.Great.BuildSlice
import Derived.Laws.CopyRow
import Derived.Laws.BitsAllLaws
import Derived.ProofKit
import Derived.Laws.Rows
import Derived.Defers
import Derived.Test.YtnaldciakclccaaGreatEv13
import Derived.Test.YtnaldciakclccaaGreatEv10
import Derived.Test.YtnaldciakclccaaGreatEv08
import Derived.Test.YtnaldciakclccaaGreatEv01
import Derived.Test.YtnaldciakclccaaGreatEv03
namespace Go.Proofs.YtnaldciakclccaaGreat
set_option maxRecDepth 20000
set_option maxHeartbeats 8000000
set_option linter.unusedSimpArgs false
set_option linter.unusedVariables false
open Go.RowKit Go.Sort
abbrev N4:=Nat × Nat × Nat × Nat
abbrev Pt:=Fp × Fp
def pl4 (a:N4):List Value:=ptL a.1 a.2.1 a.2.2.1 a.2.2.2
def pc4 (a:N4):Array Value:=(pl4 a).toArray
def pv4 (a:N4):Value:=.agg (pc4 a)
def pv3 (a:N3):Value:=rpV a.1 a.2.1 a.2.2
structure Ok4 (a:N4) (p:Pt):Prop where
 x:a.1<PN
 y:a.2.1<PN
 z:a.2.2.1<PN
 t:a.2.2.2<PN
 on:On p
 ext:Ext (fz a.1) (fz a.2.1) (fz a.2.2.1) (fz a.2.2.2) p
structure Ok3 (a:N3) (p:Pt):Prop where
 is:In3 a
 on:On p
 rep:Rep (fz a.1) (fz a.2.1) (fz a.2.2) p
theorem fQ {z:Nat} (h:fz z≠0):0<z:=Nat.pos_of_ne_zero fun e=>h (by rw[e];rfl)
theorem Ok4.pos {a:N4} {p:Pt} (h:Ok4 a p):0<a.2.2.1:=fQ h.ext.1
theorem Oo (a b:Nat) (hb:b<PN):fz ((a+PN-b)%PN)=fz a-fz b:=by rw[Cg,LW a b (Nat.le_of_lt hb)]
theorem F6 (b:Nat) (hb:b<PN):fz ((0+PN-b)%PN) = -fz b:=by
 rw[Oo 0 b hb,cr]
 show (0:Fp)-fz b = -fz b
 grind
theorem md (a:Nat):a%PN<PN:=Nat.mod_lt _ Au
def MX (a b:N4):N4:=(dM dN a.1 a.2.1 a.2.2.1 a.2.2.2 b.1 b.2.1 b.2.2.1 b.2.2.2,bW dN a.1 a.2.1 a.2.2.1 a.2.2.2 b.1 b.2.1 b.2.2.1 b.2.2.2,bj dN a.2.2.1 a.2.2.2 b.2.2.1 b.2.2.2,cY a.1 a.2.1 b.1 b.2.1)
def IX (a:N4):N4:=(bF a.1 a.2.1 a.2.2.1,cP a.1 a.2.1,dI a.1 a.2.1 a.2.2.1,co a.1 a.2.1)
def G9 (a:N4):N4:=((0+PN-a.1)%PN,a.2.1,a.2.2.1,(0+PN-a.2.2.2)%PN)
def Cu:N4:=(0,1,1,0)
def Ih:N4:=(bX,bY,1,bX*bY%PN)
theorem J7:1<PN:=by decide +kernel
theorem J3 (x y:Nat) (p:Pt) (hx:x<PN) (hy:y<PN) (hp:On p) (h1:p.1=fz x) (h2:p.2=fz y):Ok4 (x,y,1,x*y%PN) p:=by
 refine⟨hx,hy,J7,md _,hp,Gm.1,?_,?_,?_⟩
 ·show p.1*fz 1=fz x
  rw[Hf,Lean.Grind.Semiring.mul_one,h1]
 ·show p.2*fz 1=fz y
  rw[Hf,Lean.Grind.Semiring.mul_one,h2]
 ·show p.1*p.2*fz 1=fz (x*y%PN)
  rw[Cg,CB,Hf,Lean.Grind.Semiring.mul_one,h1,h2]
theorem Ft:Ok4 Cu Ci:=J3 0 1 Ci (by decide +kernel) (by decide +kernel) FI rfl rfl
theorem MF:Ok4 Ih BD:=J3 bX bY BD eA TK Dj rfl rfl
theorem Fd {a b:N4} {p q:Pt} (ha:Ok4 a p) (hb:Ok4 b q):Ok4 (MX a b) (Bj p q):=by
 refine⟨md _,md _,md _,md _,Fw p q ha.on hb.on,?_⟩
 have h:=aQ _ _ _ _ _ _ _ _ p q ha.on hb.on ha.ext hb.ext
 simp only[MX,dM,bW,bj,cY,Cg,CB,H9,Oo _ _ (md _)]
 exact h
theorem Ek {a:N4} {p:Pt} (ha:Ok4 a p):Ok4 (IX a) (Bj p p):=by
 refine⟨md _,md _,md _,md _,Fw p p ha.on ha.on,?_⟩
 have h:=Wm _ _ _ _ p ha.on ha.ext
 simp only[IX,bF,cP,dI,co,Cg,CB,H9,Oo _ _ (md _)]
 exact h
theorem Le {a:N4} {p:Pt} (ha:Ok4 a p):Ok4 (G9 a) (Kw p):=by
 refine⟨md _,ha.y,ha.z,md _,JJ p ha.on,?_⟩
 have h:=bM _ _ _ _ p ha.ext
 show Ext (fz ((0+PN-a.1)%PN)) (fz a.2.1) (fz a.2.2.1) (fz ((0+PN-a.2.2.2)%PN)) (Kw p)
 rw[F6 _ ha.x,F6 _ ha.t]
 exact h
theorem Pi {a b:N3} {p q:Pt} (ha:Ok3 a p) (hb:Ok3 b q):Ok3 (MW a b) (Bj p q) :=
 ⟨Jh a b,Fw p q ha.on hb.on,Mx _ _ _ _ _ _ p q ha.on hb.on ha.rep hb.rep⟩
theorem Jj:Ok3 (0,1,1) Ci:=⟨⟨by decide +kernel,by decide +kernel,by decide +kernel⟩,FI,Lw⟩
theorem LU:Ok3 (bX,bY,1) BD:=⟨⟨eA,TK,by decide +kernel⟩,Dj,Gm⟩
def YO (a:N3):N3:=((0+PN-a.1)%PN,a.2.1,a.2.2)
theorem dC {a:N3} {p:Pt} (ha:Ok3 a p):Ok3 (YO a) (Kw p):=by
 refine⟨⟨md _,ha.is.2.1,ha.is.2.2⟩,JJ p ha.on,?_⟩
 obtain⟨n,h1,h2⟩:=ha.rep
 refine⟨n,?_,h2⟩
 show -p.1*fz a.2.2=fz ((0+PN-a.1)%PN)
 rw[F6 _ ha.is.1,← h1]
 exact Lean.Grind.Ring.neg_mul _ _
theorem Uy {q:N3} {p:Pt} (hq:Ok3 q p) (k:Nat) (hk:k<B64^4):∀ m,m≤256→Ok3 (tms k q m) (AB (k/2^(256-m)) p)
 | 0,_=>by
   have e:k/2^(256-0)=0:=by
    rw[Nat.div_eq_zero_iff]
    right
    have:B64^4=2^(256-0):=by decide +kernel
    omega
   rw[e]
   exact Jj
 | m+1,hm=>by
   have ih:=Uy hq k hk m (by omega)
   have e1:k/2^(256-(m+1))=2*(k/2^(256-m))+k/2^(255-m)%2:=by
    rw[show 256-(m+1)=255-m by omega,show 256-m=(255-m)+1 by omega,Nat.pow_succ,← Nat.div_div_eq_div_mul]
    omega
   have hd:=Pi ih ih
   have e2:AB (2*(k/2^(256-m))) p=Bj (AB (k/2^(256-m)) p) (AB (k/2^(256-m)) p):=by
    rw[Nat.two_mul,DX p hq.on]
   unfold tms
   split
   ·rename_i hb
    rw[e1,hb]
    show Ok3 _ (Bj (AB (2*(k/2^(256-m))) p) p)
    rw[e2]
    exact Pi hd hq
   ·rename_i hb
    have hb0:k/2^(255-m)%2=0:=by omega
    rw[e1,hb0,Nat.add_zero,e2]
    exact hd
theorem NP {q:N3} {p:Pt} (hq:Ok3 q p) (k:Nat) (hk:k<B64^4):Ok3 (tms k q 256) (AB k p):=by
 have h:=Uy hq k hk 256 (Nat.le_refl _)
 rw[Nat.sub_self,Nat.pow_zero,Nat.div_one] at h
 exact h
theorem Zt (z:Nat) (hz:z<PN):fz (IV z)=inv (fz z):=by
 unfold IV inv
 rw[Cg,DO,Nat.mod_eq_of_lt hz]
theorem UP (x y z:Nat) (p:Pt) (hz:z<PN) (h:Rep (fz x) (fz y) (fz z) p):x*IV z%PN=p.1.val∧y*IV z%PN=p.2.val:=by
 obtain⟨h1,h2⟩:=fA _ _ _ p h
 constructor
 ·have e:fz (x*IV z%PN)=p.1:=by rw[Cg,CB,Zt z hz,h1]
  rw[← e,DO,Nat.mod_mod]
 ·have e:fz (y*IV z%PN)=p.2:=by rw[Cg,CB,Zt z hz,h2]
  rw[← e,DO,Nat.mod_mod]
theorem Zj (a b:Nat):a%PN=b%PN↔fz a=fz b:=⟨fun h=>by rw[← Cg a,h,Cg],fun h=>by have:=congrArg Fin.val h;exact this⟩
theorem Cf (a:N4):(pc4 a).all (·.oneCell')=true:=G6 _ _ _ _
theorem TY (a:N4) (W:World):(Instr.box 39 (pv4 a)).run Tryz.prog W=.ok (.pointer (some ⟨W.heap.size,0,none⟩)) (W.alloc (.cells (pc4 a) 39 (0,0))):=L8 _ _ _ _ W
theorem Ik (w:World):Calls Tryz.prog 27 #[] w fun E w'=>E=.returned (pv4 Cu)∧Below w.heap.size w w':=Qk w
theorem N8 (w:World):Calls Tryz.prog 96 #[] w fun E w'=>E=.returned (pv4 Ih)∧Below w.heap.size w w':=XI w
theorem Ip {a b:N4} {p q:Pt} (ha:Ok4 a p) (hb:Ok4 b q) (w:World):Calls Tryz.prog 157 #[Aa dN,pv4 a,pv4 b] w fun E w'=>E=.returned (pv4 (MX a b))∧Below w.heap.size w w' :=
 Ov dN _ _ _ _ _ _ _ _ U8.2 ha.x ha.y ha.z ha.t hb.x hb.y hb.z hb.t ha.pos hb.pos w
theorem F9 {a:N4} {p:Pt} (ha:Ok4 a p) (w:World):Calls Tryz.prog 161 #[pv4 a] w fun E w'=>E=.returned (pv4 (IX a))∧Below w.heap.size w w' :=
 Tl _ _ _ _ ha.x ha.y ha.z ha.t ha.pos w
theorem Xy {a:N4} {p:Pt} (ha:Ok4 a p) (w:World):Calls Tryz.prog 35 #[pv4 a] w fun E w'=>E=.returned (pv4 (G9 a))∧Below w.heap.size w w' :=
 aM _ _ _ _ ha.x ha.y ha.z ha.t ha.pos w
theorem jh {a:N4} {p:Pt} (ha:Ok4 a p) (w:World):Calls Tryz.prog 92 #[pv4 a] w fun E w'=>E=.returned (.tuple #[Aa p.1.val,Aa p.2.val])∧Below w.heap.size w w':=by
 have h:=fJ _ _ _ _ ha.x ha.y ha.z ha.t ha.pos w
 rw[(UP _ _ _ p ha.z ha.ext.rep).1,(UP _ _ _ p ha.z ha.ext.rep).2] at h
 exact h
theorem jc {a:N3} {p:Pt} (ha:Ok3 a p) (w:World):Calls Tryz.prog 64 #[pv3 a] w fun E w'=>E=.returned (.tuple #[Aa p.1.val,Aa p.2.val])∧Below w.heap.size w w':=by
 have h:=dH _ _ _ ha.is.1 ha.is.2.1 ha.is.2.2 w
 rw[(UP _ _ _ p ha.is.2.2 ha.rep).1,(UP _ _ _ p ha.is.2.2 ha.rep).2] at h
 exact h
theorem Df {P:Program} {o:Oper} {A:Act} {t:TypeId} {x:Operand} {b:Bool} (W:World) (ho:o.op=.unOp .not t x) (hx:A.eval x=.bool b) {c:Bool} (hc:(!b)=c):(execOp A.eval o).run P W=.ok (.value (.bool c)) W:=by
 subst hc
 unfold execOp
 simp only[ho,hx]
 rfl
theorem O9 {P:Program} {o:Oper} {A:Act} {t t':TypeId} {x y:Operand} {k:IntKind} {m n:Int} (W:World) (ho:o.op=.binOp .eql t x y t') (hx:A.eval x=.int k m) (hy:A.eval y=.int k n) {c:Bool} (hc:(m == n)=c):(execOp A.eval o).run P W=.ok (.value (.bool c)) W:=by
 subst hc
 unfold execOp
 simp only[ho,hx,hy]
 simp[eqGuard,binOp,Op.intCmp,Sem.run_bind]
theorem Cl {P:Program} {o:Oper} {A:Act} {t t':TypeId} {x y:Operand} {k:IntKind} {m n:Int} (W:World) (ho:o.op=.binOp .neq t x y t') (hx:A.eval x=.int k m) (hy:A.eval y=.int k n) {c:Bool} (hc:(!(m == n))=c):(execOp A.eval o).run P W=.ok (.value (.bool c)) W:=by
 subst hc
 unfold execOp
 simp only[ho,hx,hy]
 simp[eqGuard,binOp,Op.intCmp,Sem.run_bind]
 rfl
theorem NC {P:Program} {o:Oper} {A:Act} {t t':TypeId} {x:Operand} {u v:Value} {W W':World} (ho:o.op=.convert t t' x) (hx:A.eval x=u) (h:(convert t t' u).run P W=.ok v W'):(execOp A.eval o).run P W=.ok (.value v) W':=by
 unfold execOp
 simp only[ho,hx,Sem.run_bind,h,Result.andThen_ok]
 rfl
section
variable {α:Type} [Lean.Grind.CommRing α]
theorem db (A B d x y:α) (h:d*A = -B):A-B*(x*x)*(y*y)=(1+d*(x*x)*(y*y))*A:=by grind
theorem aJ (A b:α):A*b=b*A:=by grind
end
theorem jn:dF*fz 121666 = -(fz 121665):=by
 have h1:fz (dN*121666)=fz (PN-121665):=by rw[← Cg,U8.1,Cg]
 rw[CB] at h1
 show fz dN*fz 121666 = -(fz 121665)
 rw[h1,← F6 121665 (by decide +kernel),Cg]
 congr 1
theorem Zc:fz 121666≠0:=fun e=>absurd ((FD 121666).1 e) (by decide +kernel)
theorem Xm (X Y:Nat):Ru X Y=true↔On (fz X,fz Y):=by
 unfold Ru On
 rw[decide_eq_true_eq]
 have e:∀ a b:Nat,(a%PN=b%PN)=(fz a=fz b):=fun a b=>propext (Zj a b)
 rw[e]
 simp only[Cg,CB,LW _ _ (Nat.le_of_lt (md _))]
 rw[db _ _ _ _ _ jn,aJ]
 constructor
 ·intro h
  exact Gu _ _ _ Zc h
 ·intro h
  rw[show fz Y*fz Y-fz X*fz X=1+dF*(fz X*fz X)*(fz Y*fz Y) from h]
theorem MJ (X Y:Nat) (hX:X<PN) (hY:Y<PN) (h:On (fz X,fz Y)) (w:World):Calls Tryz.prog 33 #[Aa X,Aa Y] w fun E w'=>E=.returned (.tuple #[pv4 (X,Y,1,X*Y%PN),.int .i64 0])∧Below w.heap.size w w':=by
 have hc:=Zu X Y hX hY w
 rw[TJ,(Xm X Y).2 h] at hc
 exact hc
theorem GM (Y:Nat) (w:World) (hY:Y<PN):Calls Tryz.prog 32 #[Aa Y] w fun E w'=>E=.returned (.tuple #[Aa (Bu iV (sqR Y)),.bool (okN iV (sqR Y))])∧Below w.heap.size w w':=by
 have HMIX:=Lh (show Tryz.prog.follows .mixedOrders=true by kernel_rfl)
 go_enter Tryz.func32,Tryz.ntmps32
 have hM0:=Mem.start w
 (go_step;go_step;refine wp_region_lit ?_)
 refine At hM0 (ob:=.cells (elR Y) 36 (0,0)) (fun W=>AK rfl rfl (Ro Y W)) rfl fun b1 W1 hM1=>?_
 simp only[nmA]
 refine At hM1 (ob:=.cells z4 36 (0,0)) (fun W=>Ab rfl (Bk W)) rfl fun b2 W2 hM2=>?_
 simp only[nmA]
 refine Ad (.bool false) ?_
 simp only[nmA]
 refine wpList_nil ?_
 ((iterate 3 go_step);refine Ak 7 HMIX.out (by decide) (by kernel_rfl) (by kernel_rfl) ?_)
 refine Am (args:=#[.int .u64 1]) (v:=Aa 1) (rcf (enters_of Tryz.func34 rfl rfl)) (fun W _=>Cq 1 (by decide) W) rfl rfl ?_;simp only[nmA]
 refine Ao hM2 1 (v:=Aa Y) rfl rfl rfl rfl Aw rfl rfl ?_;simp only[nmA]
 refine Ao hM2 1 (v:=Aa Y) rfl rfl rfl rfl Aw rfl rfl ?_;simp only[nmA]
 refine AX (n:=2) (L:=elR Y++elR Y) (T:=36) (fun W=>Ax rfl (by simp[Act.eval]) (bs2 Y Y W)) rfl rfl ?_;simp only[List.nil_append,List.cons_append]
 obtain⟨v1,ev1⟩:=exza (Y*Y%PN)
 have pv1:v1<PN:=by rw[ev1];exact Nat.mod_lt _ Au
 have Kv1:=Ck Y Y hY hY
 rw[← ev1] at Kv1
 refine A9 3 10 (v:=Aa v1) rfl rfl (fun _=>rfl) (fun b W=>AR W (enters_of Tryz.func76 rfl rfl) rfl (by simp[Act.eval,Act.put])) (fun b W h=>Kv1 b W h) ?_;simp only[nmA]
 refine Ce (.cells z4 36 (0,0)) rfl rfl (fun A W=>Ab rfl (Bk W)) ?_;simp only[List.nil_append,List.cons_append]
 refine Ce (.cells z4 36 (0,0)) rfl rfl (fun A W=>Ab rfl (Bk W)) ?_;simp only[List.nil_append,List.cons_append]
 refine AO fun d os=>?_
 refine Bb (t:=10) rfl fun s3=>?_
 refine Bm (t:=4) rfl fun b3 lb3 gb3=>?_
 refine Bm (t:=5) rfl fun b4 lb4 gb4=>?_
 refine Az fun hap=>?_
 simp only[nmA] at hap ⊢
 have nb3b4:b3≠b4:=hap.ne 5 6 rfl rfl rfl rfl rfl rfl rfl
 have hM3:=hM2.news2 (below_regrown W2 d os) lb3 gb3 lb4 gb4 nb3b4
 clear hap lb3 gb3 lb4 gb4 nb3b4
 generalize grow (redrawn W2 d) os=W3 at hM3 ⊢
 change wpAny _ _ _ _ 2 _ _ _
 refine A7 (n:=7) (by kernel_rfl) rfl hM3 0 (cs:=(elR 1)) rfl rfl rfl rfl Aw rfl (Ay 1) rfl rfl fun W4 hM4=>?_
 simp only[nm2,nm3] at hM4
 refine A7 (n:=8) (by kernel_rfl) rfl hM4 1 (cs:=(elR v1)) rfl rfl rfl rfl Aw rfl (Ay v1) rfl rfl fun W5 hM5=>?_
 simp only[nm2,nm3] at hM5
 refine wpAny_done (by kernel_rfl) ?_ _
 ((iterate 3 go_step);refine Ak 8 HMIX.out (by decide) (by kernel_rfl) (by kernel_rfl) ?_)
 refine Am (args:=#[]) (v:=Aa dN) (rcf (enters_of Tryz.func78 rfl rfl)) (fun W _=>MQ W) rfl rfl ?_;simp only[nmA]
 refine Ao hM5 1 (v:=Aa v1) rfl rfl rfl rfl Aw rfl rfl ?_;simp only[nmA]
 refine AX (n:=2) (L:=elR dN++elR v1) (T:=36) (fun W=>Ax rfl (by simp[Act.eval]) (bs2 dN v1 W)) rfl rfl ?_;simp only[List.nil_append,List.cons_append]
 obtain⟨v2,ev2⟩:=exza (dN*v1%PN)
 have pv2:v2<PN:=by rw[ev2];exact Nat.mod_lt _ Au
 have Kv2:=Ck dN v1 U8.2 pv1
 rw[← ev2] at Kv2
 refine A9 2 14 (v:=Aa v2) rfl rfl (fun _=>rfl) (fun b W=>AR W (enters_of Tryz.func76 rfl rfl) rfl (by simp[Act.eval,Act.put])) (fun b W h=>Kv2 b W h) ?_;simp only[nmA]
 refine Ao hM5 0 (v:=Aa 1) rfl rfl rfl rfl Aw rfl rfl ?_;simp only[nmA]
 refine AX (n:=2) (L:=elR v2++elR 1) (T:=36) (fun W=>Ax rfl (by simp[Act.eval]) (bs2 v2 1 W)) rfl rfl ?_;simp only[List.nil_append,List.cons_append]
 obtain⟨v3,ev3⟩:=exza ((v2+1)%PN)
 have pv3:v3<PN:=by rw[ev3];exact Nat.mod_lt _ Au
 have Kv3:=Ee v2 1 pv2 (by decide +kernel)
 rw[← ev3] at Kv3
 refine A9 5 17 (v:=Aa v3) rfl rfl (fun _=>rfl) (fun b W=>AR W (enters_of Tryz.func77 rfl rfl) rfl (by simp[Act.eval,Act.put])) (fun b W h=>Kv3 b W h) ?_;simp only[nmA]
 refine Ce (.cells z4 36 (0,0)) rfl rfl (fun A W=>Ab rfl (Bk W)) ?_;simp only[List.nil_append,List.cons_append]
 refine AO fun d os=>?_
 refine Bb (t:=14) rfl fun s2=>?_
 refine Bb (t:=17) rfl fun s5=>?_
 refine Bm (t:=6) rfl fun b5 lb5 gb5=>?_
 refine Az fun hap=>?_
 simp only[nmA] at hap ⊢
 have hM6:=hM5.news1 (below_regrown W5 d os) lb5 gb5 
 clear hap lb5 gb5
 generalize grow (redrawn W5 d) os=W6 at hM6 ⊢
 change wpAny _ _ _ _ 1 _ _ _
 refine A7 (n:=8) (by kernel_rfl) rfl hM6 0 (cs:=(elR v3)) rfl rfl rfl rfl Aw rfl (Ay v3) rfl rfl fun W7 hM7=>?_
 simp only[nm2,nm3] at hM7
 refine wpAny_done (by kernel_rfl) ?_ _
 ((iterate 3 go_step);refine IL 10 9 rfl rfl (Id rfl) (by kernel_rfl) (by decide) HMIX.out (by decide) (by kernel_rfl) (by kernel_rfl) ?_)
 refine Ao hM7 2 (v:=Aa v1) rfl rfl rfl rfl Aw rfl rfl ?_;simp only[nmA]
 refine Ao hM7 1 (v:=Aa 1) rfl rfl rfl rfl Aw rfl rfl ?_;simp only[nmA]
 obtain⟨v4,ev4⟩:=exza ((v1+PN-1)%PN)
 have pv4:v4<PN:=by rw[ev4];exact Nat.mod_lt _ Au
 have Kv4:=fun W=>Ex v1 1 W pv1 (by decide +kernel)
 simp only[← ev4] at Kv4
 refine Am (args:=#[Aa v1,Aa 1]) (v:=Aa v4) (rcf (enters_of Tryz.func80 rfl rfl)) (fun W _=>Kv4 W) rfl rfl ?_;simp only[nmA]
 refine Ao hM7 0 (v:=Aa v3) rfl rfl rfl rfl Aw rfl rfl ?_;simp only[nmA]
 obtain⟨v5,ev5⟩:=exza (IV v3)
 have pv5:v5<PN:=by rw[ev5];exact Mv _
 have Kv5:=fun W=>Nf v3 W pv3
 simp only[← ev5] at Kv5
 refine Am (args:=#[Aa v3]) (v:=Aa v5) (rcf (enters_of Tryz.func81 rfl rfl)) (fun W _=>Kv5 W) rfl rfl ?_;simp only[nmA]
 refine AX (n:=2) (L:=elR v4++elR v5) (T:=36) (fun W=>Ax rfl (by simp[Act.eval]) (bs2 v4 v5 W)) rfl rfl ?_;simp only[List.nil_append,List.cons_append]
 obtain⟨v6,ev6⟩:=exza (v4*v5%PN)
 have pv6:v6<PN:=by rw[ev6];exact Nat.mod_lt _ Au
 have Kv6:=Ck v4 v5 pv4 pv5
 rw[← ev6] at Kv6
 refine A9 5 24 (v:=Aa v6) rfl rfl (fun _=>rfl) (fun b W=>AR W (enters_of Tryz.func76 rfl rfl) rfl (by simp[Act.eval,Act.put])) (fun b W h=>Kv6 b W h) ?_;simp only[nmA]
 obtain⟨v7,ev7⟩:=exza (Bu iV v6)
 have pv7:v7<PN:=by rw[ev7];exact BI _
 have Kv7:=fun W=>X6 v6 W pv6
 simp only[← ev7] at Kv7
 obtain⟨ok1,eok1⟩:=exza (okN iV v6)
 simp only[← eok1] at Kv7
 refine Am (args:=#[Aa v6]) (v:=.tuple #[Aa v7,.bool ok1]) (rcf (enters_of Tryz.func79 rfl rfl)) (fun W _=>Kv7 W) rfl rfl ?_;simp only[nmA]
 refine AM (Aa v7) ?_;simp only[nmA]
 refine AM (.bool ok1) ?_;simp only[nmA]
 refine AO fun d os=>?_
 refine Bb (t:=24) rfl fun s5=>?_
 refine Az fun hap=>?_
 simp only[nmA] at hap ⊢
 have hM8:=hM7.calls (below_regrown W7 d os)
 clear hap 
 generalize grow (redrawn W7 d) os=W8 at hM8 ⊢
 change wpAny _ _ _ _ 2 _ _ _
 refine A7 (n:=10) (by kernel_rfl) rfl hM8 3 (cs:=(elR v7)) rfl rfl rfl rfl Aw rfl (Ay v7) rfl rfl fun W9 hM9=>?_
 simp only[nm2,nm3] at hM9
 refine QZ (n:=11) (v:=.bool ok1) (by kernel_rfl) rfl (fun _=>rfl) rfl rfl ?_
 simp only[nmA]
 refine wpAny_done (by kernel_rfl) ?_ _
 refine NoPanic.normal ?_
 ((iterate 3 go_step);refine bodyPost_ret (v:=.tuple #[Aa v7,.bool ok1]) (AC Tryz.results32 rfl rfl (hM9.load 3 rfl Aw)) rfl ⟨?_,hM9.below⟩)
 exact by rw[eok1,ev7,ev6,ev5,ev4,ev3,ev2,ev1];unfold sqR;rfl
def Di (P:Program) (ty:TypeId):Prop:=(∃ d,P.underlying ty=some d∧(match d with | .struct _ | .array _ _=>false | _=>true)=true)∧(P.info? ty).map (·.size)=some 1
section
variable {P:Program} {w w0 w00:World} {M:List Blk} {o:Oper} {A:Act}
theorem Ca {f:FuncId} {x:Operand} {args:Array Operand} {tys:Array TypeId} {vals first cap all:Array Value} (W:World) (hE:Enters P f) (ho:o.op=.call { callee:=.value x,args:=args,argTypes:=tys }) (hx:A.eval x=.func (.func f) first cap) (hv:args.map A.eval=vals) (ha:first++vals++cap=all):(execOp A.eval o).run P W=.ok (.enter f all) W:=by
 have h:=hE all W
 unfold execOp
 simp[ho,resolve,Deferred.ofValue,hx,invoke,hv]
 rw[← Array.append_assoc,ha,h]
theorem Bs {fn:Fn} {first cap:Array Operand} {v:Value} {W W':World} (ho:o.op=.makeFunc fn first cap) (h:(Instr.makeFunc fn (first.map A.eval) (cap.map A.eval)).run P W=.ok v W'):(execOp A.eval o).run P W=.ok (.value v) W':=by
 unfold execOp
 simp only[ho,Sem.run_bind,h,Result.andThen_ok]
 rfl
theorem FK {b off:Nat} {cs:Array Value} {v:Value} {t:TypeId} {fr:Nat × Nat} (hi:w.heap[b]?=some (.cells cs t fr)) (hv:cs[off]?=some v) {ty:TypeId} (hT:Di P ty):(loadVar ty ⟨b,off,none⟩).run P w=.ok v w:=by
 obtain⟨⟨d,hu,hd⟩,_⟩:=hT
 have hagg:(isAgg ty).run P w=.ok false w:=by
  unfold isAgg
  rw[Sem.run_bind,run_underlying hu w]
  cases d <;> first | rfl | cases hd
 have hc:w.cell? ⟨b,off,none⟩=some v:=by rw[cell_of_row w b off cs t fr hi,hv]
 unfold loadVar
 rw[Sem.run_bind,hagg]
 simp[hc]
theorem CR {ty:TypeId} {x:Operand} {b off:Nat} {t:TypeId} {cs:Array Value} {v:Value} {fr:Nat × Nat} (ho:o.op=.load ty x) (hx:A.eval x=.pointer (some ⟨b,off,none⟩)) (hg:w.heap[b]?=some (.cells cs t fr)) (hv:cs[off]?=some v) (hT:Di P ty) :
    (execOp A.eval o).run P w=.ok (.value v) w:=by
 unfold execOp
 simp only[ho,hx,Instr.loadAt,Instr.sureAddr,Sem.run_bind,Sem.run_pure,Result.andThen_ok,FK hg hv hT]
theorem OO {b off:Nat} {cs:Array Value} {v:Value} {t ty:TypeId} (hg:w.heap[b]?=some (.cells cs t (0,0))) (hl:off<cs.size) (hT:Di P ty) (h1:v.oneCell'=true):(storeVar ty ⟨b,off,none⟩ v).run P w=.ok () (w.setRow b (cs.setIfInBounds off v)):=by
 have h:=run_storeCells_at (P:=P) b off t [v] 0 cs w hg (by simp only[List.length_singleton];omega) (fun x hx=>by simp at hx;subst hx;exact h1)
 have hc:v.cells=#[v]:=by cases v <;> first | rfl | cases h1
 obtain⟨_,hi⟩:=hT
 cases hq:P.info? ty with
 | none=>simp[hq] at hi
 | some i =>
   have hs:i.size=1:=by simpa [hq] using hi
   simp[storeVar,hc,sizeOf,typeInfo,hq,hs,Sem.run_bind]
   rw[h]
   congr 2
   refine Array.ext' ?_
   rw[Array.toList_setIfInBounds,List.set_eq_take_append_cons_drop,if_pos (by simpa using hl)]
   simp
end
section
variable {P:Program} {ops:Array Oper} {w w0 w00:World} {Q:Exit→Act→World→Prop} {Qw:Act→World→Prop} {o:Oper} {rest:List Oper} {A:Act} {M:List Blk} {k:Nat} {Ps:List PkW} {ns:List Nat} {md:Region.Mode} {fuel:Nat} {listed:Array Bool} {S:World→Prop}
theorem Bc (hM:Mem w0 M w) (i:Nat) {ty:TypeId} {x:Operand} {b off:Nat} {t:TypeId} {cs:Array Value} {fr:Nat × Nat} {v:Value} (ho:o.op=.load ty x) (hx:A.eval x=.pointer (some ⟨b,off,none⟩)) (hi:M[i]?=some (b,.cells cs t fr)) (hv:cs[off]?=some v) (hT:Di P ty)
    (hgd:Region.wanted o (yielded ops A.tmps)=true) (hr:wpList P ops Q rest (A.put o.dst v) w):wpList P ops Q (o::rest) A w:=by
 refine wpList_step fun K hK=>?_
 rw[if_pos hgd]
 unfold Oper.wp
 rw[CR ho hx (hM.get i hi) hv hT]
 exact hK _ _ hr
theorem Cv (hM:Mem w00 M w0) (i:Nat) {ty:TypeId} {x:Operand} {b off:Nat} {t:TypeId} {cs:Array Value} {fr:Nat × Nat} {v:Value} (ho:o.op=.load ty x) (hx:A.eval x=.pointer (some ⟨b,off,none⟩)) (hi:M[i]?=some (b,.cells cs t fr)) (hv:cs[off]?=some v) (hT:Di P ty)
    (hf:Ps.filter (BZ ops o)=[]) (hw:Region.wanted o (yielded ops A.tmps)=true) (hr:BO P ops w0 Qw rest (k+1) (A.put o.dst v) Ps ns):BO P ops w0 Qw (o::rest) k A Ps ns :=
 Bp hf hw (fun d os=>CR ho hx ((hM.calls (below_regrown w0 d os)).get i hi) hv hT) hr
theorem K6 (n:Nat) (d:Tmp) {v:Value} {ty:TypeId} {x:Operand} {b off:Nat} {t:TypeId} {cs:Array Value} {fr:Nat × Nat} (L:Array Bool) (hL:listed.setIfInBounds n true=L) (hn:ops[n]?=some o) (hdd:o.dst=some d) (ho:o.op=.load ty x) (hx:A.eval x=.pointer (some ⟨b,off,none⟩)) (hg:∀ W,S W→W.heap[b]?=some (.cells cs t fr)) (hv:cs[off]?=some v) (hT:Di P ty) (hs:Region.noSelect ops=true) (hf:Region.free md ops listed n=true) (hr:(Region.ready md ops listed).contains n=true) (hw:Region.wanted o (yielded ops A.tmps)=true) (hS:S w)
    (h:wpAnyH P md ops (NoPanic Q) S fuel L (A.put (some d) v) w):wpAnyH P md ops (NoPanic Q) S (fuel+1) listed A w :=
 Dm n d L hL hn hdd hs hf hr hw (fun W hW=>CR ho hx (hg W hW) hv hT) hS h
theorem MI (hM:Mem w0 M w) (i:Nat) {K:Act→World→Prop} {ty:TypeId} {x y:Operand} {b off:Nat} {t:TypeId} {cs cs':Array Value} {v:Value} (ho:o.op=.store ty x y) (hx:A.eval x=.pointer (some ⟨b,off,none⟩)) (hy:A.eval y=v) (hi:M[i]?=some (b,.cells cs t (0,0))) (hl:off<cs.size) (hc:cs.setIfInBounds off v=cs') (hT:Di P ty) (h1:v.oneCell'=true)
    (hr:∀ W,Mem w0 (M.set i (b,.cells cs' t (0,0))) W→K (A.put o.dst undef) W):o.wp P A w K Q:=by
 subst hc
 unfold Oper.wp execOp
 simp only[ho,hx,hy,Instr.storeAt,Instr.sureAddr,Sem.run_bind,Sem.run_pure,Result.andThen_ok,OO (hM.get i hi) hl hT h1]
 exact hr _ (hM.set i hi)
theorem Ba (hM:Mem w0 M w) (i:Nat) {ty:TypeId} {x y:Operand} {b off:Nat} {t:TypeId} {cs cs':Array Value} {v:Value} (ho:o.op=.store ty x y) (hx:A.eval x=.pointer (some ⟨b,off,none⟩)) (hy:A.eval y=v) (hi:M[i]?=some (b,.cells cs t (0,0))) (hl:off<cs.size) (hc:cs.setIfInBounds off v=cs') (hT:Di P ty) (h1:v.oneCell'=true)
    (hgd:Region.wanted o (yielded ops A.tmps)=true) (hd:o.dst=none) (hr:∀ W,Mem w0 (M.set i (b,.cells cs' t (0,0))) W→wpList P ops Q rest A W):wpList P ops Q (o::rest) A w:=by
 refine wpList_step fun K hK=>?_
 rw[if_pos hgd]
 refine MI hM i ho hx hy hi hl hc hT h1 fun W hW=>?_
 rw[hd]
 exact hK _ _ (hr W hW)
theorem Et {n:Nat} (hr:Region.ready md ops listed=[n]) (hn:ops[n]?=some o) (hM:Mem w0 M w) (i:Nat) {ty:TypeId} {x y:Operand} {b off:Nat} {t:TypeId} {cs cs':Array Value} {v:Value} (ho:o.op=.store ty x y) (hx:A.eval x=.pointer (some ⟨b,off,none⟩)) (hy:A.eval y=v) (hi:M[i]?=some (b,.cells cs t (0,0))) (hl:off<cs.size) (hc:cs.setIfInBounds off v=cs') (hT:Di P ty) (h1:v.oneCell'=true)
    (hgd:o.guard=none) (hd:o.dst=none) (hk:∀ W,Mem w0 (M.set i (b,.cells cs' t (0,0))) W→wpAny P md ops Q fuel (listed.setIfInBounds n true) A W):wpAny P md ops Q (fuel+1) listed A w :=
 Ej hr hn fun K hK=>by
  rw[if_pos (by simp[Region.wanted,hgd])]
  refine MI hM i ho hx hy hi hl hc hT h1 fun W hW=>?_
  rw[hd]
  exact hK _ _ (hk W hW)
theorem Jw {n:Nat} (L:Array Bool) (hL:listed.setIfInBounds n true=L) (hr:Region.ready md ops listed=[n]) (hn:ops[n]?=some o) (hM:Mem w0 M w) (i:Nat) {ty:TypeId} {x y:Operand} {b off:Nat} {t:TypeId} {cs cs':Array Value} {v:Value} (ho:o.op=.store ty x y) (hx:A.eval x=.pointer (some ⟨b,off,none⟩)) (hy:A.eval y=v) (hi:M[i]?=some (b,.cells cs t (0,0))) (hl:off<cs.size) (hc:cs.setIfInBounds off v=cs') (hT:Di P ty) (h1:v.oneCell'=true)
    (hgd:o.guard=none) (hd:o.dst=none) (hSW:∀ W,Mem w0 (M.set i (b,.cells cs' t (0,0))) W→S W) (hk:∀ W,Mem w0 (M.set i (b,.cells cs' t (0,0))) W→wpAnyH P md ops Q S fuel L A W):wpAnyH P md ops Q S (fuel+1) listed A w :=
 wpAnyH_ready hr (by simp) fun j hj=>by
  obtain rfl:j=n:=by simpa using hj
  unfold wpOp
  simp only[hn]
  rw[if_pos (by simp[Region.wanted,hgd])]
  refine .inl (MI hM i ho hx hy hi hl hc hT h1 fun W hW=>?_)
  rw[hd,hL]
  exact⟨hSW W hW,hk W hW⟩
end
theorem BN:Di Tryz.prog 22:=⟨⟨_,Tryz.underlying22,rfl⟩,by kernel_rfl⟩
theorem iZ (a:Nat) (h:a<9223372036854775808) (x y:Operand) (W:World):(do eqGuard .or 22 x y (.int .u64 (a:Int)) (.int .u64 9223372036854775808);binOp .or 22 (.int .u64 (a:Int)) (.int .u64 9223372036854775808):Sem Value).run Tryz.prog W=.ok (.int .u64 ((a+9223372036854775808:Nat):Int)) W:=by
 have e:bits .or .u64 (a:Int) 9223372036854775808=((a+9223372036854775808:Nat):Int):=by
  have h1:=u64_or_nat a 9223372036854775808 (by omega) (by omega)
  have h2:=Nat.two_pow_add_eq_or_of_lt (i:=63) (b:=a) (by omega) 1
  have h3:a ||| 9223372036854775808=a+9223372036854775808:=by
   rw[Nat.or_comm,Nat.add_comm]
   exact h2.symm
  rw[h3] at h1
  exact h1
 go_simp
theorem HU (a:Nat) (h:a<18446744073709551616) (x y:Operand) (W:World):(do eqGuard .andNot 22 x y (.int .u64 (a:Int)) (.int .u64 9223372036854775808);binOp .andNot 22 (.int .u64 (a:Int)) (.int .u64 9223372036854775808):Sem Value).run Tryz.prog W=.ok (.int .u64 ((a%9223372036854775808:Nat):Int)) W:=by
 have e:bits .andNot .u64 (a:Int) 9223372036854775808=((a%9223372036854775808:Nat):Int):=by
  have h1:=u64_andNot_nat a 9223372036854775808 (by omega) (by omega)
  have h2:a &&& 9223372036854775807=a%9223372036854775808:=Nat.and_two_pow_sub_one_eq_mod a 63
  rw[show (18446744073709551615-9223372036854775808:Nat)=9223372036854775807 from rfl,h2] at h1
  exact h1
 go_simp
theorem YT (n:Nat) (hn:n<PN):wd n 3<9223372036854775808:=by
 have h:n<9223372036854775808*B64^3:=Nat.lt_trans hn (by decide +kernel)
 unfold wd
 exact Nat.lt_of_le_of_lt (Nat.mod_le _ _) (Nat.div_lt_of_lt_mul (by rw[Nat.mul_comm];exact h))
theorem cd (n:Nat) (hn:n<PN):(elR n).setIfInBounds 3 (.int .u64 ((wd n 3+9223372036854775808:Nat):Int))=elR (n+9223372036854775808*B64^3):=by
 have hB:0<B64:=by decide
 have e0:wd (n+9223372036854775808*B64^3) 0=wd n 0:=by
  unfold wd
  rw[Nat.pow_zero,Nat.div_one,Nat.div_one,show 9223372036854775808*B64^3=(9223372036854775808*B64^2)*B64 by decide +kernel,Nat.add_mul_mod_self_right]
 have e1:wd (n+9223372036854775808*B64^3) 1=wd n 1:=by
  unfold wd
  rw[show 9223372036854775808*B64^3=(9223372036854775808*B64*B64)*B64^1 by decide +kernel,Nat.add_mul_div_right _ _ (by decide),Nat.add_mul_mod_self_right]
 have e2:wd (n+9223372036854775808*B64^3) 2=wd n 2:=by
  unfold wd
  rw[show 9223372036854775808*B64^3=(9223372036854775808*B64)*B64^2 by decide +kernel,Nat.add_mul_div_right _ _ (by decide +kernel),Nat.add_mul_mod_self_right]
 have e3:wd (n+9223372036854775808*B64^3) 3=wd n 3+9223372036854775808:=by
  have hl:=YT n hn
  unfold wd at hl ⊢
  rw[Nat.add_mul_div_right _ _ (by decide +kernel)]
  have hd:n/B64^3<9223372036854775808:=Nat.div_lt_of_lt_mul (by rw[Nat.mul_comm];exact Nat.lt_trans hn (by decide +kernel))
  rw[Nat.mod_eq_of_lt (Nat.lt_trans hd (by decide))] at hl ⊢
  obtain⟨q,hq⟩:=exzb (n/B64^3)
  rw[hq] at hd ⊢
  exact Nat.mod_eq_of_lt (by have hB2:B64=18446744073709551616:=rfl;omega)
 unfold elR
 rw[e0,e1,e2,e3]
 rfl
section
variable {α:Type} [Lean.Grind.CommRing α]
theorem gu (a:α) (h:a+1=0):(-1:α)=a:=by grind
theorem VN (d y:α) (h:y=0):d*(y*y)+1=1:=by grind
theorem Ue (x y d:α):(y*y-x*x=1+d*(x*x)*(y*y))↔(x*x)*(d*(y*y)+1)=y*y-1:=⟨fun h=>by grind,fun h=>by grind⟩
theorem ZP (a b c:α) (h:c*b=1):a*b*c=a:=by grind
theorem fU (a b:α) (h:a*a=b*b):(a-b)*(a+b)=0:=by grind
theorem fG (a b:α) (h:a-b=0):a=b:=by grind
theorem e8 (a b:α) (h:a+b=0):a = -b:=by grind
theorem YX (a b:α) (h:a = -b) : -a=b:=by grind
end
theorem RL (y:Fp):dF*(y*y)+1≠0:=fun h=>by
 have h1:iF*iF=dF*(y*y):=by rw[ej];exact gu _ h
 have h2:=eo iF y h1
 rw[VN dF y h2] at h
 exact absurd h (by decide +kernel)
theorem ZS (Y:Nat):fz (sqR Y)*(dF*(fz Y*fz Y)+1)=fz Y*fz Y-1:=by
 have hu:fz ((dN*(Y*Y%PN)%PN+1)%PN)=dF*(fz Y*fz Y)+1:=by
  rw[Cg,H9,Cg,CB,Cg,CB,Hf]
 have hn:fz ((Y*Y%PN+PN-1)%PN)=fz Y*fz Y-1:=by
  rw[Cg,LW _ _ (Nat.le_of_lt J7),Cg,CB,Hf]
 unfold sqR
 rw[Cg,CB,Zt _ (Nat.mod_lt _ Au),hu,hn]
 exact ZP _ _ _ (OQ _ (RL _))
theorem Jx (Y:Nat) (h:okN iV (sqR Y)=true):On (fz (Bu iV (sqR Y)),fz Y):=by
 have h1:=(Pp (sqR Y) h).1
 obtain⟨r,hr⟩:=exzb (Bu iV (sqR Y))
 rw[hr] at h1 ⊢
 refine (Ue _ _ _).2 ?_
 show fz r*fz r*_=_
 rw[← CB,← Cg,h1]
 exact ZS Y
theorem T8 (p:Pt) (hp:On p):okN iV (sqR p.2.val)=true∧(fz (Bu iV (sqR p.2.val))=p.1∨fz (Bu iV (sqR p.2.val)) = -p.1):=by
 have h1:=(Ue p.1 p.2 dF).1 hp
 have h2:=ZS p.2.val
 rw[Gq] at h2
 have h3:fz (sqR p.2.val)=p.1*p.1:=Gu _ _ _ (RL p.2) (h2.trans h1.symm)
 have h4:sqR p.2.val=p.1.val*p.1.val%PN:=by
  refine Tg (Kb _) (Nat.mod_lt _ Au) ?_
  rw[h3,Cg,CB,Gq]
 have h5:okN iV (sqR p.2.val)=true:=by rw[h4];exact Va _
 refine⟨h5,?_⟩
 have h6:=(Pp (sqR p.2.val) h5).1
 obtain⟨r,hr⟩:=exzb (Bu iV (sqR p.2.val))
 rw[hr] at h6 ⊢
 have h7:fz r*fz r=p.1*p.1:=by rw[← CB,← Cg,h6,h3]
 rcases O0 _ _ (fU _ _ h7) with h | h
 ·exact .inl (fG _ _ h)
 ·exact .inr (e8 _ _ h)
theorem signed (p:Pt) (hp:On p):(p.1.val%2=1 → -(fz (Bu iV (sqR p.2.val)))=p.1∧Bu iV (sqR p.2.val)≠0)∧(p.1.val%2=0→fz (Bu iV (sqR p.2.val))=p.1):=by
 obtain⟨hk,hs⟩:=T8 p hp
 have hev:=(Pp (sqR p.2.val) hk).2
 have hlt:=BI (sqR p.2.val)
 obtain⟨r,hr⟩:=exzb (Bu iV (sqR p.2.val))
 rw[hr] at hs hev hlt ⊢
 clear hr hk
 have hx:=p.1.isLt
 have hfx:=Gq p.1
 have hodd:=ah
 obtain⟨x,ex⟩:=exzb (p.1.val)
 rw[ex] at hx hfx ⊢
 rw[← hfx] at hs ⊢
 have hn:=F6 x hx
 rcases hs with h | h
 ·have e:=Tg hlt hx h
  subst e
  exact⟨fun h1=>by omega,fun _=>rfl⟩
 ·rw[← hn] at h
  have e:=Tg hlt (Nat.mod_lt _ Au) h
  have hcases:(x=0∧r=0)∨(x≠0∧r=PN-x):=by
   by_cases h0:x=0
   ·left
    refine⟨h0,?_⟩
    rw[e,h0,Nat.zero_add,Nat.sub_zero,Nat.mod_self]
   ·right
    refine⟨h0,?_⟩
    rw[e,Nat.zero_add]
    exact Nat.mod_eq_of_lt (by omega)
  rcases hcases with ⟨h0,h1⟩ | ⟨h0,h1⟩
  ·subst h0 h1
   exact⟨fun h2=>by omega,fun _=>rfl⟩
  ·refine⟨fun h2=>⟨?_,by omega⟩,fun h2=>by omega⟩
   exact YX _ _ (by rw[h,hn])
def L7 (N:Nat):Nat:=N%(9223372036854775808*B64^3)
def OF (N:Nat):Bool:=decide (CF N 255=1)
def E7 (x n:Nat):Nat:=if x%2=1 then n+9223372036854775808*B64^3 else n
def HB:Nat:=57896044618658097711785492504343953926634992332820282019728792003956564819968
theorem Qp:9223372036854775808*B64^3=HB∧2^255=HB∧B64^4=2*HB∧PN<HB:=by decide +kernel
theorem UO (x n:Nat) (hn:n<PN):L7 (E7 x n)=n∧OF (E7 x n)=decide (x%2=1)∧E7 x n<B64^4:=by
 unfold L7 OF CF E7
 rw[Qp.1,Qp.2.1,Qp.2.2.1]
 have hn2:n<HB:=Nat.lt_trans hn Qp.2.2.2
 obtain⟨H,hH⟩:=exzb (HB)
 rw[hH] at hn2 ⊢
 have hp:0<H:=by omega
 by_cases h:x%2=1
 ·rw[if_pos h,decide_eq_true h]
  have h1:(n+H)/H=1:=by rw[Nat.add_div_right _ hp,Nat.div_eq_of_lt hn2]
  have h2:(n+H)%H=n:=by rw[Nat.add_mod_right,Nat.mod_eq_of_lt hn2]
  rw[h1,h2]
  exact⟨rfl,rfl,by omega⟩
 ·rw[if_neg h,decide_eq_false h]
  rw[Nat.div_eq_of_lt hn2,Nat.mod_eq_of_lt hn2]
  exact⟨rfl,rfl,by omega⟩
def M9 (N:Nat):Nat:=if L7 N<PN then (if okN iV (sqR (L7 N))=true then (if OF N=true∧Bu iV (sqR (L7 N))=0 then 22 else 0) else 22) else 2
def Zi (N:Nat):Nat:=if OF N=true then (0+PN-Bu iV (sqR (L7 N)))%PN else Bu iV (sqR (L7 N))
def Qx (N:Nat):Pt:=if M9 N=0 then (fz (Zi N),fz (L7 N)) else Ci
theorem aY (p:Pt) (hp:On p):M9 (E7 p.1.val p.2.val)=0∧Qx (E7 p.1.val p.2.val)=p:=by
 obtain⟨e1,e2,_⟩:=UO p.1.val p.2.val p.2.isLt
 obtain⟨s1,s2⟩:=signed p hp
 have hk:=(T8 p hp).1
 have h0:M9 (E7 p.1.val p.2.val)=0:=by
  unfold M9
  rw[e1,e2,if_pos p.2.isLt,if_pos hk,if_neg]
  rintro⟨h1,h2⟩
  exact (s1 (of_decide_eq_true h1)).2 h2
 refine⟨h0,?_⟩
 unfold Qx Zi
 rw[if_pos h0,e1,e2,Gq]
 by_cases h:p.1.val%2=1
 ·rw[decide_eq_true h,if_pos rfl,F6 _ (BI _),(s1 h).1]
 ·rw[decide_eq_false h,if_neg (by decide),s2 (by omega)]
theorem Bx:De Tryz.prog 24 4:=⟨.inr ⟨_,_,Tryz.underlying24⟩,by kernel_rfl⟩
theorem Nn (a:Nat) (W:World):(Instr.box 24 (Aa a)).run Tryz.prog W=.ok (.pointer (some ⟨W.heap.size,0,none⟩)) (W.alloc (.cells (elR a) 24 (0,0))):=by
 unfold Aa elR
 go_simp
theorem D8 (b:Nat) (W:World):(Instr.indexAt 24 (.pointer (some ⟨b,0,none⟩)) (.int .i64 3)).run Tryz.prog W=.ok (.pointer (some ⟨b,3,none⟩)) W:=by
 go_simp
theorem Z9 (x n g:Nat) (w:World) (hn:n<PN) (hg:w.heap[g]?=some (.cells (elR x) 36 (0,0))):Calls Tryz.prog 93 #[Aa n,.pointer (some ⟨g,0,none⟩)] w fun E w'=>E=.returned (.string ⟨(byL (E7 x n)).toArray⟩)∧Below w.heap.size w w':=by
 have HMIX:=Lh (show Tryz.prog.follows .mixedOrders=true by kernel_rfl)
 go_enter Tryz.func93,Tryz.ntmps93
 have hM0:=Mem.start w
 (go_step;go_step;refine wp_region_lit ?_)
 refine At hM0 (ob:=.cells (elR n) 24 (0,0)) (fun W=>AK rfl rfl (Nn n W)) rfl fun b1 W1 hM1=>?_
 simp only[nmA]
 refine Ad (.string ⟨#[]⟩) ?_
 simp only[nmA]
 refine wpList_nil ?_
 ((iterate 4 go_step);refine wp_region_lit ?_)
 refine IR (hM1.old hg) (v:=Aa x) (sub:=elR x) rfl rfl rfl rfl Aw rfl ?_
 simp only[nmA]
 obtain⟨c1,hc1⟩:=exza (decide (x%2=1))
 have KO:=fun W=>Lz x W
 simp only[← hc1] at KO
 refine Ah hM1 (args:=#[Aa x]) (v:=.bool c1) (rcf (enters_of Tryz.func94 rfl rfl)) (KO W1) rfl fun W2 hM2=>?_
 simp only[nmA]
 refine wpList_nil ?_
 cases c1
 ·skip
  ((iterate 7 go_step);refine wp_region_lit ?_)
  refine AD hM2 0 (v:=Aa n) rfl rfl rfl rfl Bx rfl ?_
  simp only[nmA]
  refine Ah hM2 (args:=#[Aa n]) (v:=.string ⟨(byL n).toArray⟩) (rcf (enters_of Tryz.func31 rfl rfl)) (Er n W2) rfl fun W3 hM3=>?_
  simp only[nmA]
  refine Ad (.string ⟨(byL n).toArray⟩) ?_
  simp only[nmA]
  refine wpList_nil ?_
  ((iterate 3 go_step);refine bodyPost_ret (v:=.string ⟨(byL n).toArray⟩) (AY Tryz.results93 rfl) rfl ⟨?_,hM3.below⟩)
  exact by
      have h1:=of_decide_eq_false hc1.symm
      unfold E7
      rw[if_neg h1]
 ·skip
  ((iterate 3 go_step);refine wp_region_lit ?_)
  refine Ac (v:=.pointer (some ⟨b1,3,none⟩)) (fun W=>Ar rfl rfl rfl (D8 b1 W)) rfl ?_
  simp only[nmA]
  refine Bc hM2 0 (v:=.int .u64 (wd n 3:Int)) rfl rfl rfl rfl BN rfl ?_
  simp only[nmA]
  refine Ac (v:=.int .u64 (((wd n 3)+9223372036854775808:Nat):Int)) (fun W=>Ag rfl rfl rfl (iZ (wd n 3) (YT n hn) _ _ W)) rfl ?_
  simp only[nmA]
  refine Ac (v:=.pointer (some ⟨b1,3,none⟩)) (fun W=>Ar rfl rfl rfl (D8 b1 W)) rfl ?_
  simp only[nmA]
  refine Ba hM2 0 (cs':=(elR (n+9223372036854775808*B64^3))) rfl rfl rfl rfl (by show 3<4;decide) (cd n hn) BN rfl rfl rfl fun W3 hM3=>?_
  simp only[nm2,nm3] at hM3
  refine wpList_nil ?_
  ((iterate 3 go_step);refine wp_region_lit ?_)
  refine AD hM3 0 (v:=Aa (n+9223372036854775808*B64^3)) rfl rfl rfl rfl Bx rfl ?_
  simp only[nmA]
  refine Ah hM3 (args:=#[Aa (n+9223372036854775808*B64^3)]) (v:=.string ⟨(byL (n+9223372036854775808*B64^3)).toArray⟩) (rcf (enters_of Tryz.func31 rfl rfl)) (Er (n+9223372036854775808*B64^3) W3) rfl fun W4 hM4=>?_
  simp only[nmA]
  refine Ad (.string ⟨(byL (n+9223372036854775808*B64^3)).toArray⟩) ?_
  simp only[nmA]
  refine wpList_nil ?_
  ((iterate 3 go_step);refine bodyPost_ret (v:=.string ⟨(byL (n+9223372036854775808*B64^3)).toArray⟩) (AY Tryz.results93 rfl) rfl ⟨?_,hM4.below⟩)
  exact by
      have h1:=of_decide_eq_true hc1.symm
      unfold E7
      rw[if_pos h1]
theorem FS {a:N4} {p:Pt} (ha:Ok4 a p) (w:World):Calls Tryz.prog 40 #[pv4 a] w fun E w'=>E=.returned (.string ⟨(byL (E7 p.1.val p.2.val)).toArray⟩)∧Below w.heap.size w w':=by
 have HMIX:=Lh (show Tryz.prog.follows .mixedOrders=true by kernel_rfl)
 go_enter Tryz.func40,Tryz.ntmps40
 have hM0:=Mem.start w
 (go_step;go_step;refine wp_region_lit ?_)
 refine At hM0 (ob:=.cells ((pc4 a)) 39 (0,0)) (fun W=>AK rfl rfl (TY _ W)) rfl fun b1 W1 hM1=>?_
 simp only[nmA]
 refine Ad (.string ⟨#[]⟩) ?_
 simp only[nmA]
 refine wpList_nil ?_
 ((iterate 3 go_step);refine wp_region_lit ?_)
 refine AD hM1 0 (v:=pv4 a) rfl rfl rfl rfl AS rfl ?_
 simp only[nmA]
 obtain⟨v1,ev1⟩:=exza (p.1.val)
 have pv1:v1<PN:=by rw[ev1];exact Fin.isLt _
 obtain⟨v2,ev2⟩:=exza (p.2.val)
 have pv2:v2<PN:=by rw[ev2];exact Fin.isLt _
 have KX14:=Lh (fun W=>jh ha W)
 simp only[← ev1,← ev2] at KX14
 refine Ah hM1 (args:=#[pv4 a]) (v:=.tuple #[Aa v1,Aa v2]) (rcf (enters_of Tryz.func92 rfl rfl)) (KX14.out W1) rfl fun W2 hM2=>?_
 simp only[nmA]
 refine Ad (.tuple #[Aa v1,Aa v2]) ?_
 simp only[nmA]
 refine Ad (Aa v1) ?_
 simp only[nmA]
 refine Ad (Aa v2) ?_
 simp only[nmA]
 refine At hM2 (ob:=.cells z4 36 (0,0)) (fun W=>Ab rfl (Bk W)) rfl fun b2 W3 hM3=>?_
 simp only[nmA]
 refine At hM3 (ob:=.cells z4 36 (0,0)) (fun W=>Ab rfl (Bk W)) rfl fun b3 W4 hM4=>?_
 simp only[nmA]
 refine Av hM4 1 (cs:=(elR v1)) rfl rfl rfl rfl Aw rfl (Ay v1) rfl rfl fun W5 hM5=>?_
 simp only[nm2,nm3] at hM5
 refine Av hM5 0 (cs:=(elR v2)) rfl rfl rfl rfl Aw rfl (Ay v2) rfl rfl fun W6 hM6=>?_
 simp only[nm2,nm3] at hM6
 refine wpList_nil ?_
 ((iterate 3 go_step);refine wp_region_lit ?_)
 refine Ac (v:=.func (.func 93) #[] #[.pointer (some ⟨b2,0,none⟩)]) (fun W=>Bs rfl (by simp[Instr.makeFunc,Act.eval])) rfl ?_
 simp only[nmA]
 refine Ad (.func (.func 93) #[] #[.pointer (some ⟨b2,0,none⟩)]) ?_
 simp only[nmA]
 refine wpList_nil ?_
 ((iterate 3 go_step);refine wp_region_lit ?_)
 refine Ad (.func (.func 93) #[] #[.pointer (some ⟨b2,0,none⟩)]) ?_
 simp only[nmA]
 refine AD hM6 0 (v:=Aa v2) rfl rfl rfl rfl Aw rfl ?_
 simp only[nmA]
 refine Ah hM6 (args:=#[Aa v2]) (v:=Aa v2) (rcf (enters_of Tryz.func95 rfl rfl)) (ZK v2 W6) rfl fun W7 hM7=>?_
 simp only[nmA]
 refine Ah hM7 (args:=#[Aa v2,.pointer (some ⟨b2,0,none⟩)]) (v:=.string ⟨(byL (E7 v1 v2)).toArray⟩) (fun W=>Ca W (enters_of Tryz.func93 rfl rfl) rfl rfl (by simp[Act.eval];rfl) rfl) (Z9 v1 v2 b2 W7 pv2 (hM7.get 1 rfl)) rfl fun W8 hM8=>?_
 simp only[nmA]
 refine Ad (.string ⟨(byL (E7 v1 v2)).toArray⟩) ?_
 simp only[nmA]
 refine wpList_nil ?_
 ((iterate 3 go_step);refine bodyPost_ret (v:=.string ⟨(byL (E7 v1 v2)).toArray⟩) (AY Tryz.results40 rfl) rfl ⟨?_,hM8.below⟩)
 exact by rw[ev1,ev2]
open Go.RowKit
theorem Tryz.info_u8:(Tryz.prog.info? 5).map (fun i=>(i.zero,i.size,i.bytes))=some (some (.int .u8 0),1,1):=by kernel_rfl
theorem TB (z:Int):bc (ofI (z%256))=.int .u8 (z%256):=LY _ (by omega) (by omega)
def dk (x:Int) (k:Nat):Int:=x/((256^k:Nat):Int)
theorem UF (x:Int):dk x 0=x:=by simp[dk]
theorem Ux (x:Int) (k:Nat):dk x k/256=dk x (k+1):=by
 unfold dk
 rw[Nat.pow_succ,Int.natCast_mul,← Int.ediv_ediv_of_nonneg (Int.natCast_nonneg _)];rfl
theorem ib (x:Int) (k:Nat) (x0:0≤x) (x1:x<18446744073709551616):0≤dk x k∧dk x k<18446744073709551616:=by
 induction k with
 | zero=>rw[UF];exact⟨x0,x1⟩
 | succ k ih=>rw[← Ux x k];omega
def Do (x:Int):Nat→List UInt8
 | 0=>[]
 | k+1=>ofI (dk x k%256)::Do x k
theorem DF (x:Int):∀ k,(Do x k).length=k
 | 0=>rfl
 | k+1=>by simp[Do,DF x k]
theorem LD (x:Int) (n:Nat) (w:World) (x0:0≤x) (x1:x<18446744073709551616) (hn:n≤1000) :
    Calls Tryz.prog 104 #[.int .u64 x,.int .i64 n] w fun e w'=>e=.returned (.string ⟨(Do x n).toArray⟩)∧Below w.heap.size w w':=by
 obtain⟨i0,hi,hz0,hz1,hz2⟩:=info_parts Tryz.info_u8
 go_enter Tryz.func104,Tryz.ntmps104
 go_wp2_with fail
 go_loopw [0,5,6] (fun y v i wr=>∃ k:Nat,k≤n∧i=.int .i64 k∧y=.int .u64 (dk x k)∧wr.ownsRow w.heap.size 5 1 v k ((Do x k).map bc)∧Below w.heap.size w wr) (fun _ _ i _=>n-(intOf i).toNat)
 case atStart=>exact⟨0,by omega,rfl,by rw[UF],World.ownsRow_nil _ _ _ _,Below.refl _ _⟩
 case round =>
  obtain⟨k,hk,rfl,rfl,hown,hb⟩:=hrel
  by_cases hlt:k<n
  ·obtain⟨d0,d1⟩:=ib x k x0 x1
   have DS:=Lh (Ux x k)
   have hlit:=World.ownsRow_lit (base:=w.heap.size) (e:=5) (size:=1) wr #[.int .u8 (dk x k%256)] 1 (by exact hb.size) (by decide) rfl
   have hsz:=hb.size
   rcases hown with ⟨hl,⟨rfl,hk0⟩ | ⟨g,cap,cur,rfl,hg,hh,r1,r2,r3,r4⟩⟩
   ·subst hk0
    have HL:=Lh hlit
    clear hlit
    go_wp2_with fail
    go_roundw
    case rel =>
     refine⟨1,by omega,rfl,congrArg (Value.int .u64) DS.out,?_,hb.alloc hb.size _⟩
     have e:(Do x 1).map bc=[Value.int .u8 (dk x 0%256)]:=by
      show [bc (ofI (dk x 0%256))]=_
      rw[TB]
     rw[e];exact HL.out
    case measure=>simp[intOf];omega
   ·have hrow:wr.ownsRow w.heap.size 5 1 (.slice (some ⟨g,0,none⟩) k cap) k ((Do x k).map bc):=⟨hl,.inr ⟨g,cap,cur,rfl,hg,hh,r1,r2,r3,r4⟩⟩
    have hnews:=(hrow.alloc (.cells #[.int .u8 (dk x k%256)] 5)).cells rfl
    have HN:=Lh hnews
    have HL:=Lh hlit
    have Hl:=Lh hl
    clear hnews hlit hh r2 r3 r4 hl
    go_wp2_with (at_builtin;refine wpList_append_own _ (by rfl) (.tmp 15) (.tmp 16) 90 (by rfl) w.heap.size 5 i0 (.int .u8 0) 1 1 Tryz.underlying90 hi hz0 hz1 hz2 rfl (by decide) _ 1 _ (by simp[Act.eval];rfl) (by exact HL.out) ⟨g,0,none⟩ k cap ((Do x k).map bc) (by simp[Act.eval]) (by exact Hl.out) (by exact HN.out) (by simp[bc,Value.oneCell']) (by unfold maxLen;omega) (by omega) (by have:=hb.size;simp;omega) ?_;intro v2 w2 hown2 hgrow2 _)
    go_roundw
    case rel =>
     refine⟨k+1,by omega,by go_num,congrArg (Value.int .u64) DS.out,?_,(hb.alloc hb.size _).grown hgrow2 (by have:=hb.size;simp;omega) (fun j hj=>by simp[Value.ownBlock] at hj;omega)⟩
     rw[show k+1=1+k from by omega]
     have e:(Do x (1+k)).map bc=[Value.int .u8 (dk x k%256)]++(Do x k).map bc:=by
      rw[Nat.add_comm]
      show bc (ofI (dk x k%256))::_=_
      rw[TB];rfl
     rw[e];exact hown2
    case measure=>simp[intOf];omega
  ·obtain rfl:k=n:=by omega
   have ks:=DH (P:=Tryz.prog) (t:=90) (ty:=9) Tryz.underlying90 Tryz.underlying5 Tryz.underlying9 hown
   go_wp2_with fail
   go_ret
   exact⟨rfl,hb⟩
theorem NI (s:ByteArray) (w:World) (hs:s.size≤100000) :
    Calls Tryz.prog 63 #[.string s] w fun e w'=>e=.returned (.string ⟨s.data.toList.reverse.toArray⟩)∧Below w.heap.size w w':=by
 obtain⟨i0,hi,hz0,hz1,hz2⟩:=info_parts Tryz.info_u8
 have hlen:Hid (s.data.toList.length=s.size):=Array.length_toList
 go_enter Tryz.func63,Tryz.ntmps63
 go_wp2_with fail
 go_loopw [3,4] (fun v i wr=>∃ k:Nat,k≤s.size∧i=.int .i64 ((k:Int)-1)∧wr.ownsRow w.heap.size 5 1 v (s.size-k) ((s.data.toList.drop k).reverse.map bc)∧Below w.heap.size w wr) (fun _ i _=>(intOf i+1).toNat)
 case atStart=>exact⟨s.size,by omega,rfl,by rw[List.drop_of_length_le (by have:=hlen.out;omega),Nat.sub_self];exact World.ownsRow_nil _ _ _ _,Below.refl _ _⟩
 case round =>
  obtain⟨k,hk,rfl,hown,hb⟩:=hrel
  have hsz:=hb.size
  by_cases hlt:0<k
  ·obtain⟨j,rfl⟩:∃ j,k=j+1:=⟨k-1,by omega⟩
   have c1:(((j+1:Nat):Int)-1)=(j:Int):=by omega
   rw[c1]
   have hj:j<s.size:=by omega
   have hji:(j:Int)<(s.size:Int):=by omega
   have c2:IntKind.i64.wrap ((j:Int)-1)=(j:Int)-1:=IntWalk.i64_in _ (by omega)
   have HD:Hid (s.data.toList.drop j=s[j]::s.data.toList.drop (j+1)):=List.drop_eq_getElem_cons (by have:=hlen.out;omega)
   have HO:=Lh hown
   clear hown c1
   go_wp2_with (at_builtin;refine wpList_append_own _ (by rfl) (.tmp 12) (.tmp 16) 90 (by rfl) w.heap.size 5 i0 (.int .u8 0) 1 1 Tryz.underlying90 hi hz0 hz1 hz2 rfl (by decide) _ (s.size-(j+1)) _ (by simp[Act.eval];rfl) (by exact HO.out.alloc _) ⟨wr.heap.size,0,none⟩ 1 1 [bc s[j]] (by simp[Act.eval]) rfl (by exact BK wr #[_] _) (by simp[bc,Value.oneCell']) (by unfold maxLen;omega) (by omega) (by simp;omega) ?_;intro v2 w2 hown2 hgrow2 _)
   go_roundw
   case rel =>
    refine⟨j,by omega,rfl,?_,(hb.alloc hb.size _).grown hgrow2 (by simp;omega) (fun i hi=>(HO.out.lt i hi).1)⟩
    rw[HD.out,List.reverse_cons,List.map_append,show s.size-j=s.size-(j+1)+1 from by omega]
    exact hown2
   case measure=>simp[intOf]
  ·obtain rfl:k=0:=by omega
   rw[List.drop_zero] at hown
   have ks:=DH (P:=Tryz.prog) (t:=90) (ty:=9) Tryz.underlying90 Tryz.underlying5 Tryz.underlying9 hown
   go_wp2_with fail
   go_ret
   exact⟨rfl,hb⟩
theorem gf (m:Nat):(Do (m:Int) 8).reverse=(List.range 8).map fun j=>UInt8.ofNat (m/256^j%256):=by
 have h:∀ k,ofI (dk (m:Int) k%256)=UInt8.ofNat (m/256^k%256):=fun k=>by
  unfold ofI dk
  rw[← Int.natCast_ediv]
  congr 1
 simp only[Do,h]
 rfl
theorem cR (n i j:Nat) (hj:j<8):wd n i/256^j%256=n/256^(8*i+j)%256:=by
 have h:=UK n (8*i+j)
 rw[show (8*i+j)/8=i by omega,show (8*i+j)%8=j by omega,Nat.pow_mul] at h
 exact h
theorem gc (n i:Nat):(Do (wd n i:Int) 8).reverse=(List.range 8).map fun j=>UInt8.ofNat (n/256^(8*i+j)%256):=by
 rw[gf]
 refine List.map_congr_left fun j hj=>?_
 rw[cR n i j (List.mem_range.1 hj)]
theorem Ww (n:Nat):(List.range 4).flatMap (fun i=>(Do (wd n i:Int) 8).reverse)=byL n:=by
 simp only[gc]
 rfl
theorem MZ (n:Nat) (w:World) :
    Calls Tryz.prog 45 #[Aa n] w fun e w'=>e=.returned (.string ⟨(byL n).toArray⟩)∧Below w.heap.size w w':=by
 rw[show Aa n=.agg #[.int .u64 (wd n 0:Int),.int .u64 (wd n 1:Int),.int .u64 (wd n 2:Int),.int .u64 (wd n 3:Int)] from rfl]
 have x0:(w.alloc (.cells (An n).toArray 23)).heap[w.heap.size]?=some (.cells (An n).toArray 23 (0,0)):=Aj _ _
 have xb:Below w.heap.size w (w.alloc (.cells (An n).toArray 23)):=Al (Below.refl _ _) _
 go_enter Tryz.func45,Tryz.ntmps45
 go_wp2_with fail
 change Code.wp _ _ _ _ (w.alloc (.cells (An n).toArray 23))
 generalize w.alloc (.cells (An n).toArray 23)=X at *
 go_loopw [3,4] (fun s i wr=>∃ k:Nat,k≤4∧i=.int .i64 (k:Int)∧s=.string ⟨((List.range k).flatMap (fun i=>(Do (wd n i:Int) 8).reverse)).toArray⟩∧wr.heap[w.heap.size]?=some (.cells (An n).toArray 23 (0,0))∧Below w.heap.size w wr) (fun _ i _=>4-(intOf i).toNat)
 case atStart=>exact⟨0,by omega,rfl,rfl,x0,xb⟩
 case round =>
  clear x0 xb
  obtain⟨k,hk,rfl,rfl,y0,hb⟩:=hrel
  by_cases hlt:k<4
  ·have k1:(k:Int)<4:=by omega
   have c0:=(Af y0 (Ai n k hlt)).1
   have KP:Hid (∀ w,Calls Tryz.prog 104 #[.int .u64 (wd n k:Int),.int .i64 8] w fun e w'=>e=.returned (.string ⟨(Do (wd n k:Int) 8).toArray⟩)∧Below w.heap.size w w'):=fun w=>LD (wd n k:Int) 8 w (by omega) (by have:=Cb n k;omega) (by omega)
   have KT:=Lh (fun w=>NI ⟨(Do (wd n k:Int) 8).toArray⟩ w (by show (Do _ 8).toArray.size≤_;simp[DF]))
   have HS:=Lh (show (List.range (k+1)).flatMap (fun i=>(Do (wd n i:Int) 8).reverse)=(List.range k).flatMap (fun i=>(Do (wd n i:Int) 8).reverse)++(Do (wd n k:Int) 8).reverse from by rw[List.range_succ,List.flatMap_append];simp)
   have HY:=Lh y0
   clear y0
   have hlen:((List.range k).flatMap (fun i=>(Do (wd n i:Int) 8).reverse)).length≤32:=by
    have:k=0∨k=1∨k=2∨k=3:=by omega
    rcases this with rfl | rfl | rfl | rfl <;> simp[List.range_succ,DF]
   have hlen2:(Do (wd n k:Int) 8).length≤8:=by rw[DF];exact Nat.le_refl _
   generalize hL:(List.range k).flatMap (fun i=>(Do (wd n i:Int) 8).reverse)=L at *
   generalize hP:Do (wd n k:Int) 8=P at *
   clear hL hP
   have hlen3:¬ 9223372036854775807<L.length+P.length:=by omega
   clear hlen hlen2
   generalize (wd n k:Int)=x at *
   go_wp2_with fail
   refine (KP.out _).mono ?_
   rintro e w1 ⟨rfl,hb1⟩
   go_wp2_with fail
   refine (KT.out _).mono ?_
   rintro e w2 ⟨rfl,hb2⟩
   have hb3:=hb.trans ((GO hb1 hb2).mono hb.size)
   have hlt0:w.heap.size<wr.heap.size:=AU HY.out
   have HY2:=Lh (((GO hb1 hb2).block w.heap.size hlt0).trans HY.out)
   clear hb1 hb2
   go_wp2_with fail
   go_roundw
   case rel =>
    refine⟨k+1,by omega,by go_num,?_,HY2.out,hb3⟩
    rw[HS.out]
    refine congrArg Value.string ?_
    apply ByteArray.ext
    simp
   case measure=>simp[intOf];omega
  ·obtain rfl:k=4:=by omega
   rw[Ww]
   go_wp2_with fail
   go_ret
   exact⟨rfl,hb⟩
theorem Uk (s:ByteArray) (hs:s.size=32):leN s.data.toList<B64^4:=by
 have h:=J9 s.data.toList
 rw[show s.data.toList.length=32 by rw[← hs];rfl,show (256:Nat)^32=B64^4 by decide +kernel] at h
 exact h
theorem Uf (s:ByteArray) (w:World) (hs:s.size=32):Calls Tryz.prog 30 #[.string s] w fun e w'=>e=.returned (.tuple (if leN s.data.toList<PN then #[Aa (leN s.data.toList),.int .i64 0] else #[Aa 0,.int .i64 2]))∧Below w.heap.size w w':=by
 have HMIX:=Lh (show Tryz.prog.follows .mixedOrders=true by kernel_rfl)
 have hnB:=Uk s hs
 have K1:=Lh (fun w=>Gh s w hs)
 obtain⟨n,hn⟩:=exzb (leN s.data.toList)
 rw[hn] at K1 hnB
 rw[hn]
 have K2:=Lh Xn
 have K3:=Lh (fun w=>Jk n PN w hnB VD)
 have cge:=Mo n
 have clt:=LP n
 obtain⟨C,hC⟩:=exzb (Eg n PN)
 rw[hC] at K3 cge clt
 obtain⟨p,hp⟩:=exzb (PN)
 rw[hp] at K2 K3 cge clt ⊢
 obtain⟨xr,xz,xB⟩:=IN 36 w
 rw[L6]
 simp only[AL] at K1 K2 K3 ⊢
 have hc1:p≤n→(0:Int)≤C:=cge
 have hc2:n<p→¬ (0:Int)≤C:=clt
 clear hs hn hnB hC hp cge clt
 by_cases hlt:n<p
 ·have q1:=hc2 hlt
  rw[if_pos hlt]
  clear hc1 hc2 hlt
  go_enter Tryz.func30,Tryz.ntmps30
  go_wp2_with fail
  change Calls _ _ _ (Z1 36 w) _
  generalize Z1 36 w=X at *
  refine (K1.out X).mono ?_
  rintro e w1 ⟨rfl,hb1⟩
  have hs1:w.heap.size+1≤w1.heap.size:=by have:=hb1.size;omega
  have XR:=Lh ((xr.keep hb1).alloc (.cells #[.int .u64 (wd n 0:Int),.int .u64 (wd n 1:Int),.int .u64 (wd n 2:Int),.int .u64 (wd n 3:Int)] 24))
  have XB:=Lh (Bi (AE hb1 xB (Nat.le_refl _)) (.cells #[.int .u64 (wd n 0:Int),.int .u64 (wd n 1:Int),.int .u64 (wd n 2:Int),.int .u64 (wd n 3:Int)] 24))
  have XA:Hid (IsA (w1.alloc (.cells #[.int .u64 (wd n 0:Int),.int .u64 (wd n 1:Int),.int .u64 (wd n 2:Int),.int .u64 (wd n 3:Int)] 24)) w1.heap.size n 24):=(Aj w1 _ :)
  clear xr xz xB hb1 K1
  obtain⟨⟨p0,p1,p2,p3⟩,_⟩:=Aq XA.out
  have D0:=fun d os=>cell_regrown p0 d os
  have D1:=fun d os=>cell_regrown p1 d os
  have D2:=fun d os=>cell_regrown p2 d os
  have D3:=fun d os=>cell_regrown p3 d os
  clear p0 p1 p2 p3
  go_wp2_with fail
  generalize w1.alloc (.cells #[.int .u64 (wd n 0:Int),.int .u64 (wd n 1:Int),.int .u64 (wd n 2:Int),.int .u64 (wd n 3:Int)] 24)=Y at *
  refine wp_region_quiet_below HMIX.out (by kernel_rfl) ?_
  repeat (go_big_quiet_step (first
   | (go_at_call 75;exact Calls.regrown_of (K2.out _))
   | (go_at_call 74;exact Calls.regrown_of (K3.out _))))
  refine wpQuiet_nil ?_
  intro _ hw'
  obtain⟨⟨nq1,os1⟩,hw''⟩:=hw'
  subst hw''
  have xa:=AH (below_regrown Y nq1 os1) XA.out (Nat.le_refl _)
  have xr:=AT (AH (below_regrown Y nq1 os1) XR.out (Nat.le_refl _))
  have xB:=AE (below_regrown Y nq1 os1) XB.out (Nat.le_refl _)
  clear D0 D1 D2 D3 XA XR XB K2 K3
  generalize Sort.grow (redrawn Y nq1) os1=U2 at xa xr xB ⊢
  obtain⟨⟨p0,p1,p2,p3⟩,_⟩:=Aq xa
  obtain⟨⟨d0,d1,d2,d3⟩,e0,e1,e2,e3⟩:=Aq xr
  have KL:=Lh (Cm (AN (n:=n) xr))
  have BR:=Lh (Bh xB (v0:=.int .u64 (wd n 0:Int)) (v1:=.int .u64 (wd n 1:Int)) (v2:=.int .u64 (wd n 2:Int)) (v3:=.int .u64 (wd n 3:Int)) (b:=w.heap.size) (Nat.le_refl _))
  clear xa xr xB
  go_wp2_with fail
  exact bodyPost_ret (AC Tryz.results30 (by rfl) (by rfl) KL.out) rfl ⟨rfl,BR.out⟩
 ·have q1:=hc1 (Nat.le_of_not_lt hlt)
  rw[if_neg hlt]
  clear hc1 hc2 hlt
  go_enter Tryz.func30,Tryz.ntmps30
  go_wp2_with fail
  change Calls _ _ _ (Z1 36 w) _
  generalize Z1 36 w=X at *
  refine (K1.out X).mono ?_
  rintro e w1 ⟨rfl,hb1⟩
  have hs1:w.heap.size+1≤w1.heap.size:=by have:=hb1.size;omega
  have XR:=Lh ((xr.keep hb1).alloc (.cells #[.int .u64 (wd n 0:Int),.int .u64 (wd n 1:Int),.int .u64 (wd n 2:Int),.int .u64 (wd n 3:Int)] 24))
  have XB:=Lh (Bi (AE hb1 xB (Nat.le_refl _)) (.cells #[.int .u64 (wd n 0:Int),.int .u64 (wd n 1:Int),.int .u64 (wd n 2:Int),.int .u64 (wd n 3:Int)] 24))
  have XA:Hid (IsA (w1.alloc (.cells #[.int .u64 (wd n 0:Int),.int .u64 (wd n 1:Int),.int .u64 (wd n 2:Int),.int .u64 (wd n 3:Int)] 24)) w1.heap.size n 24):=(Aj w1 _ :)
  clear xr xz xB hb1 K1
  obtain⟨⟨p0,p1,p2,p3⟩,_⟩:=Aq XA.out
  have D0:=fun d os=>cell_regrown p0 d os
  have D1:=fun d os=>cell_regrown p1 d os
  have D2:=fun d os=>cell_regrown p2 d os
  have D3:=fun d os=>cell_regrown p3 d os
  clear p0 p1 p2 p3
  go_wp2_with fail
  generalize w1.alloc (.cells #[.int .u64 (wd n 0:Int),.int .u64 (wd n 1:Int),.int .u64 (wd n 2:Int),.int .u64 (wd n 3:Int)] 24)=Y at *
  refine wp_region_quiet_below HMIX.out (by kernel_rfl) ?_
  repeat (go_big_quiet_step (first
   | (go_at_call 75;exact Calls.regrown_of (K2.out _))
   | (go_at_call 74;exact Calls.regrown_of (K3.out _))))
  refine wpQuiet_nil ?_
  intro _ hw'
  obtain⟨⟨nq1,os1⟩,hw''⟩:=hw'
  subst hw''
  have xr:=AT (AH (below_regrown Y nq1 os1) XR.out (Nat.le_refl _))
  have xB:=AE (below_regrown Y nq1 os1) XB.out (Nat.le_refl _)
  clear D0 D1 D2 D3 XA XR XB K2 K3
  generalize Sort.grow (redrawn Y nq1) os1=U2 at xr xB ⊢
  obtain⟨⟨d0,d1,d2,d3⟩,e0,e1,e2,e3⟩:=Aq xr
  have kl:=Cm (CE (Gr (v0:=.int .u64 0) (v1:=.int .u64 0) (v2:=.int .u64 0) (v3:=.int .u64 0) xr))
  rw[L6] at kl
  have KL:=Lh kl
  have BR:=Lh (Bh xB (v0:=.int .u64 0) (v1:=.int .u64 0) (v2:=.int .u64 0) (v3:=.int .u64 0) (b:=w.heap.size) (Nat.le_refl _))
  clear xr xB kl
  go_wp2_with fail
  exact bodyPost_ret (AC Tryz.results30 (by rfl) (by rfl) KL.out) rfl ⟨rfl,BR.out⟩
section
variable {P:Program} {ops:Array Oper} {w:World} {Q:Exit→Act→World→Prop} {o:Oper} {rest:List Oper} {A:Act}
theorem Hy {d:Deferred} (h:∀ W,(execOp A.eval o).run P W=.ok (.defer d) W) (hd:o.dst=none) (hgd:Region.wanted o (yielded ops A.tmps)=true) (hr:wpList P ops Q rest { tmps:=A.tmps,defers:=d::A.defers } w):wpList P ops Q (o::rest) A w:=by
 refine wpList_step fun K hK=>?_
 rw[if_pos hgd]
 unfold Oper.wp
 rw[h]
 refine hK _ _ ?_
 rw[hd]
 exact hr
theorem EJ {x:Operand} {fn:Fn} {first cap:Array Value} (W:World) (ho:o.op=.defer { callee:=.value x,args:=#[],argTypes:=#[] }) (hx:A.eval x=.func fn first cap):(execOp A.eval o).run P W=.ok (.defer { target:=.fn fn cap,args:=first }) W:=by
 unfold execOp
 simp[ho,resolve,hx,Deferred.ofValue]
end
end Go.Proofs.YtnaldciakclccaaGreat
