/- The curve's points by four numbers (x, y, z, x y / z): sums, twice one, which are the same. No program in it. The curve's points as four numbers, and which points they are (layer 20). The curve's functions on points, and its Add of many (layer 20): their contracts. Which points Make lets be, what the laws' helpers tell of points (layer 20). pcode.beside (layer 21): its contract. Blocks of one cell, and one cell of a row: loads and stores, for XRow's rules. No program in it. pcode: the highest bit of 32 bytes (layer 21). pcode: the two x of a y (layer 21): numbers alone. pcode.Encode (layer 21): its contract. What the reference's Put and Turn answer. The reference's Bytes: what it answers. -/
import Derived.Great.BuildSlice
import Derived.Laws.CopyRow
import Derived.Laws.BitsAllLaws
import Derived.ProofKit
import Derived.Laws.Rows
import Derived.Test.YtnaldciakclccaaGreatEk07
import Derived.Test.YtnaldciakclccaaGreatEk14
import Derived.Test.YtnaldciakclccaaGreatEk11
import Derived.Test.YtnaldciakclccaaGreatEk08
import Derived.Test.YtnaldciakclccaaGreatEk01
import Derived.Test.YtnaldciakclccaaGreatEk03
namespace Go.Proofs.YtnaldciakclccaaGreat
set_option maxRecDepth 20000
set_option linter.unusedSimpArgs false
set_option linter.unusedVariables false
/-- A point by four numbers. -/
def Ext (X Y Z T:Fp) (p:Fp × Fp):Prop:=Z≠0∧p.1*Z=X∧p.2*Z=Y∧p.1*p.2*Z=T
theorem Ext.rep {X Y Z T:Fp} {p:Fp × Fp} (h:Ext X Y Z T p):Rep X Y Z p:=⟨h.1,h.2.1,h.2.2.1⟩
section
variable {α:Type} [Lean.Grind.CommRing α]
theorem ext_parts (x1 y1 z1 x2 y2 z2 d u v:α) (hu:(1+d*x1*x2*y1*y2)*u=1) (hv:(1-d*x1*x2*y1*y2)*v=1) :
    let e:=(x1*z1+y1*z1)*(x2*z2+y2*z2)-(x1*z1*(x2*z2)+y1*z1*(y2*z2));let dts:=d*(x1*y1*z1)*(x2*y2*z2);let f:=z1*z2-dts;let g:=z1*z2+dts;let h:=y1*z1*(y2*z2)+x1*z1*(x2*z2)
    f=z1*z2*(1-d*x1*x2*y1*y2)∧g=z1*z2*(1+d*x1*x2*y1*y2)∧(x1*y2+y1*x2)*u*(f*g)=e*f∧(y1*y2+x1*x2)*v*(f*g)=g*h∧(x1*y2+y1*x2)*u*((y1*y2+x1*x2)*v)*(f*g)=e*h:=by
 intro e dts f g h
 have e1:f=z1*z2*(1-d*x1*x2*y1*y2):=by clear hu hv;grind
 have e2:g=z1*z2*(1+d*x1*x2*y1*y2):=by clear hu hv;grind
 have e3:e=z1*z2*(x1*y2+y1*x2):=by clear hu hv e1 e2;grind
 have e4:h=z1*z2*(y1*y2+x1*x2):=by clear hu hv e1 e2 e3;grind
 refine⟨e1,e2,?_,?_,?_⟩
 all_goals
  rw[e1,e2]
  first | rw[e3] | skip
  first | rw[e4] | skip
  clear e1 e2 e3 e4
  generalize d*x1*x2*y1*y2=k at *
  generalize x1*y2+y1*x2=A at *
  generalize y1*y2+x1*x2=B at *
  generalize z1*z2=c at *
  grind
theorem twice_parts (x y z d u v:α) (hp:y*y-x*x=1+d*(x*x)*(y*y)) (hu:(1+d*x*x*y*y)*u=1) (hv:(1-d*x*x*y*y)*v=1) :
    let g:=y*z*(y*z)-x*z*(x*z);let f:=(z*z+z*z)-g;let e:=x*z*(y*z)+x*z*(y*z);let h:=y*z*(y*z)+x*z*(x*z)
    f=z*z*(1-d*x*x*y*y)∧g=z*z*(1+d*x*x*y*y)∧(x*y+y*x)*u*(f*g)=e*f∧(y*y+x*x)*v*(f*g)=g*h∧(x*y+y*x)*u*((y*y+x*x)*v)*(f*g)=e*h:=by
 intro g f e h
 have e1:f=z*z*(1-d*x*x*y*y):=by clear hu hv;grind
 have e2:g=z*z*(1+d*x*x*y*y):=by clear hu hv e1;grind
 have e3:e=z*z*(x*y+y*x):=by clear hu hv e1 e2 hp;grind
 have e4:h=z*z*(y*y+x*x):=by clear hu hv e1 e2 e3 hp;grind
 refine⟨e1,e2,?_,?_,?_⟩
 all_goals
  rw[e1,e2]
  first | rw[e3] | skip
  first | rw[e4] | skip
  clear e1 e2 e3 e4 hp
  generalize d*x*x*y*y=k at *
  generalize x*y+y*x=A at *
  generalize y*y+x*x=B at *
  generalize z*z=c at *
  grind
end
/-- The sum, of four numbers each. -/
theorem ext_add (X Y Z T U V W S:Fp) (p q:Fp × Fp) (hp:On p) (hq:On q) (h1:Ext X Y Z T p) (h2:Ext U V W S q) :
    let e:=(X+Y)*(U+V)-(X*U+Y*V);let f:=Z*W-dF*T*S;let g:=Z*W+dF*T*S;let h:=Y*V+X*U;Ext (e*f) (g*h) (f*g) (e*h) (addE p q):=by
 intro e f g h
 obtain⟨u,v,hu,hv,ep⟩:=add_parts p q hp hq
 obtain⟨n1,rfl,rfl,rfl⟩:=h1
 obtain⟨n2,rfl,rfl,rfl⟩:=h2
 obtain⟨w1,w2⟩:=whole p q hp hq
 obtain⟨r1,r2,r3,r4,r5⟩:=ext_parts p.1 p.2 Z q.1 q.2 W dF u v hu hv
 rw[ep]
 refine⟨?_,r3,r4,r5⟩
 have m1:f≠0:=by
  show Z*W-dF*(p.1*p.2*Z)*(q.1*q.2*W)≠0
  rw[r1]
  exact fp_ne_mul (fp_ne_mul n1 n2) w2
 have m2:g≠0:=by
  show Z*W+dF*(p.1*p.2*Z)*(q.1*q.2*W)≠0
  rw[r2]
  exact fp_ne_mul (fp_ne_mul n1 n2) w1
 exact fp_ne_mul m1 m2
/-- Twice a point. -/
theorem ext_twice (X Y Z T:Fp) (p:Fp × Fp) (hp:On p) (h1:Ext X Y Z T p) :
    let g:=Y*Y-X*X;let f:=(Z*Z+Z*Z)-g;let e:=X*Y+X*Y;let h:=Y*Y+X*X;Ext (e*f) (g*h) (f*g) (e*h) (addE p p):=by
 intro g f e h
 obtain⟨u,v,hu,hv,ep⟩:=add_parts p p hp hp
 obtain⟨n1,rfl,rfl,rfl⟩:=h1
 obtain⟨w1,w2⟩:=whole p p hp hp
 obtain⟨r1,r2,r3,r4,r5⟩:=twice_parts p.1 p.2 Z dF u v hp hu hv
 rw[ep]
 refine⟨?_,r3,r4,r5⟩
 have m2:g≠0:=by
  show p.2*Z*(p.2*Z)-p.1*Z*(p.1*Z)≠0
  rw[r2]
  exact fp_ne_mul (fp_ne_mul n1 n1) w1
 have m1:f≠0:=by
  show (Z*Z+Z*Z)-(p.2*Z*(p.2*Z)-p.1*Z*(p.1*Z))≠0
  rw[r1]
  exact fp_ne_mul (fp_ne_mul n1 n1) w2
 exact fp_ne_mul m1 m2
theorem ext_neg (X Y Z T:Fp) (p:Fp × Fp) (h:Ext X Y Z T p):Ext (-X) Y Z (-T) (negE p):=by
 obtain⟨n,rfl,rfl,rfl⟩:=h
 refine⟨n,?_,rfl,?_⟩
 ·exact Lean.Grind.Ring.neg_mul _ _
 ·show -p.1*p.2*Z = -(p.1*p.2*Z)
  rw[Lean.Grind.Ring.neg_mul,Lean.Grind.Ring.neg_mul]
/-- Which are the same. -/
theorem ext_same (X Y Z T U V W S:Fp) (p q:Fp × Fp) (h1:Ext X Y Z T p) (h2:Ext U V W S q):(X*W=U*Z∧Y*W=V*Z)↔p=q:=by
 obtain⟨n1,rfl,rfl,rfl⟩:=h1
 obtain⟨n2,rfl,rfl,rfl⟩:=h2
 have hn:=fp_ne_mul n1 n2
 constructor
 ·rintro⟨a,b⟩
  refine Prod.ext (fp_cancel _ _ (Z*W) hn ?_) (fp_cancel _ _ (Z*W) hn ?_)
  ·rw[← Lean.Grind.Semiring.mul_assoc,a,Lean.Grind.CommSemiring.mul_comm Z W,← Lean.Grind.Semiring.mul_assoc]
  ·rw[← Lean.Grind.Semiring.mul_assoc,b,Lean.Grind.CommSemiring.mul_comm Z W,← Lean.Grind.Semiring.mul_assoc]
 ·rintro rfl
  constructor
  ·rw[Lean.Grind.Semiring.mul_assoc,Lean.Grind.CommSemiring.mul_comm Z W,← Lean.Grind.Semiring.mul_assoc]
  ·rw[Lean.Grind.Semiring.mul_assoc,Lean.Grind.CommSemiring.mul_comm Z W,← Lean.Grind.Semiring.mul_assoc]
/-- The point itself, by the divisor's inverse. -/
theorem rep_xy (X Y Z:Fp) (p:Fp × Fp) (h:Rep X Y Z p):X*inv Z=p.1∧Y*inv Z=p.2:=by
 obtain⟨n,rfl,rfl⟩:=h
 have i:=inv_ok Z n
 constructor
 ·rw[Lean.Grind.Semiring.mul_assoc,i,Lean.Grind.Semiring.mul_one]
 ·rw[Lean.Grind.Semiring.mul_assoc,i,Lean.Grind.Semiring.mul_one]
open Go.RowKit Go.Sort
abbrev N4:=Nat × Nat × Nat × Nat
abbrev Pt:=Fp × Fp
def pl4 (a:N4):List Value:=ptL a.1 a.2.1 a.2.2.1 a.2.2.2
def pc4 (a:N4):Array Value:=(pl4 a).toArray
def pv4 (a:N4):Value:=.agg (pc4 a)
def pv3 (a:N3):Value:=rpV a.1 a.2.1 a.2.2
/-- These four numbers are that point, on the curve. -/
structure Ok4 (a:N4) (p:Pt):Prop where
 x:a.1<PN
 y:a.2.1<PN
 z:a.2.2.1<PN
 t:a.2.2.2<PN
 on:On p
 ext:Ext (fz a.1) (fz a.2.1) (fz a.2.2.1) (fz a.2.2.2) p
structure Ok3 (a:N3) (p:Pt):Prop where
 is:In3 a
 on:On p
 rep:Rep (fz a.1) (fz a.2.1) (fz a.2.2) p
theorem fz_pos {z:Nat} (h:fz z≠0):0<z:=Nat.pos_of_ne_zero fun e=>h (by rw[e];rfl)
theorem Ok4.pos {a:N4} {p:Pt} (h:Ok4 a p):0<a.2.2.1:=fz_pos h.ext.1
theorem fz_subm (a b:Nat) (hb:b<PN):fz ((a+PN-b)%PN)=fz a-fz b:=by rw[fz_mod,fz_sub a b (Nat.le_of_lt hb)]
theorem fz_negm (b:Nat) (hb:b<PN):fz ((0+PN-b)%PN) = -fz b:=by
 rw[fz_subm 0 b hb,fz_zero]
 show (0:Fp)-fz b = -fz b
 grind
theorem md (a:Nat):a%PN<PN:=Nat.mod_lt _ PN_pos
def add4 (a b:N4):N4:=(sumX dN a.1 a.2.1 a.2.2.1 a.2.2.2 b.1 b.2.1 b.2.2.1 b.2.2.2,sumY dN a.1 a.2.1 a.2.2.1 a.2.2.2 b.1 b.2.1 b.2.2.1 b.2.2.2,sumZ dN a.2.2.1 a.2.2.2 b.2.2.1 b.2.2.2,sumT a.1 a.2.1 b.1 b.2.1)
def dbl4 (a:N4):N4:=(dblX a.1 a.2.1 a.2.2.1,dblY a.1 a.2.1,dblZ a.1 a.2.1 a.2.2.1,dblT a.1 a.2.1)
def neg4 (a:N4):N4:=((0+PN-a.1)%PN,a.2.1,a.2.2.1,(0+PN-a.2.2.2)%PN)
def zero4:N4:=(0,1,1,0)
def base4:N4:=(bX,bY,1,bX*bY%PN)
theorem one_below:1<PN:=by decide +kernel
theorem ok4_at (x y:Nat) (p:Pt) (hx:x<PN) (hy:y<PN) (hp:On p) (h1:p.1=fz x) (h2:p.2=fz y):Ok4 (x,y,1,x*y%PN) p:=by
 refine⟨hx,hy,one_below,md _,hp,base_rep.1,?_,?_,?_⟩
 ·show p.1*fz 1=fz x
  rw[fz_one,Lean.Grind.Semiring.mul_one,h1]
 ·show p.2*fz 1=fz y
  rw[fz_one,Lean.Grind.Semiring.mul_one,h2]
 ·show p.1*p.2*fz 1=fz (x*y%PN)
  rw[fz_mod,fz_mul,fz_one,Lean.Grind.Semiring.mul_one,h1,h2]
theorem ok4_zero:Ok4 zero4 zeroE:=ok4_at 0 1 zeroE (by decide +kernel) (by decide +kernel) on_zero rfl rfl
theorem ok4_base:Ok4 base4 baseE:=ok4_at bX bY baseE bX_lt bY_lt on_base rfl rfl
theorem ok4_add {a b:N4} {p q:Pt} (ha:Ok4 a p) (hb:Ok4 b q):Ok4 (add4 a b) (addE p q):=by
 refine⟨md _,md _,md _,md _,on_add p q ha.on hb.on,?_⟩
 have h:=ext_add _ _ _ _ _ _ _ _ p q ha.on hb.on ha.ext hb.ext
 simp only[add4,sumX,sumY,sumZ,sumT,fz_mod,fz_mul,fz_add,fz_subm _ _ (md _)]
 exact h
theorem ok4_dbl {a:N4} {p:Pt} (ha:Ok4 a p):Ok4 (dbl4 a) (addE p p):=by
 refine⟨md _,md _,md _,md _,on_add p p ha.on ha.on,?_⟩
 have h:=ext_twice _ _ _ _ p ha.on ha.ext
 simp only[dbl4,dblX,dblY,dblZ,dblT,fz_mod,fz_mul,fz_add,fz_subm _ _ (md _)]
 exact h
theorem ok4_neg {a:N4} {p:Pt} (ha:Ok4 a p):Ok4 (neg4 a) (negE p):=by
 refine⟨md _,ha.y,ha.z,md _,on_neg p ha.on,?_⟩
 have h:=ext_neg _ _ _ _ p ha.ext
 show Ext (fz ((0+PN-a.1)%PN)) (fz a.2.1) (fz a.2.2.1) (fz ((0+PN-a.2.2.2)%PN)) (negE p)
 rw[fz_negm _ ha.x,fz_negm _ ha.t]
 exact h
theorem ok3_add {a b:N3} {p q:Pt} (ha:Ok3 a p) (hb:Ok3 b q):Ok3 (add3 a b) (addE p q) :=
 ⟨in3_add a b,on_add p q ha.on hb.on,addN_rep _ _ _ _ _ _ p q ha.on hb.on ha.rep hb.rep⟩
theorem ok3_zero:Ok3 (0,1,1) zeroE:=⟨⟨by decide +kernel,by decide +kernel,by decide +kernel⟩,on_zero,zero_rep⟩
theorem ok3_base:Ok3 (bX,bY,1) baseE:=⟨⟨bX_lt,bY_lt,by decide +kernel⟩,on_base,base_rep⟩
/-- So many times. -/
theorem ok3_tms {q:N3} {p:Pt} (hq:Ok3 q p) (k:Nat) (hk:k<B64^4):∀ m,m≤256→Ok3 (tms k q m) (timesE (k/2^(256-m)) p)
 | 0,_=>by
   have e:k/2^(256-0)=0:=by
    rw[Nat.div_eq_zero_iff]
    right
    have:B64^4=2^(256-0):=by decide +kernel
    omega
   rw[e]
   exact ok3_zero
 | m+1,hm=>by
   have ih:=ok3_tms hq k hk m (by omega)
   have e1:k/2^(256-(m+1))=2*(k/2^(256-m))+k/2^(255-m)%2:=by
    rw[show 256-(m+1)=255-m by omega,show 256-m=(255-m)+1 by omega,Nat.pow_succ,← Nat.div_div_eq_div_mul]
    omega
   have hd:=ok3_add ih ih
   have e2:timesE (2*(k/2^(256-m))) p=addE (timesE (k/2^(256-m)) p) (timesE (k/2^(256-m)) p):=by
    rw[Nat.two_mul,times_add p hq.on]
   unfold tms
   split
   ·rename_i hb
    rw[e1,hb]
    show Ok3 _ (addE (timesE (2*(k/2^(256-m))) p) p)
    rw[e2]
    exact ok3_add hd hq
   ·rename_i hb
    have hb0:k/2^(255-m)%2=0:=by omega
    rw[e1,hb0,Nat.add_zero,e2]
    exact hd
theorem ok3_times {q:N3} {p:Pt} (hq:Ok3 q p) (k:Nat) (hk:k<B64^4):Ok3 (tms k q 256) (timesE k p):=by
 have h:=ok3_tms hq k hk 256 (Nat.le_refl _)
 rw[Nat.sub_self,Nat.pow_zero,Nat.div_one] at h
 exact h
/-- The point itself. -/
theorem iv_fz (z:Nat) (hz:z<PN):fz (IV z)=inv (fz z):=by
 unfold IV inv
 rw[fz_mod,fz_val,Nat.mod_eq_of_lt hz]
theorem xy_of (x y z:Nat) (p:Pt) (hz:z<PN) (h:Rep (fz x) (fz y) (fz z) p):x*IV z%PN=p.1.val∧y*IV z%PN=p.2.val:=by
 obtain⟨h1,h2⟩:=rep_xy _ _ _ p h
 constructor
 ·have e:fz (x*IV z%PN)=p.1:=by rw[fz_mod,fz_mul,iv_fz z hz,h1]
  rw[← e,fz_val,Nat.mod_mod]
 ·have e:fz (y*IV z%PN)=p.2:=by rw[fz_mod,fz_mul,iv_fz z hz,h2]
  rw[← e,fz_val,Nat.mod_mod]
theorem fz_eq (a b:Nat):a%PN=b%PN↔fz a=fz b:=⟨fun h=>by rw[← fz_mod a,h,fz_mod],fun h=>by have:=congrArg Fin.val h;exact this⟩
theorem same4 {a b:N4} {p q:Pt} (ha:Ok4 a p) (hb:Ok4 b q):sameB a.1 a.2.1 a.2.2.1 b.1 b.2.1 b.2.2.1=decide (p=q):=by
 have h:=ext_same _ _ _ _ _ _ _ _ p q ha.ext hb.ext
 unfold sameB
 rw[← Bool.decide_and,decide_eq_decide,← h,fz_eq,fz_eq,fz_mul,fz_mul,fz_mul,fz_mul]
theorem one_p4 (a:N4):(pc4 a).all (·.oneCell')=true:=one_pt _ _ _ _
theorem bx_P4 (a:N4) (W:World):(Instr.box 39 (pv4 a)).run Tryz.prog W=.ok (.pointer (some ⟨W.heap.size,0,none⟩)) (W.alloc (.cells (pc4 a) 39 (0,0))):=bx_Pt _ _ _ _ W
theorem zero4_any (w:World):Calls Tryz.prog 27 #[] w fun E w'=>E=.returned (pv4 zero4)∧Below w.heap.size w w':=zero_any w
theorem base4_any (w:World):Calls Tryz.prog 96 #[] w fun E w'=>E=.returned (pv4 base4)∧Below w.heap.size w w':=base_any w
theorem adderadd4 {a b:N4} {p q:Pt} (ha:Ok4 a p) (hb:Ok4 b q) (w:World):Calls Tryz.prog 157 #[numV dN,pv4 a,pv4 b] w fun E w'=>E=.returned (pv4 (add4 a b))∧Below w.heap.size w w' :=
 adderadd_any dN _ _ _ _ _ _ _ _ d_is.2 ha.x ha.y ha.z ha.t hb.x hb.y hb.z hb.t ha.pos hb.pos w
theorem double4 {a:N4} {p:Pt} (ha:Ok4 a p) (w:World):Calls Tryz.prog 161 #[pv4 a] w fun E w'=>E=.returned (pv4 (dbl4 a))∧Below w.heap.size w w' :=
 double_any _ _ _ _ ha.x ha.y ha.z ha.t ha.pos w
theorem negp4 {a:N4} {p:Pt} (ha:Ok4 a p) (w:World):Calls Tryz.prog 35 #[pv4 a] w fun E w'=>E=.returned (pv4 (neg4 a))∧Below w.heap.size w w' :=
 neg_any _ _ _ _ ha.x ha.y ha.z ha.t ha.pos w
theorem samep4 {a b:N4} {p q:Pt} (ha:Ok4 a p) (hb:Ok4 b q) (w:World):Calls Tryz.prog 84 #[pv4 a,pv4 b] w fun E w'=>E=.returned (.bool (decide (p=q)))∧Below w.heap.size w w':=by
 have h:=same_any _ _ _ _ _ _ _ _ ha.x ha.y ha.z ha.t hb.x hb.y hb.z hb.t ha.pos hb.pos w
 rw[same4 ha hb] at h
 exact h
theorem xyp4 {a:N4} {p:Pt} (ha:Ok4 a p) (w:World):Calls Tryz.prog 92 #[pv4 a] w fun E w'=>E=.returned (.tuple #[numV p.1.val,numV p.2.val])∧Below w.heap.size w w':=by
 have h:=xy_any _ _ _ _ ha.x ha.y ha.z ha.t ha.pos w
 rw[(xy_of _ _ _ p ha.z ha.ext.rep).1,(xy_of _ _ _ p ha.z ha.ext.rep).2] at h
 exact h
theorem rxy3 {a:N3} {p:Pt} (ha:Ok3 a p) (w:World):Calls Tryz.prog 64 #[pv3 a] w fun E w'=>E=.returned (.tuple #[numV p.1.val,numV p.2.val])∧Below w.heap.size w w':=by
 have h:=rxy_any _ _ _ ha.is.1 ha.is.2.1 ha.is.2.2 w
 rw[(xy_of _ _ _ p ha.is.2.2 ha.rep).1,(xy_of _ _ _ p ha.is.2.2 ha.rep).2] at h
 exact h
theorem run_not_of {P:Program} {o:Oper} {A:Act} {t:TypeId} {x:Operand} {b:Bool} (W:World) (ho:o.op=.unOp .not t x) (hx:A.eval x=.bool b) {c:Bool} (hc:(!b)=c):(execOp A.eval o).run P W=.ok (.value (.bool c)) W:=by
 subst hc
 unfold execOp
 simp only[ho,hx]
 rfl
theorem run_eqint_of {P:Program} {o:Oper} {A:Act} {t t':TypeId} {x y:Operand} {k:IntKind} {m n:Int} (W:World) (ho:o.op=.binOp .eql t x y t') (hx:A.eval x=.int k m) (hy:A.eval y=.int k n) {c:Bool} (hc:(m == n)=c):(execOp A.eval o).run P W=.ok (.value (.bool c)) W:=by
 subst hc
 unfold execOp
 simp only[ho,hx,hy]
 simp[eqGuard,binOp,Op.intCmp,Sem.run_bind]
theorem run_neint_of {P:Program} {o:Oper} {A:Act} {t t':TypeId} {x y:Operand} {k:IntKind} {m n:Int} (W:World) (ho:o.op=.binOp .neq t x y t') (hx:A.eval x=.int k m) (hy:A.eval y=.int k n) {c:Bool} (hc:(!(m == n))=c):(execOp A.eval o).run P W=.ok (.value (.bool c)) W:=by
 subst hc
 unfold execOp
 simp only[ho,hx,hy]
 simp[eqGuard,binOp,Op.intCmp,Sem.run_bind]
 rfl
theorem run_cv_of {P:Program} {o:Oper} {A:Act} {t t':TypeId} {x:Operand} {u v:Value} {W W':World} (ho:o.op=.convert t t' x) (hx:A.eval x=u) (h:(convert t t' u).run P W=.ok v W'):(execOp A.eval o).run P W=.ok (.value v) W':=by
 unfold execOp
 simp only[ho,hx,Sem.run_bind,h,Result.andThen_ok]
 rfl
section
variable {α:Type} [Lean.Grind.CommRing α]
theorem mk_ring (A B d x y:α) (h:d*A = -B):A-B*(x*x)*(y*y)=(1+d*(x*x)*(y*y))*A:=by grind
theorem com_ring (A b:α):A*b=b*A:=by grind
end
theorem d_fz:dF*fz 121666 = -(fz 121665):=by
 have h1:fz (dN*121666)=fz (PN-121665):=by rw[← fz_mod,d_is.1,fz_mod]
 rw[fz_mul] at h1
 show fz dN*fz 121666 = -(fz 121665)
 rw[h1,← fz_negm 121665 (by decide +kernel),fz_mod]
 congr 1
theorem small_fz:fz 121666≠0:=fun e=>absurd ((fz_null 121666).1 e) (by decide +kernel)
theorem makeB_on (X Y:Nat):makeB X Y=true↔On (fz X,fz Y):=by
 unfold makeB On
 rw[decide_eq_true_eq]
 have e:∀ a b:Nat,(a%PN=b%PN)=(fz a=fz b):=fun a b=>propext (fz_eq a b)
 rw[e]
 simp only[fz_mod,fz_mul,fz_sub _ _ (Nat.le_of_lt (md _))]
 rw[mk_ring _ _ _ _ _ d_fz,com_ring]
 constructor
 ·intro h
  exact fp_cancel _ _ _ small_fz h
 ·intro h
  rw[show fz Y*fz Y-fz X*fz X=1+dF*(fz X*fz X)*(fz Y*fz Y) from h]
theorem make_yes (X Y:Nat) (hX:X<PN) (hY:Y<PN) (h:On (fz X,fz Y)) (w:World):Calls Tryz.prog 33 #[numV X,numV Y] w fun E w'=>E=.returned (.tuple #[pv4 (X,Y,1,X*Y%PN),.int .i64 0])∧Below w.heap.size w w':=by
 have hc:=make_any X Y hX hY w
 rw[makeR,(makeB_on X Y).2 h] at hc
 exact hc
set_option maxRecDepth 20000 in
set_option maxHeartbeats 8000000 in
theorem beside_any (Y:Nat) (w:World) (hY:Y<PN):Calls Tryz.prog 32 #[numV Y] w fun E w'=>E=.returned (.tuple #[numV (rootN iV (sqR Y)),.bool (okN iV (sqR Y))])∧Below w.heap.size w w':=by
 have HMIX:=Lib.hid (show Tryz.prog.follows .mixedOrders=true by kernel_rfl)
 go_enter Tryz.func32,Tryz.ntmps32
 have hM0:=Mem.start w
 (go_step;go_step;refine wp_region_lit ?_)
 refine wl_new hM0 (f:=fun b=>.pointer (some ⟨b,0,none⟩)) (ob:=.cells (elR Y) 36 (0,0)) (fun W=>run_box_of rfl rfl (bx_El Y W)) rfl fun b1 W1 hM1=>?_
 simp only[nm0,nm1,nm2,nm3]
 refine wl_new hM1 (f:=fun b=>.pointer (some ⟨b,0,none⟩)) (ob:=.cells z4 36 (0,0)) (fun W=>run_alloc_of rfl (al_El W)) rfl fun b2 W2 hM2=>?_
 simp only[nm0,nm1,nm2,nm3]
 refine wl_pure (v:=.bool false) (fun _=>rfl) rfl ?_
 simp only[nm0,nm1,nm2,nm3]
 refine wpList_nil ?_
 (go_step;go_step;go_step;refine wp_region_inw 7 HMIX.out (by decide) (by kernel_rfl) (by kernel_rfl) ?_)
 refine inw_callV (args:=#[.int .u64 1]) (v:=numV 1) (fun W=>run_call_fn W (enters_of Tryz.func34 rfl rfl) rfl (by simp[Act.eval])) (fun W _=>psmall_any_ 1 (by decide) W) rfl rfl ?_;simp only[nm0,nm1,nm2,nm3]
 refine inw_row hM2 1 (v:=numV Y) rfl rfl rfl rfl rowEl rfl rfl ?_;simp only[nm0,nm1,nm2,nm3]
 refine inw_row hM2 1 (v:=numV Y) rfl rfl rfl rfl rowEl rfl rfl ?_;simp only[nm0,nm1,nm2,nm3]
 refine inw_slice (n:=2) (L:=elR Y++elR Y) (T:=36) (fun W=>run_slice_of rfl (by simp[Act.eval]) (bs2 Y Y W)) rfl rfl ?_;simp only[List.nil_append,List.cons_append]
 obtain⟨v1,ev1⟩:∃ x,x=Y*Y%PN:=⟨_,rfl⟩
 have pv1:v1<PN:=by rw[ev1];exact Nat.mod_lt _ PN_pos
 have Kv1:=mul_two' Y Y hY hY
 rw[← ev1] at Kv1
 refine inw_callS 3 10 (v:=numV v1) rfl rfl (fun _=>rfl) (fun b W=>run_call_fn W (enters_of Tryz.func76 rfl rfl) rfl (by simp[Act.eval,Act.put])) (fun b W h=>Kv1 b W h) ?_;simp only[nm0,nm1,nm2,nm3]
 refine inw_new (.cells z4 36 (0,0)) rfl rfl (fun A W=>run_alloc_of rfl (al_El W)) ?_;simp only[List.nil_append,List.cons_append]
 refine inw_new (.cells z4 36 (0,0)) rfl rfl (fun A W=>run_alloc_of rfl (al_El W)) ?_;simp only[List.nil_append,List.cons_append]
 refine inw_fin fun d os=>?_
 refine given_mk (t:=10) rfl fun s3=>?_
 refine given_new (t:=4) rfl fun b3 lb3 gb3=>?_
 refine given_new (t:=5) rfl fun b4 lb4 gb4=>?_
 refine given_nil fun hap=>?_
 simp only[nm0,nm1,nm2,nm3] at hap ⊢
 have nb3b4:b3≠b4:=hap.ne 5 6 rfl rfl rfl rfl rfl rfl rfl
 have hM3:=hM2.news2 (below_regrown W2 d os) lb3 gb3 lb4 gb4 nb3b4
 clear hap lb3 gb3 lb4 gb4 nb3b4
 generalize grow (redrawn W2 d) os=W3 at hM3 ⊢
 change wpAny _ _ _ _ 2 _ _ _
 refine any_set (n:=7) (by kernel_rfl) rfl hM3 0 (cs:=(elR 1)) rfl rfl rfl rfl rowEl rfl (one_el 1) rfl rfl fun W4 hM4=>?_
 simp only[nm2,nm3] at hM4
 refine any_set (n:=8) (by kernel_rfl) rfl hM4 1 (cs:=(elR v1)) rfl rfl rfl rfl rowEl rfl (one_el v1) rfl rfl fun W5 hM5=>?_
 simp only[nm2,nm3] at hM5
 refine wpAny_done (by kernel_rfl) ?_ _
 (go_step;go_step;go_step;refine wp_region_inw 8 HMIX.out (by decide) (by kernel_rfl) (by kernel_rfl) ?_)
 refine inw_callV (args:=#[]) (v:=numV dN) (fun W=>run_call_fn W (enters_of Tryz.func78 rfl rfl) rfl (by simp[Act.eval])) (fun W _=>curD_any W) rfl rfl ?_;simp only[nm0,nm1,nm2,nm3]
 refine inw_row hM5 1 (v:=numV v1) rfl rfl rfl rfl rowEl rfl rfl ?_;simp only[nm0,nm1,nm2,nm3]
 refine inw_slice (n:=2) (L:=elR dN++elR v1) (T:=36) (fun W=>run_slice_of rfl (by simp[Act.eval]) (bs2 dN v1 W)) rfl rfl ?_;simp only[List.nil_append,List.cons_append]
 obtain⟨v2,ev2⟩:∃ x,x=dN*v1%PN:=⟨_,rfl⟩
 have pv2:v2<PN:=by rw[ev2];exact Nat.mod_lt _ PN_pos
 have Kv2:=mul_two' dN v1 d_is.2 pv1
 rw[← ev2] at Kv2
 refine inw_callS 2 14 (v:=numV v2) rfl rfl (fun _=>rfl) (fun b W=>run_call_fn W (enters_of Tryz.func76 rfl rfl) rfl (by simp[Act.eval,Act.put])) (fun b W h=>Kv2 b W h) ?_;simp only[nm0,nm1,nm2,nm3]
 refine inw_row hM5 0 (v:=numV 1) rfl rfl rfl rfl rowEl rfl rfl ?_;simp only[nm0,nm1,nm2,nm3]
 refine inw_slice (n:=2) (L:=elR v2++elR 1) (T:=36) (fun W=>run_slice_of rfl (by simp[Act.eval]) (bs2 v2 1 W)) rfl rfl ?_;simp only[List.nil_append,List.cons_append]
 obtain⟨v3,ev3⟩:∃ x,x=(v2+1)%PN:=⟨_,rfl⟩
 have pv3:v3<PN:=by rw[ev3];exact Nat.mod_lt _ PN_pos
 have Kv3:=add_two' v2 1 pv2 (by decide +kernel)
 rw[← ev3] at Kv3
 refine inw_callS 5 17 (v:=numV v3) rfl rfl (fun _=>rfl) (fun b W=>run_call_fn W (enters_of Tryz.func77 rfl rfl) rfl (by simp[Act.eval,Act.put])) (fun b W h=>Kv3 b W h) ?_;simp only[nm0,nm1,nm2,nm3]
 refine inw_new (.cells z4 36 (0,0)) rfl rfl (fun A W=>run_alloc_of rfl (al_El W)) ?_;simp only[List.nil_append,List.cons_append]
 refine inw_fin fun d os=>?_
 refine given_mk (t:=14) rfl fun s2=>?_
 refine given_mk (t:=17) rfl fun s5=>?_
 refine given_new (t:=6) rfl fun b5 lb5 gb5=>?_
 refine given_nil fun hap=>?_
 simp only[nm0,nm1,nm2,nm3] at hap ⊢
 have hM6:=hM5.news1 (below_regrown W5 d os) lb5 gb5 
 clear hap lb5 gb5
 generalize grow (redrawn W5 d) os=W6 at hM6 ⊢
 change wpAny _ _ _ _ 1 _ _ _
 refine any_set (n:=8) (by kernel_rfl) rfl hM6 0 (cs:=(elR v3)) rfl rfl rfl rfl rowEl rfl (one_el v3) rfl rfl fun W7 hM7=>?_
 simp only[nm2,nm3] at hM7
 refine wpAny_done (by kernel_rfl) ?_ _
 (go_step;go_step;go_step;refine wp_region_inz 10 9 rfl rfl (steady_extract rfl) (by kernel_rfl) (by decide) HMIX.out (by decide) (by kernel_rfl) (by kernel_rfl) ?_)
 refine inw_row hM7 2 (v:=numV v1) rfl rfl rfl rfl rowEl rfl rfl ?_;simp only[nm0,nm1,nm2,nm3]
 refine inw_row hM7 1 (v:=numV 1) rfl rfl rfl rfl rowEl rfl rfl ?_;simp only[nm0,nm1,nm2,nm3]
 obtain⟨v4,ev4⟩:∃ x,x=(v1+PN-1)%PN:=⟨_,rfl⟩
 have pv4:v4<PN:=by rw[ev4];exact Nat.mod_lt _ PN_pos
 have Kv4:=fun W=>psub_any v1 1 W pv1 (by decide +kernel)
 simp only[← ev4] at Kv4
 refine inw_callV (args:=#[numV v1,numV 1]) (v:=numV v4) (fun W=>run_call_fn W (enters_of Tryz.func80 rfl rfl) rfl (by simp[Act.eval])) (fun W _=>Kv4 W) rfl rfl ?_;simp only[nm0,nm1,nm2,nm3]
 refine inw_row hM7 0 (v:=numV v3) rfl rfl rfl rfl rowEl rfl rfl ?_;simp only[nm0,nm1,nm2,nm3]
 obtain⟨v5,ev5⟩:∃ x,x=IV v3:=⟨_,rfl⟩
 have pv5:v5<PN:=by rw[ev5];exact IV_lt _
 have Kv5:=fun W=>pinv_any' v3 W pv3
 simp only[← ev5] at Kv5
 refine inw_callV (args:=#[numV v3]) (v:=numV v5) (fun W=>run_call_fn W (enters_of Tryz.func81 rfl rfl) rfl (by simp[Act.eval])) (fun W _=>Kv5 W) rfl rfl ?_;simp only[nm0,nm1,nm2,nm3]
 refine inw_slice (n:=2) (L:=elR v4++elR v5) (T:=36) (fun W=>run_slice_of rfl (by simp[Act.eval]) (bs2 v4 v5 W)) rfl rfl ?_;simp only[List.nil_append,List.cons_append]
 obtain⟨v6,ev6⟩:∃ x,x=v4*v5%PN:=⟨_,rfl⟩
 have pv6:v6<PN:=by rw[ev6];exact Nat.mod_lt _ PN_pos
 have Kv6:=mul_two' v4 v5 pv4 pv5
 rw[← ev6] at Kv6
 refine inw_callS 5 24 (v:=numV v6) rfl rfl (fun _=>rfl) (fun b W=>run_call_fn W (enters_of Tryz.func76 rfl rfl) rfl (by simp[Act.eval,Act.put])) (fun b W h=>Kv6 b W h) ?_;simp only[nm0,nm1,nm2,nm3]
 obtain⟨v7,ev7⟩:∃ x,x=rootN iV v6:=⟨_,rfl⟩
 have pv7:v7<PN:=by rw[ev7];exact rootN_below _
 have Kv7:=fun W=>proot' v6 W pv6
 simp only[← ev7] at Kv7
 obtain⟨ok1,eok1⟩:∃ x,x=okN iV v6:=⟨_,rfl⟩
 simp only[← eok1] at Kv7
 refine inw_callV (args:=#[numV v6]) (v:=.tuple #[numV v7,.bool ok1]) (fun W=>run_call_fn W (enters_of Tryz.func79 rfl rfl) rfl (by simp[Act.eval])) (fun W _=>Kv7 W) rfl rfl ?_;simp only[nm0,nm1,nm2,nm3]
 refine inw_pure (v:=numV v7) (fun _=>rfl) rfl rfl ?_;simp only[nm0,nm1,nm2,nm3]
 refine inw_pure (v:=.bool ok1) (fun _=>rfl) rfl rfl ?_;simp only[nm0,nm1,nm2,nm3]
 refine inw_fin fun d os=>?_
 refine given_mk (t:=24) rfl fun s5=>?_
 refine given_nil fun hap=>?_
 simp only[nm0,nm1,nm2,nm3] at hap ⊢
 have hM8:=hM7.calls (below_regrown W7 d os)
 clear hap 
 generalize grow (redrawn W7 d) os=W8 at hM8 ⊢
 change wpAny _ _ _ _ 2 _ _ _
 refine any_set (n:=10) (by kernel_rfl) rfl hM8 3 (cs:=(elR v7)) rfl rfl rfl rfl rowEl rfl (one_el v7) rfl rfl fun W9 hM9=>?_
 simp only[nm2,nm3] at hM9
 refine any_pure (n:=11) (v:=.bool ok1) (by kernel_rfl) rfl (fun _=>rfl) rfl rfl ?_
 simp only[nm0,nm1,nm2,nm3]
 refine wpAny_done (by kernel_rfl) ?_ _
 refine NoPanic.normal ?_
 (go_step;go_step;go_step;refine bodyPost_ret (v:=.tuple #[numV v7,.bool ok1]) (results_arr_tmp Tryz.results32 rfl rfl (hM9.load 3 rfl rowEl)) rfl ⟨?_,hM9.below⟩)
 exact by rw[eok1,ev7,ev6,ev5,ev4,ev3,ev2,ev1];unfold sqR;rfl
/-- A type whose values lie in one cell. -/
def CellTy (P:Program) (ty:TypeId):Prop:=(∃ d,P.underlying ty=some d∧(match d with | .struct _ | .array _ _=>false | _=>true)=true)∧(P.info? ty).map (·.size)=some 1
section
variable {P:Program} {w w0 w00:World} {M:List Blk} {o:Oper} {A:Act}
/-- A function value that has taken variables is called. -/
theorem run_call_dyn {f:FuncId} {x:Operand} {args:Array Operand} {tys:Array TypeId} {vals first cap all:Array Value} (W:World) (hE:Enters P f) (ho:o.op=.call { callee:=.value x,args:=args,argTypes:=tys }) (hx:A.eval x=.func (.func f) first cap) (hv:args.map A.eval=vals) (ha:first++vals++cap=all):(execOp A.eval o).run P W=.ok (.enter f all) W:=by
 have h:=hE all W
 unfold execOp
 simp[ho,resolve,Deferred.ofValue,hx,invoke,hv]
 rw[← Array.append_assoc,ha,h]
theorem run_makeFunc_of {fn:Fn} {first cap:Array Operand} {v:Value} {W W':World} (ho:o.op=.makeFunc fn first cap) (h:(Instr.makeFunc fn (first.map A.eval) (cap.map A.eval)).run P W=.ok v W'):(execOp A.eval o).run P W=.ok (.value v) W':=by
 unfold execOp
 simp only[ho,Sem.run_bind,h,Result.andThen_ok]
 rfl
theorem load_cell {b off:Nat} {cs:Array Value} {v:Value} {t:TypeId} {fr:Nat × Nat} (hi:w.heap[b]?=some (.cells cs t fr)) (hv:cs[off]?=some v) {ty:TypeId} (hT:CellTy P ty):(loadVar ty ⟨b,off,none⟩).run P w=.ok v w:=by
 obtain⟨⟨d,hu,hd⟩,_⟩:=hT
 have hagg:(isAgg ty).run P w=.ok false w:=by
  unfold isAgg
  rw[Sem.run_bind,run_underlying hu w]
  cases d <;> first | rfl | cases hd
 have hc:w.cell? ⟨b,off,none⟩=some v:=by rw[cell_of_row w b off cs t fr hi,hv]
 unfold loadVar
 rw[Sem.run_bind,hagg]
 simp[hc]
theorem run_load_cell {ty:TypeId} {x:Operand} {b off:Nat} {t:TypeId} {cs:Array Value} {v:Value} {fr:Nat × Nat} (ho:o.op=.load ty x) (hx:A.eval x=.pointer (some ⟨b,off,none⟩)) (hg:w.heap[b]?=some (.cells cs t fr)) (hv:cs[off]?=some v) (hT:CellTy P ty) :
    (execOp A.eval o).run P w=.ok (.value v) w:=by
 unfold execOp
 simp only[ho,hx,Instr.loadAt,Instr.sureAddr,Sem.run_bind,Sem.run_pure,Result.andThen_ok,load_cell hg hv hT]
/-- A value of one cell goes into a row's cell. -/
theorem run_store_at {b off:Nat} {cs:Array Value} {v:Value} {t ty:TypeId} (hg:w.heap[b]?=some (.cells cs t (0,0))) (hl:off<cs.size) (hT:CellTy P ty) (h1:v.oneCell'=true):(storeVar ty ⟨b,off,none⟩ v).run P w=.ok () (w.setRow b (cs.setIfInBounds off v)):=by
 have h:=run_storeCells_at (P:=P) b off t [v] 0 cs w hg (by simp only[List.length_singleton];omega) (fun x hx=>by simp at hx;subst hx;exact h1)
 have hc:v.cells=#[v]:=by cases v <;> first | rfl | cases h1
 obtain⟨_,hi⟩:=hT
 cases hq:P.info? ty with
 | none=>simp[hq] at hi
 | some i =>
   have hs:i.size=1:=by simpa [hq] using hi
   simp[storeVar,hc,sizeOf,typeInfo,hq,hs,Sem.run_bind]
   rw[h]
   congr 2
   refine Array.ext' ?_
   rw[Array.toList_setIfInBounds,List.set_eq_take_append_cons_drop,if_pos (by simpa using hl)]
   simp
end
section
variable {P:Program} {ops:Array Oper} {w w0 w00:World} {Q:Exit→Act→World→Prop} {Qw:Act→World→Prop} {o:Oper} {rest:List Oper} {A:Act} {M:List Blk} {k:Nat} {Ps:List PkW} {ns:List Nat} {md:Region.Mode} {fuel:Nat} {listed:Array Bool} {S:World→Prop}
theorem wl_cell (hM:Mem w0 M w) (i:Nat) {ty:TypeId} {x:Operand} {b off:Nat} {t:TypeId} {cs:Array Value} {fr:Nat × Nat} {v:Value} (ho:o.op=.load ty x) (hx:A.eval x=.pointer (some ⟨b,off,none⟩)) (hi:M[i]?=some (b,.cells cs t fr)) (hv:cs[off]?=some v) (hT:CellTy P ty)
    (hgd:Region.wanted o (yielded ops A.tmps)=true) (hr:wpList P ops Q rest (A.put o.dst v) w):wpList P ops Q (o::rest) A w:=by
 refine wpList_step fun K hK=>?_
 rw[if_pos hgd]
 unfold Oper.wp
 rw[run_load_cell ho hx (hM.get i hi) hv hT]
 exact hK _ _ hr
theorem inw_cell (hM:Mem w00 M w0) (i:Nat) {ty:TypeId} {x:Operand} {b off:Nat} {t:TypeId} {cs:Array Value} {fr:Nat × Nat} {v:Value} (ho:o.op=.load ty x) (hx:A.eval x=.pointer (some ⟨b,off,none⟩)) (hi:M[i]?=some (b,.cells cs t fr)) (hv:cs[off]?=some v) (hT:CellTy P ty)
    (hf:Ps.filter (waits ops o)=[]) (hw:Region.wanted o (yielded ops A.tmps)=true) (hr:wpInw P ops w0 Qw rest (k+1) (A.put o.dst v) Ps ns):wpInw P ops w0 Qw (o::rest) k A Ps ns :=
 inw_val hf hw (fun d os=>run_load_cell ho hx ((hM.calls (below_regrown w0 d os)).get i hi) hv hT) hr
theorem hd_cell (n:Nat) (d:Tmp) {v:Value} {ty:TypeId} {x:Operand} {b off:Nat} {t:TypeId} {cs:Array Value} {fr:Nat × Nat} (L:Array Bool) (hL:listed.setIfInBounds n true=L) (hn:ops[n]?=some o) (hdd:o.dst=some d) (ho:o.op=.load ty x) (hx:A.eval x=.pointer (some ⟨b,off,none⟩)) (hg:∀ W,S W→W.heap[b]?=some (.cells cs t fr)) (hv:cs[off]?=some v) (hT:CellTy P ty) (hs:Region.noSelect ops=true) (hf:Region.free md ops listed n=true) (hr:(Region.ready md ops listed).contains n=true) (hw:Region.wanted o (yielded ops A.tmps)=true) (hS:S w)
    (h:wpAnyH P md ops (NoPanic Q) S fuel L (A.put (some d) v) w):wpAnyH P md ops (NoPanic Q) S (fuel+1) listed A w :=
 hd_take n d L hL hn hdd hs hf hr hw (fun W hW=>run_load_cell ho hx (hg W hW) hv hT) hS h
/-- A value of one cell is stored. -/
theorem wp_setat (hM:Mem w0 M w) (i:Nat) {K:Act→World→Prop} {ty:TypeId} {x y:Operand} {b off:Nat} {t:TypeId} {cs cs':Array Value} {v:Value} (ho:o.op=.store ty x y) (hx:A.eval x=.pointer (some ⟨b,off,none⟩)) (hy:A.eval y=v) (hi:M[i]?=some (b,.cells cs t (0,0))) (hl:off<cs.size) (hc:cs.setIfInBounds off v=cs') (hT:CellTy P ty) (h1:v.oneCell'=true)
    (hr:∀ W,Mem w0 (M.set i (b,.cells cs' t (0,0))) W→K (A.put o.dst undef) W):o.wp P A w K Q:=by
 subst hc
 unfold Oper.wp execOp
 simp only[ho,hx,hy,Instr.storeAt,Instr.sureAddr,Sem.run_bind,Sem.run_pure,Result.andThen_ok,run_store_at (hM.get i hi) hl hT h1]
 exact hr _ (hM.set i hi)
theorem wl_setat (hM:Mem w0 M w) (i:Nat) {ty:TypeId} {x y:Operand} {b off:Nat} {t:TypeId} {cs cs':Array Value} {v:Value} (ho:o.op=.store ty x y) (hx:A.eval x=.pointer (some ⟨b,off,none⟩)) (hy:A.eval y=v) (hi:M[i]?=some (b,.cells cs t (0,0))) (hl:off<cs.size) (hc:cs.setIfInBounds off v=cs') (hT:CellTy P ty) (h1:v.oneCell'=true)
    (hgd:Region.wanted o (yielded ops A.tmps)=true) (hd:o.dst=none) (hr:∀ W,Mem w0 (M.set i (b,.cells cs' t (0,0))) W→wpList P ops Q rest A W):wpList P ops Q (o::rest) A w:=by
 refine wpList_step fun K hK=>?_
 rw[if_pos hgd]
 refine wp_setat hM i ho hx hy hi hl hc hT h1 fun W hW=>?_
 rw[hd]
 exact hK _ _ (hr W hW)
theorem any_setat {n:Nat} (hr:Region.ready md ops listed=[n]) (hn:ops[n]?=some o) (hM:Mem w0 M w) (i:Nat) {ty:TypeId} {x y:Operand} {b off:Nat} {t:TypeId} {cs cs':Array Value} {v:Value} (ho:o.op=.store ty x y) (hx:A.eval x=.pointer (some ⟨b,off,none⟩)) (hy:A.eval y=v) (hi:M[i]?=some (b,.cells cs t (0,0))) (hl:off<cs.size) (hc:cs.setIfInBounds off v=cs') (hT:CellTy P ty) (h1:v.oneCell'=true)
    (hgd:o.guard=none) (hd:o.dst=none) (hk:∀ W,Mem w0 (M.set i (b,.cells cs' t (0,0))) W→wpAny P md ops Q fuel (listed.setIfInBounds n true) A W):wpAny P md ops Q (fuel+1) listed A w :=
 any_one hr hn fun K hK=>by
  rw[if_pos (by simp[Region.wanted,hgd])]
  refine wp_setat hM i ho hx hy hi hl hc hT h1 fun W hW=>?_
  rw[hd]
  exact hK _ _ (hk W hW)
theorem hd_setat {n:Nat} (L:Array Bool) (hL:listed.setIfInBounds n true=L) (hr:Region.ready md ops listed=[n]) (hn:ops[n]?=some o) (hM:Mem w0 M w) (i:Nat) {ty:TypeId} {x y:Operand} {b off:Nat} {t:TypeId} {cs cs':Array Value} {v:Value} (ho:o.op=.store ty x y) (hx:A.eval x=.pointer (some ⟨b,off,none⟩)) (hy:A.eval y=v) (hi:M[i]?=some (b,.cells cs t (0,0))) (hl:off<cs.size) (hc:cs.setIfInBounds off v=cs') (hT:CellTy P ty) (h1:v.oneCell'=true)
    (hgd:o.guard=none) (hd:o.dst=none) (hSW:∀ W,Mem w0 (M.set i (b,.cells cs' t (0,0))) W→S W) (hk:∀ W,Mem w0 (M.set i (b,.cells cs' t (0,0))) W→wpAnyH P md ops Q S fuel L A W):wpAnyH P md ops Q S (fuel+1) listed A w :=
 wpAnyH_ready hr (by simp) fun j hj=>by
  obtain rfl:j=n:=by simpa using hj
  unfold wpOp
  simp only[hn]
  rw[if_pos (by simp[Region.wanted,hgd])]
  refine .inl (wp_setat hM i ho hx hy hi hl hc hT h1 fun W hW=>?_)
  rw[hd,hL]
  exact⟨hSW W hW,hk W hW⟩
end
theorem cellU:CellTy Tryz.prog 22:=⟨⟨_,Tryz.underlying22,rfl⟩,by kernel_rfl⟩
theorem or63 (a:Nat) (h:a<9223372036854775808) (x y:Operand) (W:World):(do eqGuard .or 22 x y (.int .u64 (a:Int)) (.int .u64 9223372036854775808);binOp .or 22 (.int .u64 (a:Int)) (.int .u64 9223372036854775808):Sem Value).run Tryz.prog W=.ok (.int .u64 ((a+9223372036854775808:Nat):Int)) W:=by
 have e:bits .or .u64 (a:Int) 9223372036854775808=((a+9223372036854775808:Nat):Int):=by
  have h1:=u64_or_nat a 9223372036854775808 (by omega) (by omega)
  have h2:=Nat.two_pow_add_eq_or_of_lt (i:=63) (b:=a) (by omega) 1
  have h3:a ||| 9223372036854775808=a+9223372036854775808:=by
   rw[Nat.or_comm,Nat.add_comm]
   exact h2.symm
  rw[h3] at h1
  exact h1
 go_simp
theorem andnot63 (a:Nat) (h:a<18446744073709551616) (x y:Operand) (W:World):(do eqGuard .andNot 22 x y (.int .u64 (a:Int)) (.int .u64 9223372036854775808);binOp .andNot 22 (.int .u64 (a:Int)) (.int .u64 9223372036854775808):Sem Value).run Tryz.prog W=.ok (.int .u64 ((a%9223372036854775808:Nat):Int)) W:=by
 have e:bits .andNot .u64 (a:Int) 9223372036854775808=((a%9223372036854775808:Nat):Int):=by
  have h1:=u64_andNot_nat a 9223372036854775808 (by omega) (by omega)
  have h2:a &&& 9223372036854775807=a%9223372036854775808:=Nat.and_two_pow_sub_one_eq_mod a 63
  rw[show (18446744073709551615-9223372036854775808:Nat)=9223372036854775807 from rfl,h2] at h1
  exact h1
 go_simp
/-- The highest bit set, and struck. -/
theorem wd_low (n:Nat) (hn:n<PN):wd n 3<9223372036854775808:=by
 have h:n<9223372036854775808*B64^3:=Nat.lt_trans hn (by decide +kernel)
 unfold wd
 exact Nat.lt_of_le_of_lt (Nat.mod_le _ _) (Nat.div_lt_of_lt_mul (by rw[Nat.mul_comm];exact h))
theorem el_high (n:Nat) (hn:n<PN):(elR n).setIfInBounds 3 (.int .u64 ((wd n 3+9223372036854775808:Nat):Int))=elR (n+9223372036854775808*B64^3):=by
 have hB:0<B64:=by decide
 have e0:wd (n+9223372036854775808*B64^3) 0=wd n 0:=by
  unfold wd
  rw[Nat.pow_zero,Nat.div_one,Nat.div_one,show 9223372036854775808*B64^3=(9223372036854775808*B64^2)*B64 by decide +kernel,Nat.add_mul_mod_self_right]
 have e1:wd (n+9223372036854775808*B64^3) 1=wd n 1:=by
  unfold wd
  rw[show 9223372036854775808*B64^3=(9223372036854775808*B64*B64)*B64^1 by decide +kernel,Nat.add_mul_div_right _ _ (by decide),Nat.add_mul_mod_self_right]
 have e2:wd (n+9223372036854775808*B64^3) 2=wd n 2:=by
  unfold wd
  rw[show 9223372036854775808*B64^3=(9223372036854775808*B64)*B64^2 by decide +kernel,Nat.add_mul_div_right _ _ (by decide +kernel),Nat.add_mul_mod_self_right]
 have e3:wd (n+9223372036854775808*B64^3) 3=wd n 3+9223372036854775808:=by
  have hl:=wd_low n hn
  unfold wd at hl ⊢
  rw[Nat.add_mul_div_right _ _ (by decide +kernel)]
  have hd:n/B64^3<9223372036854775808:=Nat.div_lt_of_lt_mul (by rw[Nat.mul_comm];exact Nat.lt_trans hn (by decide +kernel))
  rw[Nat.mod_eq_of_lt (Nat.lt_trans hd (by decide))] at hl ⊢
  obtain⟨q,hq⟩:∃ q,n/B64^3=q:=⟨_,rfl⟩
  rw[hq] at hd ⊢
  exact Nat.mod_eq_of_lt (by have hB2:B64=18446744073709551616:=rfl;omega)
 unfold elR
 rw[e0,e1,e2,e3]
 rfl
section
variable {α:Type} [Lean.Grind.CommRing α]
theorem neg_of (a:α) (h:a+1=0):(-1:α)=a:=by grind
theorem zero_form (d y:α) (h:y=0):d*(y*y)+1=1:=by grind
theorem on_form (x y d:α):(y*y-x*x=1+d*(x*x)*(y*y))↔(x*x)*(d*(y*y)+1)=y*y-1:=⟨fun h=>by grind,fun h=>by grind⟩
theorem mul_back (a b c:α) (h:c*b=1):a*b*c=a:=by grind
theorem sq_two (a b:α) (h:a*a=b*b):(a-b)*(a+b)=0:=by grind
theorem sub_is (a b:α) (h:a-b=0):a=b:=by grind
theorem add_is (a b:α) (h:a+b=0):a = -b:=by grind
theorem neg_neg' (a b:α) (h:a = -b) : -a=b:=by grind
end
theorem under_ne (y:Fp):dF*(y*y)+1≠0:=fun h=>by
 have h1:iF*iF=dF*(y*y):=by rw[i_sqF];exact neg_of _ h
 have h2:=d_nsq iF y h1
 rw[zero_form dF y h2] at h
 exact absurd h (by decide +kernel)
theorem sqR_fz (Y:Nat):fz (sqR Y)*(dF*(fz Y*fz Y)+1)=fz Y*fz Y-1:=by
 have hu:fz ((dN*(Y*Y%PN)%PN+1)%PN)=dF*(fz Y*fz Y)+1:=by
  rw[fz_mod,fz_add,fz_mod,fz_mul,fz_mod,fz_mul,fz_one]
 have hn:fz ((Y*Y%PN+PN-1)%PN)=fz Y*fz Y-1:=by
  rw[fz_mod,fz_sub _ _ (Nat.le_of_lt one_below),fz_mod,fz_mul,fz_one]
 unfold sqR
 rw[fz_mod,fz_mul,iv_fz _ (Nat.mod_lt _ PN_pos),hu,hn]
 exact mul_back _ _ _ (inv_ok _ (under_ne _))
theorem root_on (Y:Nat) (h:okN iV (sqR Y)=true):On (fz (rootN iV (sqR Y)),fz Y):=by
 have h1:=(root_sq (sqR Y) h).1
 obtain⟨r,hr⟩:∃ r,rootN iV (sqR Y)=r:=⟨_,rfl⟩
 rw[hr] at h1 ⊢
 refine (on_form _ _ _).2 ?_
 show fz r*fz r*_=_
 rw[← fz_mul,← fz_mod,h1]
 exact sqR_fz Y
theorem on_root (p:Pt) (hp:On p):okN iV (sqR p.2.val)=true∧(fz (rootN iV (sqR p.2.val))=p.1∨fz (rootN iV (sqR p.2.val)) = -p.1):=by
 have h1:=(on_form p.1 p.2 dF).1 hp
 have h2:=sqR_fz p.2.val
 rw[fz_of] at h2
 have h3:fz (sqR p.2.val)=p.1*p.1:=fp_cancel _ _ _ (under_ne p.2) (h2.trans h1.symm)
 have h4:sqR p.2.val=p.1.val*p.1.val%PN:=by
  refine fz_inj (sqR_lt _) (Nat.mod_lt _ PN_pos) ?_
  rw[h3,fz_mod,fz_mul,fz_of]
 have h5:okN iV (sqR p.2.val)=true:=by rw[h4];exact square_ok _
 refine⟨h5,?_⟩
 have h6:=(root_sq (sqR p.2.val) h5).1
 obtain⟨r,hr⟩:∃ r,rootN iV (sqR p.2.val)=r:=⟨_,rfl⟩
 rw[hr] at h6 ⊢
 have h7:fz r*fz r=p.1*p.1:=by rw[← fz_mul,← fz_mod,h6,h3]
 rcases fp_dom _ _ (sq_two _ _ h7) with h | h
 ·exact .inl (sub_is _ _ h)
 ·exact .inr (add_is _ _ h)
/-- The x of a point is its y's root, or what is left of p. -/
theorem signed (p:Pt) (hp:On p):(p.1.val%2=1 → -(fz (rootN iV (sqR p.2.val)))=p.1∧rootN iV (sqR p.2.val)≠0)∧(p.1.val%2=0→fz (rootN iV (sqR p.2.val))=p.1):=by
 obtain⟨hk,hs⟩:=on_root p hp
 have hev:=(root_sq (sqR p.2.val) hk).2
 have hlt:=rootN_below (sqR p.2.val)
 obtain⟨r,hr⟩:∃ r,rootN iV (sqR p.2.val)=r:=⟨_,rfl⟩
 rw[hr] at hs hev hlt ⊢
 clear hr hk
 have hx:=p.1.isLt
 have hfx:=fz_of p.1
 have hodd:=PN_odd
 obtain⟨x,ex⟩:∃ x,p.1.val=x:=⟨_,rfl⟩
 rw[ex] at hx hfx ⊢
 rw[← hfx] at hs ⊢
 have hn:=fz_negm x hx
 rcases hs with h | h
 ·have e:=fz_inj hlt hx h
  subst e
  exact⟨fun h1=>by omega,fun _=>rfl⟩
 ·rw[← hn] at h
  have e:=fz_inj hlt (Nat.mod_lt _ PN_pos) h
  have hcases:(x=0∧r=0)∨(x≠0∧r=PN-x):=by
   by_cases h0:x=0
   ·left
    refine⟨h0,?_⟩
    rw[e,h0,Nat.zero_add,Nat.sub_zero,Nat.mod_self]
   ·right
    refine⟨h0,?_⟩
    rw[e,Nat.zero_add]
    exact Nat.mod_eq_of_lt (by omega)
  rcases hcases with ⟨h0,h1⟩ | ⟨h0,h1⟩
  ·subst h0 h1
   exact⟨fun h2=>by omega,fun _=>rfl⟩
  ·refine⟨fun h2=>⟨?_,by omega⟩,fun h2=>by omega⟩
   exact neg_neg' _ _ (by rw[h,hn])
/-- A number's highest bit, and the others. -/
def decY (N:Nat):Nat:=N%(9223372036854775808*B64^3)
def decB (N:Nat):Bool:=decide (bitN N 255=1)
def encN (x n:Nat):Nat:=if x%2=1 then n+9223372036854775808*B64^3 else n
def HB:Nat:=57896044618658097711785492504343953926634992332820282019728792003956564819968
theorem HB_is:9223372036854775808*B64^3=HB∧2^255=HB∧B64^4=2*HB∧PN<HB:=by decide +kernel
theorem enc_dec (x n:Nat) (hn:n<PN):decY (encN x n)=n∧decB (encN x n)=decide (x%2=1)∧encN x n<B64^4:=by
 unfold decY decB bitN encN
 rw[HB_is.1,HB_is.2.1,HB_is.2.2.1]
 have hn2:n<HB:=Nat.lt_trans hn HB_is.2.2.2
 obtain⟨H,hH⟩:∃ H,HB=H:=⟨_,rfl⟩
 rw[hH] at hn2 ⊢
 have hp:0<H:=by omega
 by_cases h:x%2=1
 ·rw[if_pos h,decide_eq_true h]
  have h1:(n+H)/H=1:=by rw[Nat.add_div_right _ hp,Nat.div_eq_of_lt hn2]
  have h2:(n+H)%H=n:=by rw[Nat.add_mod_right,Nat.mod_eq_of_lt hn2]
  rw[h1,h2]
  exact⟨rfl,rfl,by omega⟩
 ·rw[if_neg h,decide_eq_false h]
  rw[Nat.div_eq_of_lt hn2,Nat.mod_eq_of_lt hn2]
  exact⟨rfl,rfl,by omega⟩
/-- What Decode comes to: the error, the point. -/
def decE (N:Nat):Nat:=if decY N<PN then (if okN iV (sqR (decY N))=true then (if decB N=true∧rootN iV (sqR (decY N))=0 then 22 else 0) else 22) else 2
def decX (N:Nat):Nat:=if decB N=true then (0+PN-rootN iV (sqR (decY N)))%PN else rootN iV (sqR (decY N))
def decP (N:Nat):Pt:=if decE N=0 then (fz (decX N),fz (decY N)) else zeroE
theorem dec_enc (p:Pt) (hp:On p):decE (encN p.1.val p.2.val)=0∧decP (encN p.1.val p.2.val)=p:=by
 obtain⟨e1,e2,_⟩:=enc_dec p.1.val p.2.val p.2.isLt
 obtain⟨s1,s2⟩:=signed p hp
 have hk:=(on_root p hp).1
 have h0:decE (encN p.1.val p.2.val)=0:=by
  unfold decE
  rw[e1,e2,if_pos p.2.isLt,if_pos hk,if_neg]
  rintro⟨h1,h2⟩
  exact (s1 (of_decide_eq_true h1)).2 h2
 refine⟨h0,?_⟩
 unfold decP decX
 rw[if_pos h0,e1,e2,fz_of]
 by_cases h:p.1.val%2=1
 ·rw[decide_eq_true h,if_pos rfl,fz_negm _ (rootN_below _),(s1 h).1]
 ·rw[decide_eq_false h,if_neg (by decide),s2 (by omega)]
theorem rowWn:RowTy Tryz.prog 24 4:=⟨.inr ⟨_,_,Tryz.underlying24⟩,by kernel_rfl⟩
theorem bx_Wn (a:Nat) (W:World):(Instr.box 24 (numV a)).run Tryz.prog W=.ok (.pointer (some ⟨W.heap.size,0,none⟩)) (W.alloc (.cells (elR a) 24 (0,0))):=by
 unfold numV elR
 go_simp
theorem ix_Wn3 (b:Nat) (W:World):(Instr.indexAt 24 (.pointer (some ⟨b,0,none⟩)) (.int .i64 3)).run Tryz.prog W=.ok (.pointer (some ⟨b,3,none⟩)) W:=by
 go_simp
set_option maxRecDepth 20000 in
set_option maxHeartbeats 8000000 in
theorem enc1_any (x n g:Nat) (w:World) (hn:n<PN) (hg:w.heap[g]?=some (.cells (elR x) 36 (0,0))):Calls Tryz.prog 93 #[numV n,.pointer (some ⟨g,0,none⟩)] w fun E w'=>E=.returned (.string ⟨(byL (encN x n)).toArray⟩)∧Below w.heap.size w w':=by
 have HMIX:=Lib.hid (show Tryz.prog.follows .mixedOrders=true by kernel_rfl)
 go_enter Tryz.func93,Tryz.ntmps93
 have hM0:=Mem.start w
 (go_step;go_step;refine wp_region_lit ?_)
 refine wl_new hM0 (f:=fun b=>.pointer (some ⟨b,0,none⟩)) (ob:=.cells (elR n) 24 (0,0)) (fun W=>run_box_of rfl rfl (bx_Wn n W)) rfl fun b1 W1 hM1=>?_
 simp only[nm0,nm1,nm2,nm3]
 refine wl_pure (v:=.string ⟨#[]⟩) (fun _=>rfl) rfl ?_
 simp only[nm0,nm1,nm2,nm3]
 refine wpList_nil ?_
 (go_step;go_step;go_step;go_step;refine wp_region_lit ?_)
 refine wl_far (hM1.old hg) (v:=numV x) (sub:=elR x) rfl rfl rfl rfl rowEl rfl ?_
 simp only[nm0,nm1,nm2,nm3]
 obtain⟨c1,hc1⟩:∃ y,y=decide (x%2=1):=⟨_,rfl⟩
 have KO:=fun W=>podd_any x W
 simp only[← hc1] at KO
 refine wl_call hM1 (args:=#[numV x]) (v:=.bool c1) (fun W=>run_call_fn W (enters_of Tryz.func94 rfl rfl) rfl (by simp[Act.eval])) (KO W1) rfl fun W2 hM2=>?_
 simp only[nm0,nm1,nm2,nm3]
 refine wpList_nil ?_
 cases c1
 ·skip
  (go_step;go_step;go_step;go_step;go_step;go_step;go_step;refine wp_region_lit ?_)
  refine wl_row hM2 0 (v:=numV n) rfl rfl rfl rfl rowWn rfl ?_
  simp only[nm0,nm1,nm2,nm3]
  refine wl_call hM2 (args:=#[numV n]) (v:=.string ⟨(byL n).toArray⟩) (fun W=>run_call_fn W (enters_of Tryz.func31 rfl rfl) rfl (by simp[Act.eval])) (bytes_any n W2) rfl fun W3 hM3=>?_
  simp only[nm0,nm1,nm2,nm3]
  refine wl_pure (v:=.string ⟨(byL n).toArray⟩) (fun _=>rfl) rfl ?_
  simp only[nm0,nm1,nm2,nm3]
  refine wpList_nil ?_
  (go_step;go_step;go_step;refine bodyPost_ret (v:=.string ⟨(byL n).toArray⟩) (results_slot Tryz.results93 rfl) rfl ⟨?_,hM3.below⟩)
  exact by
      have h1:=of_decide_eq_false hc1.symm
      unfold encN
      rw[if_neg h1]
 ·skip
  (go_step;go_step;go_step;refine wp_region_lit ?_)
  refine wl_pure (v:=.pointer (some ⟨b1,3,none⟩)) (fun W=>run_index_of rfl rfl rfl (ix_Wn3 b1 W)) rfl ?_
  simp only[nm0,nm1,nm2,nm3]
  refine wl_cell hM2 0 (v:=.int .u64 (wd n 3:Int)) rfl rfl rfl rfl cellU rfl ?_
  simp only[nm0,nm1,nm2,nm3]
  refine wl_pure (v:=.int .u64 (((wd n 3)+9223372036854775808:Nat):Int)) (fun W=>run_bin_of rfl rfl rfl (or63 (wd n 3) (wd_low n hn) _ _ W)) rfl ?_
  simp only[nm0,nm1,nm2,nm3]
  refine wl_pure (v:=.pointer (some ⟨b1,3,none⟩)) (fun W=>run_index_of rfl rfl rfl (ix_Wn3 b1 W)) rfl ?_
  simp only[nm0,nm1,nm2,nm3]
  refine wl_setat hM2 0 (cs':=(elR (n+9223372036854775808*B64^3))) rfl rfl rfl rfl (by show 3<4;decide) (el_high n hn) cellU rfl rfl rfl fun W3 hM3=>?_
  simp only[nm2,nm3] at hM3
  refine wpList_nil ?_
  (go_step;go_step;go_step;refine wp_region_lit ?_)
  refine wl_row hM3 0 (v:=numV (n+9223372036854775808*B64^3)) rfl rfl rfl rfl rowWn rfl ?_
  simp only[nm0,nm1,nm2,nm3]
  refine wl_call hM3 (args:=#[numV (n+9223372036854775808*B64^3)]) (v:=.string ⟨(byL (n+9223372036854775808*B64^3)).toArray⟩) (fun W=>run_call_fn W (enters_of Tryz.func31 rfl rfl) rfl (by simp[Act.eval])) (bytes_any (n+9223372036854775808*B64^3) W3) rfl fun W4 hM4=>?_
  simp only[nm0,nm1,nm2,nm3]
  refine wl_pure (v:=.string ⟨(byL (n+9223372036854775808*B64^3)).toArray⟩) (fun _=>rfl) rfl ?_
  simp only[nm0,nm1,nm2,nm3]
  refine wpList_nil ?_
  (go_step;go_step;go_step;refine bodyPost_ret (v:=.string ⟨(byL (n+9223372036854775808*B64^3)).toArray⟩) (results_slot Tryz.results93 rfl) rfl ⟨?_,hM4.below⟩)
  exact by
      have h1:=of_decide_eq_true hc1.symm
      unfold encN
      rw[if_pos h1]
set_option maxRecDepth 20000 in
set_option maxHeartbeats 8000000 in
theorem encode_any {a:N4} {p:Pt} (ha:Ok4 a p) (w:World):Calls Tryz.prog 40 #[pv4 a] w fun E w'=>E=.returned (.string ⟨(byL (encN p.1.val p.2.val)).toArray⟩)∧Below w.heap.size w w':=by
 have HMIX:=Lib.hid (show Tryz.prog.follows .mixedOrders=true by kernel_rfl)
 go_enter Tryz.func40,Tryz.ntmps40
 have hM0:=Mem.start w
 (go_step;go_step;refine wp_region_lit ?_)
 refine wl_new hM0 (f:=fun b=>.pointer (some ⟨b,0,none⟩)) (ob:=.cells ((pc4 a)) 39 (0,0)) (fun W=>run_box_of rfl rfl (bx_P4 _ W)) rfl fun b1 W1 hM1=>?_
 simp only[nm0,nm1,nm2,nm3]
 refine wl_pure (v:=.string ⟨#[]⟩) (fun _=>rfl) rfl ?_
 simp only[nm0,nm1,nm2,nm3]
 refine wpList_nil ?_
 (go_step;go_step;go_step;refine wp_region_lit ?_)
 refine wl_row hM1 0 (v:=pv4 a) rfl rfl rfl rfl rowPt rfl ?_
 simp only[nm0,nm1,nm2,nm3]
 obtain⟨v1,ev1⟩:∃ x,x=p.1.val:=⟨_,rfl⟩
 have pv1:v1<PN:=by rw[ev1];exact Fin.isLt _
 obtain⟨v2,ev2⟩:∃ x,x=p.2.val:=⟨_,rfl⟩
 have pv2:v2<PN:=by rw[ev2];exact Fin.isLt _
 have KX14:=Lib.hid (fun W=>xyp4 ha W)
 simp only[← ev1,← ev2] at KX14
 refine wl_call hM1 (args:=#[pv4 a]) (v:=.tuple #[numV v1,numV v2]) (fun W=>run_call_fn W (enters_of Tryz.func92 rfl rfl) rfl (by simp[Act.eval])) (KX14.out W1) rfl fun W2 hM2=>?_
 simp only[nm0,nm1,nm2,nm3]
 refine wl_pure (v:=.tuple #[numV v1,numV v2]) (fun _=>rfl) rfl ?_
 simp only[nm0,nm1,nm2,nm3]
 refine wl_pure (v:=numV v1) (fun _=>rfl) rfl ?_
 simp only[nm0,nm1,nm2,nm3]
 refine wl_pure (v:=numV v2) (fun _=>rfl) rfl ?_
 simp only[nm0,nm1,nm2,nm3]
 refine wl_new hM2 (f:=fun b=>.pointer (some ⟨b,0,none⟩)) (ob:=.cells z4 36 (0,0)) (fun W=>run_alloc_of rfl (al_El W)) rfl fun b2 W3 hM3=>?_
 simp only[nm0,nm1,nm2,nm3]
 refine wl_new hM3 (f:=fun b=>.pointer (some ⟨b,0,none⟩)) (ob:=.cells z4 36 (0,0)) (fun W=>run_alloc_of rfl (al_El W)) rfl fun b3 W4 hM4=>?_
 simp only[nm0,nm1,nm2,nm3]
 refine wl_set hM4 1 (cs:=(elR v1)) rfl rfl rfl rfl rowEl rfl (one_el v1) rfl rfl fun W5 hM5=>?_
 simp only[nm2,nm3] at hM5
 refine wl_set hM5 0 (cs:=(elR v2)) rfl rfl rfl rfl rowEl rfl (one_el v2) rfl rfl fun W6 hM6=>?_
 simp only[nm2,nm3] at hM6
 refine wpList_nil ?_
 (go_step;go_step;go_step;refine wp_region_lit ?_)
 refine wl_pure (v:=.func (.func 93) #[] #[.pointer (some ⟨b2,0,none⟩)]) (fun W=>run_makeFunc_of rfl (by simp[Instr.makeFunc,Act.eval])) rfl ?_
 simp only[nm0,nm1,nm2,nm3]
 refine wl_pure (v:=.func (.func 93) #[] #[.pointer (some ⟨b2,0,none⟩)]) (fun _=>rfl) rfl ?_
 simp only[nm0,nm1,nm2,nm3]
 refine wpList_nil ?_
 (go_step;go_step;go_step;refine wp_region_lit ?_)
 refine wl_pure (v:=.func (.func 93) #[] #[.pointer (some ⟨b2,0,none⟩)]) (fun _=>rfl) rfl ?_
 simp only[nm0,nm1,nm2,nm3]
 refine wl_row hM6 0 (v:=numV v2) rfl rfl rfl rfl rowEl rfl ?_
 simp only[nm0,nm1,nm2,nm3]
 refine wl_call hM6 (args:=#[numV v2]) (v:=numV v2) (fun W=>run_call_fn W (enters_of Tryz.func95 rfl rfl) rfl (by simp[Act.eval])) (pnum_any v2 W6) rfl fun W7 hM7=>?_
 simp only[nm0,nm1,nm2,nm3]
 refine wl_call hM7 (args:=#[numV v2,.pointer (some ⟨b2,0,none⟩)]) (v:=.string ⟨(byL (encN v1 v2)).toArray⟩) (fun W=>run_call_dyn W (enters_of Tryz.func93 rfl rfl) rfl rfl (by simp[Act.eval];rfl) rfl) (enc1_any v1 v2 b2 W7 pv2 (hM7.get 1 rfl)) rfl fun W8 hM8=>?_
 simp only[nm0,nm1,nm2,nm3]
 refine wl_pure (v:=.string ⟨(byL (encN v1 v2)).toArray⟩) (fun _=>rfl) rfl ?_
 simp only[nm0,nm1,nm2,nm3]
 refine wpList_nil ?_
 (go_step;go_step;go_step;refine bodyPost_ret (v:=.string ⟨(byL (encN v1 v2)).toArray⟩) (results_slot Tryz.results40 rfl) rfl ⟨?_,hM8.below⟩)
 exact by rw[ev1,ev2]
open Go.RowKit
theorem Tryz.info_u8:(Tryz.prog.info? 5).map (fun i=>(i.zero,i.size,i.bytes))=some (some (.int .u8 0),1,1):=by kernel_rfl
theorem bc_mod (z:Int):bc (ofI (z%256))=.int .u8 (z%256):=bc_ofI _ (by omega) (by omega)
def dk (x:Int) (k:Nat):Int:=x/((256^k:Nat):Int)
theorem dk_zero (x:Int):dk x 0=x:=by simp[dk]
theorem dk_succ (x:Int) (k:Nat):dk x k/256=dk x (k+1):=by
 unfold dk
 rw[Nat.pow_succ,Int.natCast_mul,← Int.ediv_ediv_of_nonneg (Int.natCast_nonneg _)];rfl
theorem dk_bd (x:Int) (k:Nat) (x0:0≤x) (x1:x<18446744073709551616):0≤dk x k∧dk x k<18446744073709551616:=by
 induction k with
 | zero=>rw[dk_zero];exact⟨x0,x1⟩
 | succ k ih=>rw[← dk_succ x k];omega
/-- A number's lowest bytes, the highest one first. -/
def putR (x:Int):Nat→List UInt8
 | 0=>[]
 | k+1=>ofI (dk x k%256)::putR x k
theorem putR_length (x:Int):∀ k,(putR x k).length=k
 | 0=>rfl
 | k+1=>by simp[putR,putR_length x k]
theorem rput_any (x:Int) (n:Nat) (w:World) (x0:0≤x) (x1:x<18446744073709551616) (hn:n≤1000) :
    Calls Tryz.prog 104 #[.int .u64 x,.int .i64 n] w fun e w'=>e=.returned (.string ⟨(putR x n).toArray⟩)∧Below w.heap.size w w':=by
 obtain⟨i0,hi,hz0,hz1,hz2⟩:=info_parts Tryz.info_u8
 go_enter Tryz.func104,Tryz.ntmps104
 go_wp2_with fail
 go_loopw [0,5,6] (fun y v i wr=>∃ k:Nat,k≤n∧i=.int .i64 k∧y=.int .u64 (dk x k)∧wr.ownsRow w.heap.size 5 1 v k ((putR x k).map bc)∧Below w.heap.size w wr) (fun _ _ i _=>n-(intOf i).toNat)
 case atStart=>exact⟨0,by omega,rfl,by rw[dk_zero],World.ownsRow_nil _ _ _ _,Below.refl _ _⟩
 case round =>
  obtain⟨k,hk,rfl,rfl,hown,hb⟩:=hrel
  by_cases hlt:k<n
  ·obtain⟨d0,d1⟩:=dk_bd x k x0 x1
   have DS:=Lib.hid (dk_succ x k)
   have hlit:=World.ownsRow_lit (base:=w.heap.size) (e:=5) (size:=1) wr #[.int .u8 (dk x k%256)] 1 (by exact hb.size) (by decide) rfl
   have hsz:=hb.size
   rcases hown with ⟨hl,⟨rfl,hk0⟩ | ⟨g,cap,cur,rfl,hg,hh,r1,r2,r3,r4⟩⟩
   ·subst hk0
    have HL:=Lib.hid hlit
    clear hlit
    go_wp2_with fail
    go_roundw
    case rel =>
     refine⟨1,by omega,rfl,congrArg (Value.int .u64) DS.out,?_,hb.alloc hb.size _⟩
     have e:(putR x 1).map bc=[Value.int .u8 (dk x 0%256)]:=by
      show [bc (ofI (dk x 0%256))]=_
      rw[bc_mod]
     rw[e];exact HL.out
    case measure=>simp[intOf];omega
   ·have hrow:wr.ownsRow w.heap.size 5 1 (.slice (some ⟨g,0,none⟩) k cap) k ((putR x k).map bc):=⟨hl,.inr ⟨g,cap,cur,rfl,hg,hh,r1,r2,r3,r4⟩⟩
    have hnews:=(hrow.alloc (.cells #[.int .u8 (dk x k%256)] 5)).cells rfl
    have HN:=Lib.hid hnews
    have HL:=Lib.hid hlit
    have Hl:=Lib.hid hl
    clear hnews hlit hh r2 r3 r4 hl
    go_wp2_with (at_builtin;refine wpList_append_own _ (by rfl) (.tmp 15) (.tmp 16) 90 (by rfl) w.heap.size 5 i0 (.int .u8 0) 1 1 Tryz.underlying90 hi hz0 hz1 hz2 rfl (by decide) _ 1 _ (by simp[Act.eval];rfl) (by exact HL.out) ⟨g,0,none⟩ k cap ((putR x k).map bc) (by simp[Act.eval]) (by exact Hl.out) (by exact HN.out) (by simp[bc,Value.oneCell']) (by unfold maxLen;omega) (by omega) (by have:=hb.size;simp;omega) ?_;intro v2 w2 hown2 hgrow2 _)
    go_roundw
    case rel =>
     refine⟨k+1,by omega,by go_num,congrArg (Value.int .u64) DS.out,?_,(hb.alloc hb.size _).grown hgrow2 (by have:=hb.size;simp;omega) (fun j hj=>by simp[Value.ownBlock] at hj;omega)⟩
     rw[show k+1=1+k from by omega]
     have e:(putR x (1+k)).map bc=[Value.int .u8 (dk x k%256)]++(putR x k).map bc:=by
      rw[Nat.add_comm]
      show bc (ofI (dk x k%256))::_=_
      rw[bc_mod];rfl
     rw[e];exact hown2
    case measure=>simp[intOf];omega
  ·obtain rfl:k=n:=by omega
   have ks:=own_string (P:=Tryz.prog) (t:=90) (ty:=9) Tryz.underlying90 Tryz.underlying5 Tryz.underlying9 hown
   go_wp2_with fail
   go_ret
   exact⟨rfl,hb⟩
theorem rturn_any (s:ByteArray) (w:World) (hs:s.size≤100000) :
    Calls Tryz.prog 63 #[.string s] w fun e w'=>e=.returned (.string ⟨s.data.toList.reverse.toArray⟩)∧Below w.heap.size w w':=by
 obtain⟨i0,hi,hz0,hz1,hz2⟩:=info_parts Tryz.info_u8
 have hlen:Hid (s.data.toList.length=s.size):=Array.length_toList
 go_enter Tryz.func63,Tryz.ntmps63
 go_wp2_with fail
 go_loopw [3,4] (fun v i wr=>∃ k:Nat,k≤s.size∧i=.int .i64 ((k:Int)-1)∧wr.ownsRow w.heap.size 5 1 v (s.size-k) ((s.data.toList.drop k).reverse.map bc)∧Below w.heap.size w wr) (fun _ i _=>(intOf i+1).toNat)
 case atStart=>exact⟨s.size,by omega,rfl,by rw[List.drop_of_length_le (by have:=hlen.out;omega),Nat.sub_self];exact World.ownsRow_nil _ _ _ _,Below.refl _ _⟩
 case round =>
  obtain⟨k,hk,rfl,hown,hb⟩:=hrel
  have hsz:=hb.size
  by_cases hlt:0<k
  ·obtain⟨j,rfl⟩:∃ j,k=j+1:=⟨k-1,by omega⟩
   have c1:(((j+1:Nat):Int)-1)=(j:Int):=by omega
   rw[c1]
   have hj:j<s.size:=by omega
   have hji:(j:Int)<(s.size:Int):=by omega
   have c2:IntKind.i64.wrap ((j:Int)-1)=(j:Int)-1:=IntWalk.i64_in _ (by omega)
   have HD:Hid (s.data.toList.drop j=s[j]::s.data.toList.drop (j+1)):=List.drop_eq_getElem_cons (by have:=hlen.out;omega)
   have HO:=Lib.hid hown
   clear hown c1
   go_wp2_with (at_builtin;refine wpList_append_own _ (by rfl) (.tmp 12) (.tmp 16) 90 (by rfl) w.heap.size 5 i0 (.int .u8 0) 1 1 Tryz.underlying90 hi hz0 hz1 hz2 rfl (by decide) _ (s.size-(j+1)) _ (by simp[Act.eval];rfl) (by exact HO.out.alloc _) ⟨wr.heap.size,0,none⟩ 1 1 [bc s[j]] (by simp[Act.eval]) rfl (by exact news_new wr #[_] _) (by simp[bc,Value.oneCell']) (by unfold maxLen;omega) (by omega) (by simp;omega) ?_;intro v2 w2 hown2 hgrow2 _)
   go_roundw
   case rel =>
    refine⟨j,by omega,rfl,?_,(hb.alloc hb.size _).grown hgrow2 (by simp;omega) (fun i hi=>(HO.out.lt i hi).1)⟩
    rw[HD.out,List.reverse_cons,List.map_append,show s.size-j=s.size-(j+1)+1 from by omega]
    exact hown2
   case measure=>simp[intOf]
  ·obtain rfl:k=0:=by omega
   rw[List.drop_zero] at hown
   have ks:=own_string (P:=Tryz.prog) (t:=90) (ty:=9) Tryz.underlying90 Tryz.underlying5 Tryz.underlying9 hown
   go_wp2_with fail
   go_ret
   exact⟨rfl,hb⟩
theorem byW_eq (m:Nat):(putR (m:Int) 8).reverse=(List.range 8).map fun j=>UInt8.ofNat (m/256^j%256):=by
 have h:∀ k,ofI (dk (m:Int) k%256)=UInt8.ofNat (m/256^k%256):=fun k=>by
  unfold ofI dk
  rw[← Int.natCast_ediv]
  congr 1
 simp only[putR,h]
 rfl
theorem byte_wd (n i j:Nat) (hj:j<8):wd n i/256^j%256=n/256^(8*i+j)%256:=by
 have h:=wd_byte n (8*i+j)
 rw[show (8*i+j)/8=i by omega,show (8*i+j)%8=j by omega,Nat.pow_mul] at h
 exact h
theorem byW_wd (n i:Nat):(putR (wd n i:Int) 8).reverse=(List.range 8).map fun j=>UInt8.ofNat (n/256^(8*i+j)%256):=by
 rw[byW_eq]
 refine List.map_congr_left fun j hj=>?_
 rw[byte_wd n i j (List.mem_range.1 hj)]
theorem byL_parts (n:Nat):(List.range 4).flatMap (fun i=>(putR (wd n i:Int) 8).reverse)=byL n:=by
 simp only[byW_wd]
 rfl
set_option maxHeartbeats 1000000 in
theorem rbytes_any (n:Nat) (w:World) :
    Calls Tryz.prog 45 #[numV n] w fun e w'=>e=.returned (.string ⟨(byL n).toArray⟩)∧Below w.heap.size w w':=by
 rw[show numV n=.agg #[.int .u64 (wd n 0:Int),.int .u64 (wd n 1:Int),.int .u64 (wd n 2:Int),.int .u64 (wd n 3:Int)] from rfl]
 have x0:(w.alloc (.cells (numL n).toArray 23)).heap[w.heap.size]?=some (.cells (numL n).toArray 23 (0,0)):=alloc_new _ _
 have xb:Below w.heap.size w (w.alloc (.cells (numL n).toArray 23)):=gr_alloc (Below.refl _ _) _
 go_enter Tryz.func45,Tryz.ntmps45
 go_wp2_with fail
 change Code.wp _ _ _ _ (w.alloc (.cells (numL n).toArray 23))
 generalize w.alloc (.cells (numL n).toArray 23)=X at *
 go_loopw [3,4] (fun s i wr=>∃ k:Nat,k≤4∧i=.int .i64 (k:Int)∧s=.string ⟨((List.range k).flatMap (fun i=>(putR (wd n i:Int) 8).reverse)).toArray⟩∧wr.heap[w.heap.size]?=some (.cells (numL n).toArray 23 (0,0))∧Below w.heap.size w wr) (fun _ i _=>4-(intOf i).toNat)
 case atStart=>exact⟨0,by omega,rfl,rfl,x0,xb⟩
 case round =>
  clear x0 xb
  obtain⟨k,hk,rfl,rfl,y0,hb⟩:=hrel
  by_cases hlt:k<4
  ·have k1:(k:Int)<4:=by omega
   have c0:=(arr_get y0 (numL_get n k hlt)).1
   have KP:Hid (∀ w,Calls Tryz.prog 104 #[.int .u64 (wd n k:Int),.int .i64 8] w fun e w'=>e=.returned (.string ⟨(putR (wd n k:Int) 8).toArray⟩)∧Below w.heap.size w w'):=fun w=>rput_any (wd n k:Int) 8 w (by omega) (by have:=wd_lt n k;omega) (by omega)
   have KT:=Lib.hid (fun w=>rturn_any ⟨(putR (wd n k:Int) 8).toArray⟩ w (by show (putR _ 8).toArray.size≤_;simp[putR_length]))
   have HS:=Lib.hid (show (List.range (k+1)).flatMap (fun i=>(putR (wd n i:Int) 8).reverse)=(List.range k).flatMap (fun i=>(putR (wd n i:Int) 8).reverse)++(putR (wd n k:Int) 8).reverse from by rw[List.range_succ,List.flatMap_append];simp)
   have HY:=Lib.hid y0
   clear y0
   have hlen:((List.range k).flatMap (fun i=>(putR (wd n i:Int) 8).reverse)).length≤32:=by
    have:k=0∨k=1∨k=2∨k=3:=by omega
    rcases this with rfl | rfl | rfl | rfl <;> simp[List.range_succ,putR_length]
   have hlen2:(putR (wd n k:Int) 8).length≤8:=by rw[putR_length];exact Nat.le_refl _
   generalize hL:(List.range k).flatMap (fun i=>(putR (wd n i:Int) 8).reverse)=L at *
   generalize hP:putR (wd n k:Int) 8=P at *
   clear hL hP
   have hlen3:¬ 9223372036854775807<L.length+P.length:=by omega
   clear hlen hlen2
   generalize (wd n k:Int)=x at *
   go_wp2_with fail
   refine (KP.out _).mono ?_
   rintro e w1 ⟨rfl,hb1⟩
   go_wp2_with fail
   refine (KT.out _).mono ?_
   rintro e w2 ⟨rfl,hb2⟩
   have hb3:=hb.trans ((gr_step hb1 hb2).mono hb.size)
   have hlt0:w.heap.size<wr.heap.size:=lt_blk HY.out
   have HY2:=Lib.hid (((gr_step hb1 hb2).block w.heap.size hlt0).trans HY.out)
   clear hb1 hb2
   go_wp2_with fail
   go_roundw
   case rel =>
    refine⟨k+1,by omega,by go_num,?_,HY2.out,hb3⟩
    rw[HS.out]
    refine congrArg Value.string ?_
    apply ByteArray.ext
    simp
   case measure=>simp[intOf];omega
  ·obtain rfl:k=4:=by omega
   rw[byL_parts]
   go_wp2_with fail
   go_ret
   exact⟨rfl,hb⟩
end Go.Proofs.YtnaldciakclccaaGreat
