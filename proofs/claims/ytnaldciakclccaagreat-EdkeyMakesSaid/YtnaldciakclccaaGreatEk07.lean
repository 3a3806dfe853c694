/- curve.divide (layer 20): its contract. Powers and roots modulo 2^255 - 19: when a number has a root, and which. No program in it. The curve -x x + y y = 1 + d x x y y over any ring: its sum stays on it, its divisors are never 0, its order doesn't count; the field modulo 2^255 - 19, and d. No program in it. The curve's points modulo 2^255 - 19 as a commutative group. No program in it. curve.D (layer 20): what it answers. curve.quotients (layer 20): its contract. -/
import Derived.Laws.Tables
import Derived.Laws.CopyOwn
import Derived.Test.YtnaldciakclccaaGreatEk05
import Derived.Test.YtnaldciakclccaaGreatEk06
import Derived.Test.YtnaldciakclccaaGreatEk04
namespace Go.Proofs.YtnaldciakclccaaGreat
set_option maxRecDepth 20000
set_option linter.unusedSimpArgs false
set_option linter.unusedVariables false
open Go.RowKit Go.Sort
set_option maxRecDepth 20000 in
set_option maxHeartbeats 4000000 in
theorem div_any (a b:Nat) (w:World) (ha:a<PN) (hb:b<PN):Calls Tryz.prog 132 #[numV a,numV b] w fun e w'=>e=.returned (numV (a*(b^(PN-2)%PN)%PN))∧Below w.heap.size w w':=by
 have HMIX:=Lib.hid (show Tryz.prog.follows .mixedOrders=true by kernel_rfl)
 have K1:=Lib.hid (fun w=>pinv_any b w hb)
 have hI:b^(PN-2)%PN<PN:=Nat.mod_lt _ PN_pos
 obtain⟨I,hIe⟩:∃ I,b^(PN-2)%PN=I:=⟨_,rfl⟩
 rw[hIe] at K1 hI ⊢
 have K2:=Lib.hid (mul_two a I ha hI)
 obtain⟨R,hR⟩:∃ R,a*I%PN=R:=⟨_,rfl⟩
 rw[hR] at K2 ⊢
 obtain⟨xa,xb,xr,xz,xB⟩:=a3_at a b 36 w
 simp only[numV_agg] at K1 K2 ⊢
 clear ha hb hI hIe hR
 go_enter Tryz.func132,Tryz.ntmps132
 go_wp2_with fail
 change Code.wp _ _ _ _ (A3 a b 36 w)
 generalize A3 a b 36 w=X at *
 obtain⟨⟨q0,q1,q2,q3⟩,_⟩:=fourV xa
 obtain⟨⟨q4,q5,q6,q7⟩,_⟩:=fourV xb
 have d0:=fun d os=>cell_regrown q0 d os
 have d1:=fun d os=>cell_regrown q1 d os
 have d2:=fun d os=>cell_regrown q2 d os
 have d3:=fun d os=>cell_regrown q3 d os
 have d4:=fun d os=>cell_regrown q4 d os
 have d5:=fun d os=>cell_regrown q5 d os
 have d6:=fun d os=>cell_regrown q6 d os
 have d7:=fun d os=>cell_regrown q7 d os
 have XR:=Lib.hid xr
 have XB:=Lib.hid xB
 clear xa xb xr xz xB q0 q1 q2 q3 q4 q5 q6 q7
 refine wp_region_inw 5 HMIX.out (by decide) (by kernel_rfl) (by kernel_rfl) ?_
 repeat (first
  | (refine inw_skip (by rfl) (by rfl) ?_;simp only[nm0,nm1,nm2,nm3])
  | (refine inw_val (v:=?_) (by rfl) (by rfl) (fun d os=>?_) ?_;rotate_left;(focus (go_simp;(try with_reducible rfl);done));simp only[nm0,nm1,nm2,nm3]))
 refine inw_call (args:=?_) (v:=?_) (f:=81) (by rfl) (by rfl) (fun d os=>?_) (fun d os=>?_) ?_;rotate_left 3;(focus (with_reducible exact K1.out _;done));rotate_left;(focus (go_simp;done));simp only[nm0,nm1,nm2,nm3]
 repeat (first
  | (refine inw_skip (by rfl) (by rfl) ?_;simp only[nm0,nm1,nm2,nm3])
  | (refine inw_val (v:=?_) (by rfl) (by rfl) (fun d os=>?_) ?_;rotate_left;(focus (go_simp;(try with_reducible rfl);done));simp only[nm0,nm1,nm2,nm3]))
 refine inw_mk (fun b=>.slice (some ⟨b,0,none⟩) 2 2) (.cells #[.int .u64 (wd a 0:Int),.int .u64 (wd a 1:Int),.int .u64 (wd a 2:Int),.int .u64 (wd a 3:Int),.int .u64 (wd I 0:Int),.int .u64 (wd I 1:Int),.int .u64 (wd I 2:Int),.int .u64 (wd I 3:Int)] 36 (0,0)) (by rfl) (by rfl) (fun d os=>?_) ?_;(focus (go_simp;done));simp only[List.nil_append,List.cons_append]
 repeat (first
  | (refine inw_skip (by rfl) (by rfl) ?_;simp only[nm0,nm1,nm2,nm3])
  | (refine inw_val (v:=?_) (by rfl) (by rfl) (fun d os=>?_) ?_;rotate_left;(focus (go_simp;(try with_reducible rfl);done));simp only[nm0,nm1,nm2,nm3]))
 refine inw_callp (v:=_) (f:=76) (args:=fun b=>#[.slice (some ⟨b,0,none⟩) 2 2]) (by rfl) (by rfl) (fun b=>by rfl) (fun b d os=>by (simp only[nm0,nm1,nm2,nm3];go_simp;done)) K2.out ?_;simp only[nm0,nm1,nm2,nm3]
 repeat (first
  | (refine inw_skip (by rfl) (by rfl) ?_;simp only[nm0,nm1,nm2,nm3])
  | (refine inw_val (v:=?_) (by rfl) (by rfl) (fun d os=>?_) ?_;rotate_left;(focus (go_simp;(try with_reducible rfl);done));simp only[nm0,nm1,nm2,nm3]))
 refine inw_end1k (t1:=8) (by rfl) (fun b1 d os hb1=>?_)
 have BW:=below_regrown X d os
 have xr:=XR.out.keep BW
 have xB:=XB.out.trans (BW.mono XB.out.size)
 generalize grow (redrawn X d) os=V at xr xB ⊢
 simp only[nm0,nm1,nm2,nm3]
 clear BW XR XB d0 d1 d2 d3 d4 d5 d6 d7
 obtain⟨⟨z0,z1,z2,z3⟩,zf0,zf1,zf2,zf3⟩:=fourV xr
 have ra:=isA_set (n:=R) (isA_zero' xr)
 have rb:=set4_below (v0:=.int .u64 (wd R 0:Int)) (v1:=.int .u64 (wd R 1:Int)) (v2:=.int .u64 (wd R 2:Int)) (v3:=.int .u64 (wd R 3:Int)) xB (b:=w.heap.size+1+1) (by omega)
 have KL:=Lib.hid (load_el ra)
 have BR:=Lib.hid rb
 clear ra rb xr xB
 change wpAny _ _ _ _ 1 _ _ _
 refine any_one (i:=5) (by kernel_rfl) rfl (fun K hK=>?_)
 go_simp
 refine hK _ _ ?_
 clear hK K z0 z1 z2 z3 zf0 zf1 zf2 zf3
 refine wpAny_done (by kernel_rfl) ?_ _
 iterate 4 go_step
 exact bodyPost_ret (results_arr Tryz.results132 (by rfl) KL.out) rfl ⟨rfl,BR.out⟩
theorem mmL (a b n:Nat):a%n*b%n=a*b%n:=by rw[Nat.mul_mod,Nat.mod_mod,← Nat.mul_mod]
theorem mmR (a b n:Nat):a*(b%n)%n=a*b%n:=by rw[Nat.mul_mod,Nat.mod_mod,← Nat.mul_mod]
theorem pow0 (a e:Nat) (he:0<e) (ha:a%PN=0):a^e%PN=0:=by
 rw[Nat.pow_mod,ha,Nat.zero_pow he,Nat.zero_mod]
theorem pow01 (a e:Nat) (he:e=PN-1) (h0:0<e):a^e%PN=0∨a^e%PN=1:=by
 by_cases h:a%PN=0
 ·exact .inl (pow0 a e h0 h)
 ·rw[he]
  exact .inr (fermatP a h)
theorem sq_eq (q a:Nat) (hq:q<PN) (ha:a<PN) (h:q*q%PN=a*a%PN):q=a∨q=(0+PN-a)%PN:=by
 have main:∀ x y:Nat,y≤x→x<PN→x*x%PN=y*y%PN→x=y∨x+y=PN:=fun x y hyx hx he=>by
  have hd:PN ∣ (x-y)*(x+y):=by
   obtain⟨d,rfl⟩:∃ d,x=y+d:=⟨x-y,by omega⟩
   have e1:(y+d)*(y+d)=y*y+(y+d-y)*(y+d+y):=by
    rw[show y+d-y=d by omega]
    simp only[Nat.mul_add,Nat.mul_comm]
    omega
   rw[e1] at he
   have h2:(y*y+(y+d-y)*(y+d+y)-y*y)%PN=0:=Nat.sub_mod_eq_zero_of_mod_eq he
   rw[Nat.add_sub_cancel_left] at h2
   exact Nat.dvd_of_mod_eq_zero h2
  rcases primeP.2 _ _ hd with h1 | h1
  ·rcases Nat.eq_zero_or_pos (x-y) with h0 | h0
   ·exact .inl (by omega)
   ·have:=Nat.le_of_dvd h0 h1
    omega
  ·rcases Nat.eq_zero_or_pos (x+y) with h0 | h0
   ·exact .inl (by omega)
   ·obtain⟨k,hk⟩:=h1
    have hk1:k=1:=by
     rcases Nat.lt_or_ge k 2 with h | h
     ·have:k≠0:=fun e=>by subst e;omega
      omega
     ·have:=Nat.mul_le_mul_left PN h
      omega
    subst hk1
    exact .inr (by omega)
 rcases Nat.le_total a q with hl | hl
 ·rcases main q a hl hq h with h1 | h1
  ·exact .inl h1
  ·right
   by_cases ha0:a=0
   ·omega
   ·rw[Nat.zero_add,Nat.mod_eq_of_lt (by omega)]
    omega
 ·rcases main a q hl ha h.symm with h1 | h1
  ·exact .inl h1.symm
  ·right
   by_cases ha0:a=0
   ·omega
   ·rw[Nat.zero_add,Nat.mod_eq_of_lt (by omega)]
    omega
theorem one_roots (t:Nat) (ht:t<PN) (h:t*t%PN=1):t=1∨t=PN-1:=by
 have h1:1*1%PN=1:=by decide +kernel
 rcases sq_eq t 1 ht (by decide +kernel) (h.trans h1.symm) with e | e
 ·exact .inl e
 ·right
  rw[e]
  decide +kernel
theorem neg_sq:(PN-1)*(PN-1)%PN=1:=by decide +kernel
/-- A number has a root just if its (p - 1)/2-th power is 0 or 1; and which one. -/
theorem root_when (a r0 i e2 e3 e4:Nat) (ha:a<PN) (h2:2*e2=PN-1) (h3:8*e3=PN+3) (h4:4*e4=PN-1) (hr:r0=a^e3%PN) (hi:i*i%PN=PN-1) :
    ((if r0*r0%PN=a then r0 else r0*i%PN)*(if r0*r0%PN=a then r0 else r0*i%PN)%PN=a)↔(a^e2%PN=0∨a^e2%PN=1):=by
 have he2:e2=e4+e4:=by omega
 have he3:e3+e3=e4+1:=by omega
 have hp2:2≤PN:=PN_ge
 have h20:0<e2+e2:=by omega
 constructor
 ·intro h
  generalize (if r0*r0%PN=a then r0 else r0*i%PN)=q at h
  have e:a^e2%PN=q^(e2+e2)%PN:=by
   rw[← h,← Nat.pow_mod,← Nat.pow_two,← Nat.pow_mul,show 2*e2=e2+e2 by omega]
  rw[e]
  exact pow01 q (e2+e2) (by omega) h20
 ·intro h
  have hrr:r0*r0%PN=a*(a^e4%PN)%PN:=by
   rw[hr,← Nat.mul_mod,← Nat.pow_add,he3,Nat.pow_succ,mmR,Nat.mul_comm]
  rcases h with h | h
  ·have ha0:a%PN=0:=by
     rcases Nat.eq_zero_or_pos (a%PN) with h0 | h0
     ·exact h0
     ·have hf:=fermatP a (by omega)
      rw[← h2,show 2*e2=e2+e2 by omega,Nat.pow_add,Nat.mul_mod,h,Nat.mul_zero,Nat.zero_mod] at hf
      omega
   have haz:a=0:=by rw[Nat.mod_eq_of_lt ha] at ha0;exact ha0
   have hz:r0*r0%PN=a:=by rw[hrr,haz,Nat.zero_mul,Nat.zero_mod]
   rw[if_pos hz]
   exact hz
  ·have ht:(a^e4%PN)*(a^e4%PN)%PN=1:=by
     rw[← Nat.mul_mod,← Nat.pow_add,← he2]
     exact h
   rcases one_roots (a^e4%PN) (Nat.mod_lt _ PN_pos) ht with e | e
   ·have hz:r0*r0%PN=a:=by rw[hrr,e,Nat.mul_one,Nat.mod_eq_of_lt ha]
    rw[if_pos hz]
    exact hz
   ·by_cases hz:r0*r0%PN=a
    ·rw[if_pos hz]
     exact hz
    ·rw[if_neg hz,← Nat.mul_mod,show r0*i*(r0*i)=r0*r0*(i*i) by rw[Nat.mul_assoc,Nat.mul_left_comm i,← Nat.mul_assoc],Nat.mul_mod,hrr,hi,e,mmL,Nat.mul_assoc,← mmR,neg_sq,Nat.mul_one,Nat.mod_eq_of_lt ha]
theorem edw_sq {α:Type} [Lean.Grind.CommRing α] (x1 y1 x2 y2 d i:α) (hi:i*i = -1) (h1:y1*y1-x1*x1=1+d*(x1*x1)*(y1*y1)) (h2:y2*y2-x2*x2=1+d*(x2*x2)*(y2*y2)) (hk:(d*x1*x2*y1*y2)*(d*x1*x2*y1*y2)=1) :
    (i*x1+(d*x1*x2*y1*y2)*y1)*(i*x1+(d*x1*x2*y1*y2)*y1)=d*((x1*y1*(i*x2+y2))*(x1*y1*(i*x2+y2))):=by grind
theorem edw_sq' {α:Type} [Lean.Grind.CommRing α] (x1 y1 x2 y2 d i:α) (hi:i*i = -1) (h1:y1*y1-x1*x1=1+d*(x1*x1)*(y1*y1)) (h2:y2*y2-x2*x2=1+d*(x2*x2)*(y2*y2)) (hk:(d*x1*x2*y1*y2)*(d*x1*x2*y1*y2)=1) :
    (i*x1-(d*x1*x2*y1*y2)*y1)*(i*x1-(d*x1*x2*y1*y2)*y1)=d*((x1*y1*(i*x2-y2))*(x1*y1*(i*x2-y2))):=by grind
theorem edw_two {α:Type} [Lean.Grind.CommRing α] (x1 y1 x2 y2 d i:α) (hi:i*i = -1) (hk:(d*x1*x2*y1*y2)*(d*x1*x2*y1*y2)=1) (a:x1*y1*(i*x2+y2)=0) (b:x1*y1*(i*x2-y2)=0):(2:α)=0:=by grind
/-- The sum's divisors are never 0. -/
theorem edw_whole {α:Type} [Lean.Grind.CommRing α] (x1 y1 x2 y2 d i:α) (hi:i*i = -1) (two:(2:α)≠0) (nsq:∀ s t:α,s*s=d*(t*t)→t=0)
    (h1:y1*y1-x1*x1=1+d*(x1*x1)*(y1*y1)) (h2:y2*y2-x2*x2=1+d*(x2*x2)*(y2*y2)):(1+d*x1*x2*y1*y2)*(1-d*x1*x2*y1*y2)≠0:=fun h=>by
 have hk:(d*x1*x2*y1*y2)*(d*x1*x2*y1*y2)=1:=by grind
 exact two (edw_two x1 y1 x2 y2 d i hi hk (nsq _ _ (edw_sq x1 y1 x2 y2 d i hi h1 h2 hk)) (nsq _ _ (edw_sq' x1 y1 x2 y2 d i hi h1 h2 hk)))
/-- The sum of points with divisors is of the curve, too. -/
theorem edw_closed {α:Type} [Lean.Grind.CommRing α] (x1 y1 z1 x2 y2 z2 d:α) (h1:(y1*y1-x1*x1)*(z1*z1)=z1*z1*(z1*z1)+d*(x1*x1)*(y1*y1)) (h2:(y2*y2-x2*x2)*(z2*z2)=z2*z2*(z2*z2)+d*(x2*x2)*(y2*y2)) :
    let a:=z1*z2;let b:=a*a;let f:=d*((x1*x2)*(y1*y2));let X:=a*(x1*y2+y1*x2)*(b-f);let Y:=a*(y1*y2+x1*x2)*(b+f);let Z:=(b-f)*(b+f)
    (Y*Y-X*X)*(Z*Z)=Z*Z*(Z*Z)+d*(X*X)*(Y*Y):=by grind
set_option maxHeartbeats 4000000 in
set_option maxRecDepth 100000 in
/-- The order doesn't count: x, over both divisors. -/
theorem edw_assoc_x {α:Type} [Lean.Grind.CommRing α] (x1 y1 x2 y2 x3 y3 d:α) (h1:d*x1*x1*y1*y1=y1*y1-x1*x1-1) (h2:d*x2*x2*y2*y2=y2*y2-x2*x2-1) (h3:d*x3*x3*y3*y3=y3*y3-x3*x3-1) :
    (((x1*y2+y1*x2)*(1-d*x1*x2*y1*y2))*y3+((y1*y2+x1*x2)*(1+d*x1*x2*y1*y2))*x3)*((1+d*x2*x3*y2*y3)*(1-d*x2*x3*y2*y3)+d*x1*y1*(x2*y3+y2*x3)*(y2*y3+x2*x3))
     = (x1*((y2*y3+x2*x3)*(1+d*x2*x3*y2*y3))+y1*((x2*y3+y2*x3)*(1-d*x2*x3*y2*y3)))*((1+d*x1*x2*y1*y2)*(1-d*x1*x2*y1*y2)+d*x3*y3*(x1*y2+y1*x2)*(y1*y2+x1*x2)):=by grind (ringSteps:=100000000)
set_option maxHeartbeats 4000000 in
set_option maxRecDepth 100000 in
/-- .. y. -/
theorem edw_assoc_y {α:Type} [Lean.Grind.CommRing α] (x1 y1 x2 y2 x3 y3 d:α) (h1:d*x1*x1*y1*y1=y1*y1-x1*x1-1) (h2:d*x2*x2*y2*y2=y2*y2-x2*x2-1) (h3:d*x3*x3*y3*y3=y3*y3-x3*x3-1) :
    (((y1*y2+x1*x2)*(1+d*x1*x2*y1*y2))*y3+((x1*y2+y1*x2)*(1-d*x1*x2*y1*y2))*x3)*((1+d*x2*x3*y2*y3)*(1-d*x2*x3*y2*y3)-d*x1*y1*(x2*y3+y2*x3)*(y2*y3+x2*x3))
     = (y1*((y2*y3+x2*x3)*(1+d*x2*x3*y2*y3))+x1*((x2*y3+y2*x3)*(1-d*x2*x3*y2*y3)))*((1+d*x1*x2*y1*y2)*(1-d*x1*x2*y1*y2)-d*x3*y3*(x1*y2+y1*x2)*(y1*y2+x1*x2)):=by grind (ringSteps:=100000000)
section
variable {α:Type} [Lean.Grind.CommRing α]
theorem scale (A B k u v d:α) (c:(B*(1+k)*(B*(1+k))-A*(1-k)*(A*(1-k)))*(((1-k)*(1+k))*((1-k)*(1+k)))=((1-k)*(1+k))*((1-k)*(1+k))*(((1-k)*(1+k))*((1-k)*(1+k)))+d*(A*(1-k)*(A*(1-k)))*(B*(1+k)*(B*(1+k))))
   (hu:(1+k)*u=1) (hv:(1-k)*v=1):B*v*(B*v)-A*u*(A*u)=1+d*(A*u*(A*u))*(B*v*(B*v)):=by
 have hs:((1-k)*(1+k))*(u*v)=1:=by grind
 have e1:B*v=B*(1+k)*(u*v):=by grind
 have e2:A*u=A*(1-k)*(u*v):=by grind
 have c2:=congrArg (fun t=>t*((u*v)*(u*v)*((u*v)*(u*v)))) c
 rw[e1,e2]
 generalize B*(1+k)=Y at *
 generalize A*(1-k)=X at *
 generalize (1-k)*(1+k)=Z at *
 generalize u*v=w at *
 clear e1 e2 hu hv c
 have hz:Z*Z*(w*w)=1:=by grind
 have l:(Y*Y-X*X)*(Z*Z)*(w*w*(w*w))=(Y*w*(Y*w)-X*w*(X*w))*(Z*Z*(w*w)):=by grind
 have r:(Z*Z*(Z*Z)+d*(X*X)*(Y*Y))*(w*w*(w*w))=Z*Z*(w*w)*(Z*Z*(w*w))+d*(X*w*(X*w))*(Y*w*(Y*w)):=by grind
 rw[l,r,hz] at c2
 grind
/-- a = b, of a / b told crosswise -/
theorem cross (a b N1 M1 N2 M2:α) (h1:a*M1=N1) (h2:b*M2=N2) (h:N1*M2=N2*M1):(a-b)*(M1*M2)=0:=by grind
/-- the sum of a sum: its part over one divisor. -/
theorem sum_part (A B k u v x3 y3 d w:α) (hu:(1+k)*u=1) (hv:(1-k)*v=1) (hw:(1+d*(A*u)*x3*(B*v)*y3)*w=1):((A*u*y3+B*v*x3)*w)*((1+k)*(1-k)+d*x3*y3*A*B)=A*(1-k)*y3+B*(1+k)*x3:=by
 have hs:((1+k)*(1-k))*(u*v)=1:=by grind
 have e:(1+d*(A*u)*x3*(B*v)*y3)*((1+k)*(1-k))=(1+k)*(1-k)+d*x3*y3*A*B:=by grind
 have e2:(A*u*y3+B*v*x3)*((1+k)*(1-k))=A*(1-k)*y3+B*(1+k)*x3:=by grind
 rw[← e,← e2]
 generalize 1+d*(A*u)*x3*(B*v)*y3=g at *
 generalize A*u*y3+B*v*x3=n at *
 generalize (1+k)*(1-k)=z at *
 clear hu hv hs e e2
 grind
theorem sum_party (A B k u v x3 y3 d w:α) (hu:(1+k)*u=1) (hv:(1-k)*v=1) (hw:(1-d*(A*u)*x3*(B*v)*y3)*w=1):((B*v*y3+A*u*x3)*w)*((1+k)*(1-k)-d*x3*y3*A*B)=B*(1+k)*y3+A*(1-k)*x3:=by
 have hs:((1+k)*(1-k))*(u*v)=1:=by grind
 have e:(1-d*(A*u)*x3*(B*v)*y3)*((1+k)*(1-k))=(1+k)*(1-k)-d*x3*y3*A*B:=by grind
 have e2:(B*v*y3+A*u*x3)*((1+k)*(1-k))=B*(1+k)*y3+A*(1-k)*x3:=by grind
 rw[← e,← e2]
 generalize 1-d*(A*u)*x3*(B*v)*y3=g at *
 generalize B*v*y3+A*u*x3=n at *
 generalize (1+k)*(1-k)=z at *
 clear hu hv hs e e2
 grind
theorem edw_aff (x1 y1 x2 y2 d:α) (h1:y1*y1-x1*x1=1+d*(x1*x1)*(y1*y1)) (h2:y2*y2-x2*x2=1+d*(x2*x2)*(y2*y2)) :
    let k:=d*x1*x2*y1*y2;let A:=x1*y2+y1*x2;let B:=y1*y2+x1*x2
    (B*(1+k)*(B*(1+k))-A*(1-k)*(A*(1-k)))*(((1-k)*(1+k))*((1-k)*(1+k)))=((1-k)*(1+k))*((1-k)*(1+k))*(((1-k)*(1+k))*((1-k)*(1+k)))+d*(A*(1-k)*(A*(1-k)))*(B*(1+k)*(B*(1+k))):=by
 intro k A B
 have c:=edw_closed x1 y1 1 x2 y2 1 d (by simpa only [Lean.Grind.Semiring.one_mul,Lean.Grind.Semiring.mul_one] using h1) (by simpa only [Lean.Grind.Semiring.one_mul,Lean.Grind.Semiring.mul_one] using h2)
 have hk:d*((x1*x2)*(y1*y2))=k:=by clear c h1 h2;grind
 simp only[Lean.Grind.Semiring.one_mul,Lean.Grind.Semiring.mul_one,hk] at c
 exact c
theorem on_sum (x1 y1 x2 y2 d u v:α) (h1:y1*y1-x1*x1=1+d*(x1*x1)*(y1*y1)) (h2:y2*y2-x2*x2=1+d*(x2*x2)*(y2*y2)) (hu:(1+d*x1*x2*y1*y2)*u=1) (hv:(1-d*x1*x2*y1*y2)*v=1) :
    ((y1*y2+x1*x2)*v)*((y1*y2+x1*x2)*v)-((x1*y2+y1*x2)*u)*((x1*y2+y1*x2)*u)=1+d*(((x1*y2+y1*x2)*u)*((x1*y2+y1*x2)*u))*(((y1*y2+x1*x2)*v)*((y1*y2+x1*x2)*v)) :=
 scale _ _ _ u v d (edw_aff x1 y1 x2 y2 d h1 h2) hu hv
theorem unit_part (A B k u v x3 y3 d w:α) (hu:(1+k)*u=1) (hv:(1-k)*v=1) (hw:(1+d*(A*u)*x3*(B*v)*y3)*w=1):((1+k)*(1-k)+d*x3*y3*A*B)*(w*(u*v))=1:=by
 have hs:((1+k)*(1-k))*(u*v)=1:=by grind
 have e:(1+d*(A*u)*x3*(B*v)*y3)*((1+k)*(1-k))=(1+k)*(1-k)+d*x3*y3*A*B:=by grind
 rw[← e]
 generalize 1+d*(A*u)*x3*(B*v)*y3=g at *
 generalize (1+k)*(1-k)=z at *
 generalize u*v=uv at *
 clear hu hv e
 grind
theorem unit_party (A B k u v x3 y3 d w:α) (hu:(1+k)*u=1) (hv:(1-k)*v=1) (hw:(1-d*(A*u)*x3*(B*v)*y3)*w=1):((1+k)*(1-k)-d*x3*y3*A*B)*(w*(u*v))=1:=by
 have hs:((1+k)*(1-k))*(u*v)=1:=by grind
 have e:(1-d*(A*u)*x3*(B*v)*y3)*((1+k)*(1-k))=(1+k)*(1-k)-d*x3*y3*A*B:=by grind
 rw[← e]
 generalize 1-d*(A*u)*x3*(B*v)*y3=g at *
 generalize (1+k)*(1-k)=z at *
 generalize u*v=uv at *
 clear hu hv e
 grind
theorem same_of (L R M1 M2 N1 N2 i1 i2:α) (h1:L*M1=N1) (h2:R*M2=N2) (h:N1*M2=N2*M1) (e1:M1*i1=1) (e2:M2*i2=1):L=R:=by
 have c:=cross L R N1 M1 N2 M2 h1 h2 h
 have c2:=congrArg (·*(i1*i2)) c
 have c3:(L-R)*(M1*M2)*(i1*i2)=(L-R)*((M1*i1)*(M2*i2)):=by grind
 have c4:(L-R)*(M1*M2)*(i1*i2)=0*(i1*i2):=c2
 rw[c3,e1,e2] at c4
 grind
theorem curve_form (x y d:α) (h:y*y-x*x=1+d*(x*x)*(y*y)):d*x*x*y*y=y*y-x*x-1:=by grind
theorem assoc_x (x1 y1 x2 y2 x3 y3 d u v s t w z:α) (h1:y1*y1-x1*x1=1+d*(x1*x1)*(y1*y1)) (h2:y2*y2-x2*x2=1+d*(x2*x2)*(y2*y2)) (h3:y3*y3-x3*x3=1+d*(x3*x3)*(y3*y3))
    (hu:(1+d*x1*x2*y1*y2)*u=1) (hv:(1-d*x1*x2*y1*y2)*v=1) (hs:(1+d*x2*x3*y2*y3)*s=1) (ht:(1-d*x2*x3*y2*y3)*t=1)
    (hw:(1+d*((x1*y2+y1*x2)*u)*x3*((y1*y2+x1*x2)*v)*y3)*w=1) (hz:(1+d*x1*((x2*y3+y2*x3)*s)*y1*((y2*y3+x2*x3)*t))*z=1) :
    ((x1*y2+y1*x2)*u*y3+(y1*y2+x1*x2)*v*x3)*w=(x1*((y2*y3+x2*x3)*t)+y1*((x2*y3+y2*x3)*s))*z:=by
 have a:=edw_assoc_x x1 y1 x2 y2 x3 y3 d (curve_form x1 y1 d h1) (curve_form x2 y2 d h2) (curve_form x3 y3 d h3)
 clear h1 h2 h3
 generalize d*x1*x2*y1*y2=k at *
 generalize d*x2*x3*y2*y3=l at *
 generalize x1*y2+y1*x2=A at *
 generalize y1*y2+x1*x2=B at *
 generalize x2*y3+y2*x3=C at *
 generalize y2*y3+x2*x3=D at *
 have hz':(1+d*(C*s)*x1*(D*t)*y1)*z=1:=by
  have:d*(C*s)*x1*(D*t)*y1=d*x1*(C*s)*y1*(D*t):=by clear hz hw a hu hv hs ht;grind
  rw[this]
  exact hz
 have p1:=sum_part A B k u v x3 y3 d w hu hv hw
 have q1:=unit_part A B k u v x3 y3 d w hu hv hw
 have p2:=sum_part C D l s t x1 y1 d z hs ht hz'
 have q2:=unit_part C D l s t x1 y1 d z hs ht hz'
 have e2:(C*s*y1+D*t*x1)*z=(x1*(D*t)+y1*(C*s))*z:=by clear p1 q1 p2 q2 hz' hz hw a hu hv hs ht;grind
 rw[e2] at p2
 refine same_of _ _ _ _ _ _ _ _ p1 p2 ?_ q1 q2
 rw[a]
 have:x1*(D*(1+l))+y1*(C*(1-l))=C*(1-l)*y1+D*(1+l)*x1:=by clear p1 q1 p2 q2 hz' hz hw a hu hv hs ht e2;grind
 rw[this]
theorem assoc_y (x1 y1 x2 y2 x3 y3 d u v s t w z:α) (h1:y1*y1-x1*x1=1+d*(x1*x1)*(y1*y1)) (h2:y2*y2-x2*x2=1+d*(x2*x2)*(y2*y2)) (h3:y3*y3-x3*x3=1+d*(x3*x3)*(y3*y3))
    (hu:(1+d*x1*x2*y1*y2)*u=1) (hv:(1-d*x1*x2*y1*y2)*v=1) (hs:(1+d*x2*x3*y2*y3)*s=1) (ht:(1-d*x2*x3*y2*y3)*t=1)
    (hw:(1-d*((x1*y2+y1*x2)*u)*x3*((y1*y2+x1*x2)*v)*y3)*w=1) (hz:(1-d*x1*((x2*y3+y2*x3)*s)*y1*((y2*y3+x2*x3)*t))*z=1) :
    ((y1*y2+x1*x2)*v*y3+(x1*y2+y1*x2)*u*x3)*w=(y1*((y2*y3+x2*x3)*t)+x1*((x2*y3+y2*x3)*s))*z:=by
 have a:=edw_assoc_y x1 y1 x2 y2 x3 y3 d (curve_form x1 y1 d h1) (curve_form x2 y2 d h2) (curve_form x3 y3 d h3)
 clear h1 h2 h3
 generalize d*x1*x2*y1*y2=k at *
 generalize d*x2*x3*y2*y3=l at *
 generalize x1*y2+y1*x2=A at *
 generalize y1*y2+x1*x2=B at *
 generalize x2*y3+y2*x3=C at *
 generalize y2*y3+x2*x3=D at *
 have hz':(1-d*(C*s)*x1*(D*t)*y1)*z=1:=by
  have:d*(C*s)*x1*(D*t)*y1=d*x1*(C*s)*y1*(D*t):=by clear hz hw a hu hv hs ht;grind
  rw[this]
  exact hz
 have p1:=sum_party A B k u v x3 y3 d w hu hv hw
 have q1:=unit_party A B k u v x3 y3 d w hu hv hw
 have p2:=sum_party C D l s t x1 y1 d z hs ht hz'
 have q2:=unit_party C D l s t x1 y1 d z hs ht hz'
 have e2:(D*t*y1+C*s*x1)*z=(y1*(D*t)+x1*(C*s))*z:=by clear p1 q1 p2 q2 hz' hz hw a hu hv hs ht;grind
 rw[e2] at p2
 refine same_of _ _ _ _ _ _ _ _ p1 p2 ?_ q1 q2
 rw[a]
 have:y1*(D*(1+l))+x1*(C*(1-l))=D*(1+l)*y1+C*(1-l)*x1:=by clear p1 q1 p2 q2 hz' hz hw a hu hv hs ht e2;grind
 rw[this]
theorem swap5 (d a b c e:α):d*a*b*c*e=d*b*a*e*c:=by grind
theorem swap2 (a b c e:α):a*b+c*e=e*c+b*a:=by grind
theorem swap3 (a b c e:α):a*b+c*e=b*a+e*c:=by grind
end
-- the field
instance pnz:NeZero PN:=⟨Nat.ne_of_gt PN_pos⟩
abbrev Fp:=Fin PN
def fz (n:Nat):Fp:=Fin.ofNat PN n
theorem fz_val (n:Nat):(fz n).val=n%PN:=rfl
theorem fz_mod (n:Nat):fz (n%PN)=fz n:=Fin.ext (by rw[fz_val,fz_val,Nat.mod_mod])
theorem fz_add (a b:Nat):fz (a+b)=fz a+fz b:=Fin.ext (by rw[Fin.val_add,fz_val,fz_val,fz_val,← Nat.add_mod])
theorem fz_mul (a b:Nat):fz (a*b)=fz a*fz b:=Fin.ext (by rw[Fin.val_mul,fz_val,fz_val,fz_val,← Nat.mul_mod])
theorem fz_zero:fz 0=0:=rfl
theorem fz_one:fz 1=1:=rfl
theorem fz_P:fz PN=0:=Fin.ext (by rw[fz_val,Nat.mod_self];rfl)
theorem fz_of (a:Fp):fz a.val=a:=Fin.ext (by rw[fz_val,Nat.mod_eq_of_lt a.isLt])
theorem fz_inj {a b:Nat} (ha:a<PN) (hb:b<PN) (h:fz a=fz b):a=b:=by
 have e:=congrArg Fin.val h
 rwa [fz_val,fz_val,Nat.mod_eq_of_lt ha,Nat.mod_eq_of_lt hb] at e
theorem fz_sub (a b:Nat) (hb:b≤PN):fz (a+PN-b)=fz a-fz b:=by
 have h:fz (a+PN-b)+fz b=fz a:=by
  rw[← fz_add,show a+PN-b+b=a+PN by omega,fz_add,fz_P]
  grind
 grind
theorem fz_null (a:Nat):fz a=0↔a%PN=0:=by
 constructor
 ·intro h
  exact congrArg Fin.val h
 ·intro h
  exact Fin.ext h
theorem fp_dom (a b:Fp) (h:a*b=0):a=0∨b=0:=by
 rw[← fz_of a,← fz_of b,← fz_mul,fz_null] at h
 rcases primeP.2 _ _ (Nat.dvd_of_mod_eq_zero h) with h | h
 ·exact .inl (by rw[← fz_of a,fz_null];exact Nat.mod_eq_zero_of_dvd h)
 ·exact .inr (by rw[← fz_of b,fz_null];exact Nat.mod_eq_zero_of_dvd h)
theorem fp_two:(2:Fp)≠0:=fun h=>by
 have h1:fz 2=0:=h
 rw[fz_null] at h1
 revert h1
 decide +kernel
def dN:Nat:=37095705934669439343138083508754565189542113879843219016388785533085940283555
def iN:Nat:=19681161376707505956807079304988542015446066515923890162744021073123829784752
def hN:Nat:=28948022309329048855892746252171976963317496166410141009864396001978282409974
theorem d_is:dN*121666%PN=(PN-121665)%PN∧dN<PN:=by decide +kernel
theorem iN_sq:iN*iN%PN=PN-1:=by decide +kernel
theorem h_is:2*hN=PN-1:=by decide +kernel
theorem pow_of (n f e b r:Nat) (he:e<2^f) (h:pm n f e b 1%n=r):b^e%n=r:=by
 have x:=pm_eq n f e b 1 he
 rw[Nat.one_mul] at x
 rw[← x]
 exact h
theorem d_euler:dN^hN%PN=PN-1:=pow_of PN 256 hN dN (PN-1) (by decide +kernel) (by decide +kernel)
theorem PN_big:PN-1≠0∧PN-1≠1:=by decide +kernel
abbrev dF:Fp:=fz dN
abbrev iF:Fp:=fz iN
theorem i_sqF:iF*iF = -1:=by
 have h:fz (iN*iN)=fz (PN-1):=by rw[← fz_mod,iN_sq]
 have h2:fz (PN-1)+1=0:=by
  rw[← fz_one,← fz_add,Nat.sub_add_cancel (Nat.le_of_lt (Nat.lt_of_lt_of_le (by decide) PN_ge)),fz_P]
 rw[fz_mul] at h
 show iF*iF = -1
 grind
/-- d is no square. -/
theorem d_nsq (s t:Fp) (h:s*s=dF*(t*t)):t=0:=by
 have h1:s.val*s.val%PN=dN*(t.val*t.val)%PN:=by
  have e:fz (s.val*s.val)=fz (dN*(t.val*t.val)):=by
   rw[fz_mul,fz_mul,fz_mul,fz_of,fz_of]
   exact h
  exact congrArg Fin.val e
 by_cases ht:t.val%PN=0
 ·rw[← fz_of t,fz_null]
  exact ht
 ·exfalso
  have hp:∀ a:Nat,(a*a)^hN=a^(PN-1):=fun a=>by rw[← h_is,Nat.pow_mul,Nat.pow_two]
  have h2:(s.val*s.val)^hN%PN=(dN*(t.val*t.val))^hN%PN:=by rw[Nat.pow_mod,h1,← Nat.pow_mod]
  rw[hp,Nat.mul_pow,hp,Nat.mul_mod,d_euler,fermatP t.val ht,Nat.mul_one] at h2
  have h3:(PN-1)%PN=PN-1:=Nat.mod_eq_of_lt (Nat.sub_lt PN_pos (by decide))
  rw[h3] at h2
  rcases pow01 s.val (PN-1) rfl (by have:=PN_ge;omega) with h4 | h4
  ·exact PN_big.1 (h2.symm.trans h4)
  ·exact PN_big.2 (h2.symm.trans h4)
def inv (a:Fp):Fp:=fz (a.val^(PN-2))
theorem inv_ok (a:Fp) (h:a≠0):a*inv a=1:=by
 have ha:a.val%PN≠0:=fun e=>h (by rw[← fz_of a,fz_null];exact e)
 have h1:fz (a.val*a.val^(PN-2))=1:=by
  rw[← Nat.pow_succ',show (PN-2).succ=PN-1 by have:=PN_ge;omega,← fz_mod,fermatP a.val ha]
  rfl
 rw[fz_mul,fz_of] at h1
 exact h1
theorem fp_cancel (a b c:Fp) (hc:c≠0) (h:a*c=b*c):a=b:=by
 have h1:(a-b)*c=0:=by grind
 rcases fp_dom _ _ h1 with h2 | h2
 ·grind
 ·exact absurd h2 hc
/-- On the curve. -/
def On (p:Fp × Fp):Prop:=p.2*p.2-p.1*p.1=1+dF*(p.1*p.1)*(p.2*p.2)
def kF (p q:Fp × Fp):Fp:=dF*p.1*q.1*p.2*q.2
def addE (p q:Fp × Fp):Fp × Fp:=((p.1*q.2+p.2*q.1)*inv (1+kF p q),(p.2*q.2+p.1*q.1)*inv (1-kF p q))
theorem whole (p q:Fp × Fp) (hp:On p) (hq:On q):1+kF p q≠0∧1-kF p q≠0:=by
 have h:=edw_whole p.1 p.2 q.1 q.2 dF iF i_sqF fp_two d_nsq hp hq
 constructor
 ·intro e
  exact h (by show (1+kF p q)*(1-kF p q)=0;rw[e];grind)
 ·intro e
  exact h (by show (1+kF p q)*(1-kF p q)=0;rw[e];grind)
/-- The sum's parts, over the divisors' inverses. -/
theorem add_parts (p q:Fp × Fp) (hp:On p) (hq:On q):∃ u v,(1+kF p q)*u=1∧(1-kF p q)*v=1∧addE p q=((p.1*q.2+p.2*q.1)*u,(p.2*q.2+p.1*q.1)*v) :=
 ⟨_,_,inv_ok _ (whole p q hp hq).1,inv_ok _ (whole p q hp hq).2,rfl⟩
theorem on_add (p q:Fp × Fp) (hp:On p) (hq:On q):On (addE p q):=by
 obtain⟨u,v,hu,hv,e⟩:=add_parts p q hp hq
 rw[e]
 exact on_sum p.1 p.2 q.1 q.2 dF u v hp hq hu hv
theorem add_comm' (p q:Fp × Fp):addE p q=addE q p:=by
 have e:kF p q=kF q p:=swap5 dF p.1 q.1 p.2 q.2
 unfold addE
 rw[e]
 exact Prod.ext (congrArg (·*_) (swap2 p.1 q.2 p.2 q.1)) (congrArg (·*_) (swap3 p.2 q.2 p.1 q.1))
/-- The order doesn't count. -/
theorem add_assoc' (p q r:Fp × Fp) (hp:On p) (hq:On q) (hr:On r):addE (addE p q) r=addE p (addE q r):=by
 obtain⟨u,v,hu,hv,e⟩:=add_parts p q hp hq
 obtain⟨s,t,hs,ht,e2⟩:=add_parts q r hq hr
 obtain⟨w1,w2,hw1,hw2,e3⟩:=add_parts (addE p q) r (on_add p q hp hq) hr
 obtain⟨z1,z2,hz1,hz2,e4⟩:=add_parts p (addE q r) hp (on_add q r hq hr)
 rw[e3,e4]
 rw[e] at hw1 hw2 ⊢
 rw[e2] at hz1 hz2 ⊢
 exact Prod.ext (assoc_x p.1 p.2 q.1 q.2 r.1 r.2 dF u v s t w1 z1 hp hq hr hu hv hs ht hw1 hz1) (assoc_y p.1 p.2 q.1 q.2 r.1 r.2 dF u v s t w2 z2 hp hq hr hu hv hs ht hw2 hz2)
def zeroE:Fp × Fp:=(0,1)
def negE (p:Fp × Fp):Fp × Fp:=(-p.1,p.2)
theorem on_zero:On zeroE:=by unfold On zeroE;simp only;grind
theorem on_neg (p:Fp × Fp) (h:On p):On (negE p):=by unfold On negE at *;simp only;grind
section
variable {α:Type} [Lean.Grind.CommRing α]
theorem zero_parts (x y d u v:α) (hu:(1+d*x*0*y*1)*u=1) (hv:(1-d*x*0*y*1)*v=1):(x*1+y*0)*u=x∧(y*1+x*0)*v=y:=by
 constructor <;> grind
end
theorem add_zero' (p:Fp × Fp) (hp:On p):addE p zeroE=p:=by
 obtain⟨u,v,hu,hv,e⟩:=add_parts p zeroE hp on_zero
 rw[e]
 have h:=zero_parts p.1 p.2 dF u v hu hv
 exact Prod.ext h.1 h.2
/-- A point, so many times. -/
def timesE:Nat→Fp × Fp→Fp × Fp
 | 0,_=>zeroE
 | n+1,p=>addE (timesE n p) p
theorem on_times (p:Fp × Fp) (hp:On p):∀ n,On (timesE n p)
 | 0=>on_zero
 | n+1=>on_add _ _ (on_times p hp n) hp
theorem times_add (p:Fp × Fp) (hp:On p) (m:Nat):∀ n,timesE (m+n) p=addE (timesE m p) (timesE n p)
 | 0=>(add_zero' _ (on_times p hp m)).symm
 | n+1=>by
   show addE (timesE (m+n) p) p=addE (timesE m p) (addE (timesE n p) p)
   rw[times_add p hp m n,add_assoc' _ _ _ (on_times p hp m) (on_times p hp n) hp]
theorem times_zero:∀ n,timesE n zeroE=zeroE
 | 0=>rfl
 | n+1=>by
   show addE (timesE n zeroE) zeroE=zeroE
   rw[times_zero n,add_zero' _ on_zero]
theorem times_mul (p:Fp × Fp) (hp:On p) (m:Nat):∀ n,timesE (n*m) p=timesE n (timesE m p)
 | 0=>by rw[Nat.zero_mul];rfl
 | n+1=>by
   rw[Nat.add_mul,Nat.one_mul,times_add p hp,times_mul p hp m n]
   rfl
/-- A point by numbers with a divisor. -/
def Rep (X Y Z:Fp) (p:Fp × Fp):Prop:=Z≠0∧p.1*Z=X∧p.2*Z=Y
theorem fp_ne_mul {a b:Fp} (ha:a≠0) (hb:b≠0):a*b≠0:=fun h=>by
 rcases fp_dom _ _ h with h | h
 ·exact ha h
 ·exact hb h
section
variable {α:Type} [Lean.Grind.CommRing α]
theorem rep_parts (x1 y1 z1 x2 y2 z2 d u v:α) (hu:(1+d*x1*x2*y1*y2)*u=1) (hv:(1-d*x1*x2*y1*y2)*v=1) :
    let a:=z1*z2;let b:=a*a;let f:=d*((x1*z1*(x2*z2))*(y1*z1*(y2*z2)))
    b-f=b*(1-d*x1*x2*y1*y2)∧b+f=b*(1+d*x1*x2*y1*y2) ∧
    (x1*y2+y1*x2)*u*((b-f)*(b+f))=a*((x1*z1)*(y2*z2)+(y1*z1)*(x2*z2))*(b-f)∧(y1*y2+x1*x2)*v*((b-f)*(b+f))=a*((y1*z1)*(y2*z2)+(x1*z1)*(x2*z2))*(b+f):=by
 intro a b f
 have e1:b-f=b*(1-d*x1*x2*y1*y2):=by clear hu hv;grind
 have e2:b+f=b*(1+d*x1*x2*y1*y2):=by clear hu hv;grind
 refine⟨e1,e2,?_,?_⟩
 ·rw[e1,e2]
  generalize d*x1*x2*y1*y2=k at *
  have e3:a*((x1*z1)*(y2*z2)+(y1*z1)*(x2*z2))=(x1*y2+y1*x2)*b:=by clear hu hv e1 e2;grind
  rw[e3]
  generalize x1*y2+y1*x2=A at *
  generalize b=c at *
  clear e1 e2 e3
  grind
 ·rw[e1,e2]
  generalize d*x1*x2*y1*y2=k at *
  have e3:a*((y1*z1)*(y2*z2)+(x1*z1)*(x2*z2))=(y1*y2+x1*x2)*b:=by clear hu hv e1 e2;grind
  rw[e3]
  generalize y1*y2+x1*x2=A at *
  generalize b=c at *
  clear e1 e2 e3
  grind
end
/-- The sum by the document's definition, without dividing. -/
theorem rep_add (X1 Y1 Z1 X2 Y2 Z2:Fp) (p q:Fp × Fp) (hp:On p) (hq:On q) (h1:Rep X1 Y1 Z1 p) (h2:Rep X2 Y2 Z2 q) :
    let a:=Z1*Z2;let b:=a*a;let f:=dF*((X1*X2)*(Y1*Y2));Rep (a*(X1*Y2+Y1*X2)*(b-f)) (a*(Y1*Y2+X1*X2)*(b+f)) ((b-f)*(b+f)) (addE p q):=by
 intro a b f
 obtain⟨u,v,hu,hv,e⟩:=add_parts p q hp hq
 obtain⟨n1,rfl,rfl⟩:=h1
 obtain⟨n2,rfl,rfl⟩:=h2
 obtain⟨w1,w2⟩:=whole p q hp hq
 obtain⟨r1,r2,r3,r4⟩:=rep_parts p.1 p.2 Z1 q.1 q.2 Z2 dF u v hu hv
 have hb:b≠0:=fp_ne_mul (fp_ne_mul n1 n2) (fp_ne_mul n1 n2)
 rw[e]
 refine⟨?_,r3,r4⟩
 have m1:b-f≠0:=by
  show b-dF*((p.1*Z1*(q.1*Z2))*(p.2*Z1*(q.2*Z2)))≠0
  rw[r1]
  exact fp_ne_mul hb w2
 have m2:b+f≠0:=by
  show b+dF*((p.1*Z1*(q.1*Z2))*(p.2*Z1*(q.2*Z2)))≠0
  rw[r2]
  exact fp_ne_mul hb w1
 exact fp_ne_mul m1 m2
open Go.RowKit
def cN:Nat:=20800338683988658368647408995589388737092878452977063003340006470870624536394
theorem d_num:121665*(121666^(PN-2)%PN)%PN=cN∧(0+PN-cN)%PN=dN∧cN<PN:=by
 rw[pow_of PN 256 (PN-2) 121666 37095705934669439343138083508754565189542113879843219016388785533085940283556 (by decide +kernel) (by decide +kernel)]
 decide +kernel
set_option maxRecDepth 20000 in
theorem curD_any (w:World):Calls Tryz.prog 78 #[] w fun e w'=>e=.returned (numV dN)∧Below w.heap.size w w':=by
 have K1:=Lib.hid (fun w=>psmall_any 121665 w (by decide))
 have K2:=Lib.hid (fun w=>psmall_any 121666 w (by decide))
 have K3:=Lib.hid (fun w=>div_any 121665 121666 w (by decide +kernel) (by decide +kernel))
 rw[d_num.1] at K3
 have K4:=Lib.hid (fun w=>pneg_any cN w d_num.2.2)
 rw[d_num.2.1] at K4
 generalize cN=c at *
 generalize dN=R at *
 obtain⟨xr,xz,xB⟩:=z1_at 36 w
 obtain⟨m1,hm1⟩:∃ m:Nat,m=121665:=⟨_,rfl⟩
 obtain⟨m2,hm2⟩:∃ m:Nat,m=121666:=⟨_,rfl⟩
 rw[← hm1] at K1 K3
 rw[← hm2] at K2 K3
 have e1:((m1:Nat):Int)=121665:=by rw[hm1];rfl
 have e2:((m2:Nat):Int)=121666:=by rw[hm2];rfl
 rw[e1] at K1
 rw[e2] at K2
 clear hm1 hm2 e1 e2
 simp only[numV_agg] at K1 K2 K3 K4 ⊢
 go_enter Tryz.func78,Tryz.ntmps78
 go_wp2_with fail
 change Calls _ _ _ (Z1 36 w) _
 generalize Z1 36 w=X at *
 refine (K1.out X).mono ?_
 rintro e w1 ⟨rfl,hb1⟩
 have B1:=Lib.hid (xB.trans (hb1.mono xB.size))
 have X1:=Lib.hid (xr.keep hb1)
 clear hb1 xr xB K1
 go_wp2_with fail
 refine (K2.out _).mono ?_
 rintro e w2 ⟨rfl,hb2⟩
 have B2:=Lib.hid (B1.out.trans (hb2.mono B1.out.size))
 have X2:=Lib.hid (X1.out.keep hb2)
 clear hb2 B1 X1 K2
 go_wp2_with fail
 refine (K3.out _).mono ?_
 rintro e w3 ⟨rfl,hb3⟩
 have B3:=Lib.hid (B2.out.trans (hb3.mono B2.out.size))
 have X3:=Lib.hid (X2.out.keep hb3)
 clear hb3 B2 X2 K3
 go_wp2_with fail
 refine (K4.out _).mono ?_
 rintro e w4 ⟨rfl,hb4⟩
 have xr:=isA_zero' (X3.out.keep hb4)
 obtain⟨⟨d0,d1,d2,d3⟩,e0,e1,e2,e3⟩:=fourV xr
 have KL:=Lib.hid (load_el (isA_set (n:=R) xr))
 have BR:=Lib.hid (set4_below (v0:=.int .u64 (wd R 0:Int)) (v1:=.int .u64 (wd R 1:Int)) (v2:=.int .u64 (wd R 2:Int)) (v3:=.int .u64 (wd R 3:Int)) (B3.out.trans (hb4.mono B3.out.size)) (b:=w.heap.size) (Nat.le_refl _))
 clear hb4 B3 X3 K4 xr
 go_wp2_with fail
 exact bodyPost_ret (results_arr Tryz.results78 (by rfl) KL.out) rfl ⟨rfl,BR.out⟩
/-- A point's sixteen words. -/
def ptL (X Y Z T:Nat):List Value:=[.int .u64 (wd X 0:Int),.int .u64 (wd X 1:Int),.int .u64 (wd X 2:Int),.int .u64 (wd X 3:Int),.int .u64 (wd Y 0:Int),.int .u64 (wd Y 1:Int),.int .u64 (wd Y 2:Int),.int .u64 (wd Y 3:Int),.int .u64 (wd Z 0:Int),.int .u64 (wd Z 1:Int),.int .u64 (wd Z 2:Int),.int .u64 (wd Z 3:Int),.int .u64 (wd T 0:Int),.int .u64 (wd T 1:Int),.int .u64 (wd T 2:Int),.int .u64 (wd T 3:Int)]
def ptV (X Y Z T:Nat):Value:=.agg (ptL X Y Z T).toArray
def A5 (e f g h:Nat) (w:World):World:=((((w.alloc (.cells #[.int .u64 (wd e 0:Int),.int .u64 (wd e 1:Int),.int .u64 (wd e 2:Int),.int .u64 (wd e 3:Int)] 36)).alloc (.cells #[.int .u64 (wd f 0:Int),.int .u64 (wd f 1:Int),.int .u64 (wd f 2:Int),.int .u64 (wd f 3:Int)] 36)).alloc (.cells #[.int .u64 (wd g 0:Int),.int .u64 (wd g 1:Int),.int .u64 (wd g 2:Int),.int .u64 (wd g 3:Int)] 36)).alloc (.cells #[.int .u64 (wd h 0:Int),.int .u64 (wd h 1:Int),.int .u64 (wd h 2:Int),.int .u64 (wd h 3:Int)] 36)).alloc (.cells #[.int .u64 0,.int .u64 0,.int .u64 0,.int .u64 0,.int .u64 0,.int .u64 0,.int .u64 0,.int .u64 0,.int .u64 0,.int .u64 0,.int .u64 0,.int .u64 0,.int .u64 0,.int .u64 0,.int .u64 0,.int .u64 0] 39)
theorem a5_at (e f g h:Nat) (w:World):IsA (A5 e f g h w) w.heap.size e 36∧IsA (A5 e f g h w) (w.heap.size+1) f 36∧IsA (A5 e f g h w) (w.heap.size+1+1) g 36∧IsA (A5 e f g h w) (w.heap.size+1+1+1) h 36 ∧
    (A5 e f g h w).heap[w.heap.size+1+1+1+1]?=some (.cells #[.int .u64 0,.int .u64 0,.int .u64 0,.int .u64 0,.int .u64 0,.int .u64 0,.int .u64 0,.int .u64 0,.int .u64 0,.int .u64 0,.int .u64 0,.int .u64 0,.int .u64 0,.int .u64 0,.int .u64 0,.int .u64 0] 39 (0,0))∧Below w.heap.size w (A5 e f g h w):=by
 have s:∀ (W:World) (o:Obj),(W.alloc o).heap.size=W.heap.size+1:=fun W o=>by simp
 unfold A5
 refine⟨((((isA_new w e _).alloc _).alloc _).alloc _).alloc _,?_,?_,?_,?_,gr_alloc (gr_alloc (gr_alloc (gr_alloc (gr_alloc (Below.refl _ _) _) _) _) _) _⟩
 ·have x:=(((isA_new (w.alloc (.cells #[.int .u64 (wd e 0:Int),.int .u64 (wd e 1:Int),.int .u64 (wd e 2:Int),.int .u64 (wd e 3:Int)] 36)) f 36).alloc (.cells #[.int .u64 (wd g 0:Int),.int .u64 (wd g 1:Int),.int .u64 (wd g 2:Int),.int .u64 (wd g 3:Int)] 36)).alloc (.cells #[.int .u64 (wd h 0:Int),.int .u64 (wd h 1:Int),.int .u64 (wd h 2:Int),.int .u64 (wd h 3:Int)] 36)).alloc (.cells #[.int .u64 0,.int .u64 0,.int .u64 0,.int .u64 0,.int .u64 0,.int .u64 0,.int .u64 0,.int .u64 0,.int .u64 0,.int .u64 0,.int .u64 0,.int .u64 0,.int .u64 0,.int .u64 0,.int .u64 0,.int .u64 0] 39)
  rwa [s] at x
 ·have x:=((isA_new ((w.alloc (.cells #[.int .u64 (wd e 0:Int),.int .u64 (wd e 1:Int),.int .u64 (wd e 2:Int),.int .u64 (wd e 3:Int)] 36)).alloc (.cells #[.int .u64 (wd f 0:Int),.int .u64 (wd f 1:Int),.int .u64 (wd f 2:Int),.int .u64 (wd f 3:Int)] 36)) g 36).alloc (.cells #[.int .u64 (wd h 0:Int),.int .u64 (wd h 1:Int),.int .u64 (wd h 2:Int),.int .u64 (wd h 3:Int)] 36)).alloc (.cells #[.int .u64 0,.int .u64 0,.int .u64 0,.int .u64 0,.int .u64 0,.int .u64 0,.int .u64 0,.int .u64 0,.int .u64 0,.int .u64 0,.int .u64 0,.int .u64 0,.int .u64 0,.int .u64 0,.int .u64 0,.int .u64 0] 39)
  rwa [s,s] at x
 ·have x:=(isA_new (((w.alloc (.cells #[.int .u64 (wd e 0:Int),.int .u64 (wd e 1:Int),.int .u64 (wd e 2:Int),.int .u64 (wd e 3:Int)] 36)).alloc (.cells #[.int .u64 (wd f 0:Int),.int .u64 (wd f 1:Int),.int .u64 (wd f 2:Int),.int .u64 (wd f 3:Int)] 36)).alloc (.cells #[.int .u64 (wd g 0:Int),.int .u64 (wd g 1:Int),.int .u64 (wd g 2:Int),.int .u64 (wd g 3:Int)] 36)) h 36).alloc (.cells #[.int .u64 0,.int .u64 0,.int .u64 0,.int .u64 0,.int .u64 0,.int .u64 0,.int .u64 0,.int .u64 0,.int .u64 0,.int .u64 0,.int .u64 0,.int .u64 0,.int .u64 0,.int .u64 0,.int .u64 0,.int .u64 0] 39)
  rwa [s,s,s] at x
 ·have x:=alloc_new ((((w.alloc (.cells #[.int .u64 (wd e 0:Int),.int .u64 (wd e 1:Int),.int .u64 (wd e 2:Int),.int .u64 (wd e 3:Int)] 36)).alloc (.cells #[.int .u64 (wd f 0:Int),.int .u64 (wd f 1:Int),.int .u64 (wd f 2:Int),.int .u64 (wd f 3:Int)] 36)).alloc (.cells #[.int .u64 (wd g 0:Int),.int .u64 (wd g 1:Int),.int .u64 (wd g 2:Int),.int .u64 (wd g 3:Int)] 36)).alloc (.cells #[.int .u64 (wd h 0:Int),.int .u64 (wd h 1:Int),.int .u64 (wd h 2:Int),.int .u64 (wd h 3:Int)] 36)) (.cells #[.int .u64 0,.int .u64 0,.int .u64 0,.int .u64 0,.int .u64 0,.int .u64 0,.int .u64 0,.int .u64 0,.int .u64 0,.int .u64 0,.int .u64 0,.int .u64 0,.int .u64 0,.int .u64 0,.int .u64 0,.int .u64 0] 39)
  rwa [s,s,s,s] at x
set_option maxRecDepth 20000 in
set_option maxHeartbeats 8000000 in
theorem quot_any (e f g h:Nat) (w:World) (he:e<PN) (hf:f<PN) (hg:g<PN) (hh:h<PN):Calls Tryz.prog 195 #[numV e,numV f,numV g,numV h] w fun E w'=>E=.returned (ptV (e*f%PN) (g*h%PN) (f*g%PN) (e*h%PN))∧Below w.heap.size w w':=by
 have HMIX:=Lib.hid (show Tryz.prog.follows .mixedOrders=true by kernel_rfl)
 have K1:=Lib.hid (mul_two e f he hf)
 have K2:=Lib.hid (mul_two g h hg hh)
 have K3:=Lib.hid (mul_two f g hf hg)
 have K4:=Lib.hid (mul_two e h he hh)
 generalize e*f%PN=X at *
 generalize g*h%PN=Y at *
 generalize f*g%PN=Z at *
 generalize e*h%PN=T at *
 simp only[numV_agg] at K1 K2 K3 K4 ⊢
 clear he hf hg hh
 go_enter Tryz.func195,Tryz.ntmps195
 go_wp2_with fail
 change Code.wp _ _ _ _ (A5 e f g h w)
 obtain⟨xe,xf,xg,xh,xr,xB⟩:=a5_at e f g h w
 generalize A5 e f g h w=V0 at *
 obtain⟨⟨q0,q1,q2,q3⟩,_⟩:=fourV xe
 obtain⟨⟨q4,q5,q6,q7⟩,_⟩:=fourV xf
 obtain⟨⟨q8,q9,q10,q11⟩,_⟩:=fourV xg
 obtain⟨⟨q12,q13,q14,q15⟩,_⟩:=fourV xh
 have d0:=fun d os=>cell_regrown q0 d os
 have d1:=fun d os=>cell_regrown q1 d os
 have d2:=fun d os=>cell_regrown q2 d os
 have d3:=fun d os=>cell_regrown q3 d os
 have d4:=fun d os=>cell_regrown q4 d os
 have d5:=fun d os=>cell_regrown q5 d os
 have d6:=fun d os=>cell_regrown q6 d os
 have d7:=fun d os=>cell_regrown q7 d os
 have d8:=fun d os=>cell_regrown q8 d os
 have d9:=fun d os=>cell_regrown q9 d os
 have d10:=fun d os=>cell_regrown q10 d os
 have d11:=fun d os=>cell_regrown q11 d os
 have d12:=fun d os=>cell_regrown q12 d os
 have d13:=fun d os=>cell_regrown q13 d os
 have d14:=fun d os=>cell_regrown q14 d os
 have d15:=fun d os=>cell_regrown q15 d os
 have XR:=Lib.hid xr
 have XB:=Lib.hid xB
 clear xe xf xg xh xr xB q0 q1 q2 q3 q4 q5 q6 q7 q8 q9 q10 q11 q12 q13 q14 q15
 refine wp_region_inw 18 HMIX.out (by decide) (by kernel_rfl) (by kernel_rfl) ?_
 repeat (first
  | (refine inw_skip (by rfl) (by rfl) ?_;simp only[nm0,nm1,nm2,nm3])
  | (refine inw_val (v:=?_) (by rfl) (by rfl) (fun d os=>?_) ?_;rotate_left;(focus (go_simp;(try with_reducible rfl);done));simp only[nm0,nm1,nm2,nm3]))
 refine inw_mk (fun b=>.slice (some ⟨b,0,none⟩) 2 2) (.cells #[.int .u64 (wd e 0:Int),.int .u64 (wd e 1:Int),.int .u64 (wd e 2:Int),.int .u64 (wd e 3:Int),.int .u64 (wd f 0:Int),.int .u64 (wd f 1:Int),.int .u64 (wd f 2:Int),.int .u64 (wd f 3:Int)] 36 (0,0)) (by rfl) (by rfl) (fun d os=>?_) ?_;(focus (go_simp;done));simp only[List.nil_append,List.cons_append]
 repeat (first
  | (refine inw_skip (by rfl) (by rfl) ?_;simp only[nm0,nm1,nm2,nm3])
  | (refine inw_val (v:=?_) (by rfl) (by rfl) (fun d os=>?_) ?_;rotate_left;(focus (go_simp;(try with_reducible rfl);done));simp only[nm0,nm1,nm2,nm3]))
 refine inw_callp (v:=_) (f:=76) (args:=fun b=>#[.slice (some ⟨b,0,none⟩) 2 2]) (by rfl) (by rfl) (fun b=>by rfl) (fun b d os=>by (simp only[nm0,nm1,nm2,nm3];go_simp;done)) K1.out ?_;simp only[nm0,nm1,nm2,nm3]
 repeat (first
  | (refine inw_skip (by rfl) (by rfl) ?_;simp only[nm0,nm1,nm2,nm3])
  | (refine inw_val (v:=?_) (by rfl) (by rfl) (fun d os=>?_) ?_;rotate_left;(focus (go_simp;(try with_reducible rfl);done));simp only[nm0,nm1,nm2,nm3]))
 refine inw_mk (fun b=>.slice (some ⟨b,0,none⟩) 2 2) (.cells #[.int .u64 (wd g 0:Int),.int .u64 (wd g 1:Int),.int .u64 (wd g 2:Int),.int .u64 (wd g 3:Int),.int .u64 (wd h 0:Int),.int .u64 (wd h 1:Int),.int .u64 (wd h 2:Int),.int .u64 (wd h 3:Int)] 36 (0,0)) (by rfl) (by rfl) (fun d os=>?_) ?_;(focus (go_simp;done));simp only[List.nil_append,List.cons_append]
 repeat (first
  | (refine inw_skip (by rfl) (by rfl) ?_;simp only[nm0,nm1,nm2,nm3])
  | (refine inw_val (v:=?_) (by rfl) (by rfl) (fun d os=>?_) ?_;rotate_left;(focus (go_simp;(try with_reducible rfl);done));simp only[nm0,nm1,nm2,nm3]))
 refine inw_callp (v:=_) (f:=76) (args:=fun b=>#[.slice (some ⟨b,0,none⟩) 2 2]) (by rfl) (by rfl) (fun b=>by rfl) (fun b d os=>by (simp only[nm0,nm1,nm2,nm3];go_simp;done)) K2.out ?_;simp only[nm0,nm1,nm2,nm3]
 repeat (first
  | (refine inw_skip (by rfl) (by rfl) ?_;simp only[nm0,nm1,nm2,nm3])
  | (refine inw_val (v:=?_) (by rfl) (by rfl) (fun d os=>?_) ?_;rotate_left;(focus (go_simp;(try with_reducible rfl);done));simp only[nm0,nm1,nm2,nm3]))
 refine inw_mk (fun b=>.slice (some ⟨b,0,none⟩) 2 2) (.cells #[.int .u64 (wd f 0:Int),.int .u64 (wd f 1:Int),.int .u64 (wd f 2:Int),.int .u64 (wd f 3:Int),.int .u64 (wd g 0:Int),.int .u64 (wd g 1:Int),.int .u64 (wd g 2:Int),.int .u64 (wd g 3:Int)] 36 (0,0)) (by rfl) (by rfl) (fun d os=>?_) ?_;(focus (go_simp;done));simp only[List.nil_append,List.cons_append]
 repeat (first
  | (refine inw_skip (by rfl) (by rfl) ?_;simp only[nm0,nm1,nm2,nm3])
  | (refine inw_val (v:=?_) (by rfl) (by rfl) (fun d os=>?_) ?_;rotate_left;(focus (go_simp;(try with_reducible rfl);done));simp only[nm0,nm1,nm2,nm3]))
 refine inw_callp (v:=_) (f:=76) (args:=fun b=>#[.slice (some ⟨b,0,none⟩) 2 2]) (by rfl) (by rfl) (fun b=>by rfl) (fun b d os=>by (simp only[nm0,nm1,nm2,nm3];go_simp;done)) K3.out ?_;simp only[nm0,nm1,nm2,nm3]
 repeat (first
  | (refine inw_skip (by rfl) (by rfl) ?_;simp only[nm0,nm1,nm2,nm3])
  | (refine inw_val (v:=?_) (by rfl) (by rfl) (fun d os=>?_) ?_;rotate_left;(focus (go_simp;(try with_reducible rfl);done));simp only[nm0,nm1,nm2,nm3]))
 refine inw_mk (fun b=>.slice (some ⟨b,0,none⟩) 2 2) (.cells #[.int .u64 (wd e 0:Int),.int .u64 (wd e 1:Int),.int .u64 (wd e 2:Int),.int .u64 (wd e 3:Int),.int .u64 (wd h 0:Int),.int .u64 (wd h 1:Int),.int .u64 (wd h 2:Int),.int .u64 (wd h 3:Int)] 36 (0,0)) (by rfl) (by rfl) (fun d os=>?_) ?_;(focus (go_simp;done));simp only[List.nil_append,List.cons_append]
 repeat (first
  | (refine inw_skip (by rfl) (by rfl) ?_;simp only[nm0,nm1,nm2,nm3])
  | (refine inw_val (v:=?_) (by rfl) (by rfl) (fun d os=>?_) ?_;rotate_left;(focus (go_simp;(try with_reducible rfl);done));simp only[nm0,nm1,nm2,nm3]))
 refine inw_callp (v:=_) (f:=76) (args:=fun b=>#[.slice (some ⟨b,0,none⟩) 2 2]) (by rfl) (by rfl) (fun b=>by rfl) (fun b d os=>by (simp only[nm0,nm1,nm2,nm3];go_simp;done)) K4.out ?_;simp only[nm0,nm1,nm2,nm3]
 repeat (first
  | (refine inw_skip (by rfl) (by rfl) ?_;simp only[nm0,nm1,nm2,nm3])
  | (refine inw_val (v:=?_) (by rfl) (by rfl) (fun d os=>?_) ?_;rotate_left;(focus (go_simp;(try with_reducible rfl);done));simp only[nm0,nm1,nm2,nm3]))
 refine inw_end4 (t1:=11) (t2:=15) (t3:=19) (t4:=23) (by rfl) (by rfl) (by rfl) (by rfl) (fun n1 n2 n3 n4 d os=>?_)
 have BW:=below_regrown V0 d os
 have xr:=(BW.block _ (Array.getElem?_eq_some_iff.1 XR.out).1).trans XR.out
 have xB:=XB.out.trans (BW.mono XB.out.size)
 generalize grow (redrawn V0 d) os=V at xr xB ⊢
 clear BW XR XB d0 d1 d2 d3 d4 d5 d6 d7 d8 d9 d10 d11 d12 d13 d14 d15 K1 K2 K3 K4
 simp only[nm0,nm1,nm2,nm3]
 have G:=Lib.hid (setRow_heap V (w.heap.size+1+1+1+1) _ (ptL X Y Z T).toArray _ _ xr)
 have GB:=Lib.hid (below_setRow xB (by omega:w.heap.size≤w.heap.size+1+1+1+1) (ptL X Y Z T).toArray)
 change wpAny _ _ _ _ 1 _ _ _
 refine any_one (i:=18) (by kernel_rfl) rfl (fun K hK=>?_)
 rw[if_pos (by rfl)]
 refine wp_store_row 39 (.tmp 8) (.tmp 26) rfl (w.heap.size+1+1+1+1) (ptL X Y Z T).toArray (by simp[Act.eval]) (by simp[Act.eval,ptL]) 39 _ xr (by kernel_rfl) (by rfl) (by simp[ptL,Value.oneCell']) ?_
 simp only[Act.put]
 refine hK _ _ ?_
 clear hK K xr xB
 generalize V.setRow (w.heap.size+1+1+1+1) (ptL X Y Z T).toArray=Y9 at *
 refine wpAny_done (by kernel_rfl) ?_ _
 iterate 4 go_step
 have kl:=run_loadVar_row (P:=Tryz.prog) Y9 (w.heap.size+1+1+1+1) 39 39 _ (0,0) _ G.out Tryz.underlying39 rfl (by kernel_rfl)
 exact bodyPost_ret (v:=ptV X Y Z T) (results_arr Tryz.results195 (by rfl) kl) rfl ⟨rfl,GB.out⟩
end Go.Proofs.YtnaldciakclccaaGreat
