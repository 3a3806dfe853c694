/- Lemmas of this proof. -/
import Derived.Laws.Tables
import Derived.Laws.CopyOwn
import Derived.Test.YtnaldciakclccaaGreatEv05
import Derived.Test.YtnaldciakclccaaGreatEv06
import Derived.Test.YtnaldciakclccaaGreatEv04
namespace Go.Proofs.YtnaldciakclccaaGreat
set_option maxRecDepth 20000
set_option maxHeartbeats 8000000
set_option linter.unusedSimpArgs false
set_option linter.unusedVariables false
open Go.RowKit Go.Sort
theorem TH (a b:Nat) (w:World) (ha:a<PN) (hb:b<PN):Calls Tryz.prog 132 #[Aa a,Aa b] w fun e w'=>e=.returned (Aa (a*(b^(PN-2)%PN)%PN))∧Below w.heap.size w w':=by
 have HMIX:=Lh (show Tryz.prog.follows .mixedOrders=true by kernel_rfl)
 have K1:=Lh (fun w=>Rm b w hb)
 have hI:b^(PN-2)%PN<PN:=Nat.mod_lt _ Au
 obtain⟨I,hIe⟩:=exzb (b^(PN-2)%PN)
 rw[hIe] at K1 hI ⊢
 have K2:=Lh (mul_two a I ha hI)
 obtain⟨R,hR⟩:=exzb (a*I%PN)
 rw[hR] at K2 ⊢
 obtain⟨xa,xb,xr,xz,xB⟩:=Yj a b 36 w
 simp only[AL] at K1 K2 ⊢
 clear ha hb hI hIe hR
 go_enter Tryz.func132,Tryz.ntmps132
 go_wp2_with fail
 change Code.wp _ _ _ _ (A3 a b 36 w)
 generalize A3 a b 36 w=X at *
 obtain⟨⟨q0,q1,q2,q3⟩,_⟩:=Aq xa
 obtain⟨⟨q4,q5,q6,q7⟩,_⟩:=Aq xb
 have d0:=fun d os=>cell_regrown q0 d os
 have d1:=fun d os=>cell_regrown q1 d os
 have d2:=fun d os=>cell_regrown q2 d os
 have d3:=fun d os=>cell_regrown q3 d os
 have d4:=fun d os=>cell_regrown q4 d os
 have d5:=fun d os=>cell_regrown q5 d os
 have d6:=fun d os=>cell_regrown q6 d os
 have d7:=fun d os=>cell_regrown q7 d os
 have XR:=Lh xr
 have XB:=Lh xB
 clear xa xb xr xz xB q0 q1 q2 q3 q4 q5 q6 q7
 refine Ak 5 HMIX.out (by decide) (by kernel_rfl) (by kernel_rfl) ?_
 repeat (first
  | (refine AZ (by rfl) (by rfl) ?_;simp only[nmA])
  | (refine Bp (v:=?_) (by rfl) (by rfl) (fun d os=>?_) ?_;rotate_left;(focus (go_simp;(try with_reducible rfl);done));simp only[nmA]))
 refine Gw (args:=?_) (v:=?_) (f:=81) (by rfl) (by rfl) (fun d os=>?_) (fun d os=>?_) ?_;rotate_left 3;(focus (with_reducible exact K1.out _;done));rotate_left;(focus (go_simp;done));simp only[nmA]
 repeat (first
  | (refine AZ (by rfl) (by rfl) ?_;simp only[nmA])
  | (refine Bp (v:=?_) (by rfl) (by rfl) (fun d os=>?_) ?_;rotate_left;(focus (go_simp;(try with_reducible rfl);done));simp only[nmA]))
 refine GP (fun b=>.slice (some ⟨b,0,none⟩) 2 2) (.cells #[.int .u64 (wd a 0:Int),.int .u64 (wd a 1:Int),.int .u64 (wd a 2:Int),.int .u64 (wd a 3:Int),.int .u64 (wd I 0:Int),.int .u64 (wd I 1:Int),.int .u64 (wd I 2:Int),.int .u64 (wd I 3:Int)] 36 (0,0)) (by rfl) (by rfl) (fun d os=>?_) ?_;(focus (go_simp;done));simp only[List.nil_append,List.cons_append]
 repeat (first
  | (refine AZ (by rfl) (by rfl) ?_;simp only[nmA])
  | (refine Bp (v:=?_) (by rfl) (by rfl) (fun d os=>?_) ?_;rotate_left;(focus (go_simp;(try with_reducible rfl);done));simp only[nmA]))
 refine DQ (v:=_) (f:=76) (args:=fun b=>#[.slice (some ⟨b,0,none⟩) 2 2]) (by rfl) (by rfl) (fun b=>by rfl) (fun b d os=>by (simp only[nmA];go_simp;done)) K2.out ?_;simp only[nmA]
 repeat (first
  | (refine AZ (by rfl) (by rfl) ?_;simp only[nmA])
  | (refine Bp (v:=?_) (by rfl) (by rfl) (fun d os=>?_) ?_;rotate_left;(focus (go_simp;(try with_reducible rfl);done));simp only[nmA]))
 refine WN (t1:=8) (by rfl) (fun b1 d os hb1=>?_)
 have BW:=below_regrown X d os
 have xr:=XR.out.keep BW
 have xB:=XB.out.trans (BW.mono XB.out.size)
 generalize grow (redrawn X d) os=V at xr xB ⊢
 simp only[nmA]
 clear BW XR XB d0 d1 d2 d3 d4 d5 d6 d7
 obtain⟨⟨z0,z1,z2,z3⟩,zf0,zf1,zf2,zf3⟩:=Aq xr
 have ra:=AN (n:=R) (AT xr)
 have rb:=Bg (v0:=.int .u64 (wd R 0:Int)) (v1:=.int .u64 (wd R 1:Int)) (v2:=.int .u64 (wd R 2:Int)) (v3:=.int .u64 (wd R 3:Int)) xB (b:=w.heap.size+1+1) (by omega)
 have KL:=Lh (Cm ra)
 have BR:=Lh rb
 clear ra rb xr xB
 change wpAny _ _ _ _ 1 _ _ _
 refine Ej (i:=5) (by kernel_rfl) rfl (fun K hK=>?_)
 go_simp
 refine hK _ _ ?_
 clear hK K z0 z1 z2 z3 zf0 zf1 zf2 zf3
 refine wpAny_done (by kernel_rfl) ?_ _
 iterate 4 go_step
 exact bodyPost_ret (Ap Tryz.results132 (by rfl) KL.out) rfl ⟨rfl,BR.out⟩
theorem mmL (a b n:Nat):a%n*b%n=a*b%n:=by rw[Nat.mul_mod,Nat.mod_mod,← Nat.mul_mod]
theorem mmR (a b n:Nat):a*(b%n)%n=a*b%n:=by rw[Nat.mul_mod,Nat.mod_mod,← Nat.mul_mod]
theorem ja (a e:Nat) (he:0<e) (ha:a%PN=0):a^e%PN=0:=by
 rw[Nat.pow_mod,ha,Nat.zero_pow he,Nat.zero_mod]
theorem aF (a e:Nat) (he:e=PN-1) (h0:0<e):a^e%PN=0∨a^e%PN=1:=by
 by_cases h:a%PN=0
 ·exact .inl (ja a e h0 h)
 ·rw[he]
  exact .inr (K7 a h)
theorem iY (q a:Nat) (hq:q<PN) (ha:a<PN) (h:q*q%PN=a*a%PN):q=a∨q=(0+PN-a)%PN:=by
 have main:∀ x y:Nat,y≤x→x<PN→x*x%PN=y*y%PN→x=y∨x+y=PN:=fun x y hyx hx he=>by
  have hd:PN ∣ (x-y)*(x+y):=by
   obtain⟨d,rfl⟩:∃ d,x=y+d:=⟨x-y,by omega⟩
   have e1:(y+d)*(y+d)=y*y+(y+d-y)*(y+d+y):=by
    rw[show y+d-y=d by omega]
    simp only[Nat.mul_add,Nat.mul_comm]
    omega
   rw[e1] at he
   have h2:(y*y+(y+d-y)*(y+d+y)-y*y)%PN=0:=Nat.sub_mod_eq_zero_of_mod_eq he
   rw[Nat.add_sub_cancel_left] at h2
   exact Nat.dvd_of_mod_eq_zero h2
  rcases Yq.2 _ _ hd with h1 | h1
  ·rcases Nat.eq_zero_or_pos (x-y) with h0 | h0
   ·exact .inl (by omega)
   ·have:=Nat.le_of_dvd h0 h1
    omega
  ·rcases Nat.eq_zero_or_pos (x+y) with h0 | h0
   ·exact .inl (by omega)
   ·obtain⟨k,hk⟩:=h1
    have hk1:k=1:=by
     rcases Nat.lt_or_ge k 2 with h | h
     ·have:k≠0:=fun e=>by subst e;omega
      omega
     ·have:=Nat.mul_le_mul_left PN h
      omega
    subst hk1
    exact .inr (by omega)
 rcases Nat.le_total a q with hl | hl
 ·rcases main q a hl hq h with h1 | h1
  ·exact .inl h1
  ·right
   by_cases ha0:a=0
   ·omega
   ·rw[Nat.zero_add,Nat.mod_eq_of_lt (by omega)]
    omega
 ·rcases main a q hl ha h.symm with h1 | h1
  ·exact .inl h1.symm
  ·right
   by_cases ha0:a=0
   ·omega
   ·rw[Nat.zero_add,Nat.mod_eq_of_lt (by omega)]
    omega
theorem Vr (t:Nat) (ht:t<PN) (h:t*t%PN=1):t=1∨t=PN-1:=by
 have h1:1*1%PN=1:=by decide +kernel
 rcases iY t 1 ht (by decide +kernel) (h.trans h1.symm) with e | e
 ·exact .inl e
 ·right
  rw[e]
  decide +kernel
theorem fD:(PN-1)*(PN-1)%PN=1:=by decide +kernel
theorem Wb (a r0 i e2 e3 e4:Nat) (ha:a<PN) (h2:2*e2=PN-1) (h3:8*e3=PN+3) (h4:4*e4=PN-1) (hr:r0=a^e3%PN) (hi:i*i%PN=PN-1) :
    ((if r0*r0%PN=a then r0 else r0*i%PN)*(if r0*r0%PN=a then r0 else r0*i%PN)%PN=a)↔(a^e2%PN=0∨a^e2%PN=1):=by
 have he2:e2=e4+e4:=by omega
 have he3:e3+e3=e4+1:=by omega
 have hp2:2≤PN:=Jt
 have h20:0<e2+e2:=by omega
 constructor
 ·intro h
  generalize (if r0*r0%PN=a then r0 else r0*i%PN)=q at h
  have e:a^e2%PN=q^(e2+e2)%PN:=by
   rw[← h,← Nat.pow_mod,← Nat.pow_two,← Nat.pow_mul,show 2*e2=e2+e2 by omega]
  rw[e]
  exact aF q (e2+e2) (by omega) h20
 ·intro h
  have hrr:r0*r0%PN=a*(a^e4%PN)%PN:=by
   rw[hr,← Nat.mul_mod,← Nat.pow_add,he3,Nat.pow_succ,mmR,Nat.mul_comm]
  rcases h with h | h
  ·have ha0:a%PN=0:=by
     rcases Nat.eq_zero_or_pos (a%PN) with h0 | h0
     ·exact h0
     ·have hf:=K7 a (by omega)
      rw[← h2,show 2*e2=e2+e2 by omega,Nat.pow_add,Nat.mul_mod,h,Nat.mul_zero,Nat.zero_mod] at hf
      omega
   have haz:a=0:=by rw[Nat.mod_eq_of_lt ha] at ha0;exact ha0
   have hz:r0*r0%PN=a:=by rw[hrr,haz,Nat.zero_mul,Nat.zero_mod]
   rw[if_pos hz]
   exact hz
  ·have ht:(a^e4%PN)*(a^e4%PN)%PN=1:=by
     rw[← Nat.mul_mod,← Nat.pow_add,← he2]
     exact h
   rcases Vr (a^e4%PN) (Nat.mod_lt _ Au) ht with e | e
   ·have hz:r0*r0%PN=a:=by rw[hrr,e,Nat.mul_one,Nat.mod_eq_of_lt ha]
    rw[if_pos hz]
    exact hz
   ·by_cases hz:r0*r0%PN=a
    ·rw[if_pos hz]
     exact hz
    ·rw[if_neg hz,← Nat.mul_mod,show r0*i*(r0*i)=r0*r0*(i*i) by rw[Nat.mul_assoc,Nat.mul_left_comm i,← Nat.mul_assoc],Nat.mul_mod,hrr,hi,e,mmL,Nat.mul_assoc,← mmR,fD,Nat.mul_one,Nat.mod_eq_of_lt ha]
theorem gG {α:Type} [Lean.Grind.CommRing α] (x1 y1 x2 y2 d i:α) (hi:i*i = -1) (h1:y1*y1-x1*x1=1+d*(x1*x1)*(y1*y1)) (h2:y2*y2-x2*x2=1+d*(x2*x2)*(y2*y2)) (hk:(d*x1*x2*y1*y2)*(d*x1*x2*y1*y2)=1) :
    (i*x1+(d*x1*x2*y1*y2)*y1)*(i*x1+(d*x1*x2*y1*y2)*y1)=d*((x1*y1*(i*x2+y2))*(x1*y1*(i*x2+y2))):=by grind
theorem bJ {α:Type} [Lean.Grind.CommRing α] (x1 y1 x2 y2 d i:α) (hi:i*i = -1) (h1:y1*y1-x1*x1=1+d*(x1*x1)*(y1*y1)) (h2:y2*y2-x2*x2=1+d*(x2*x2)*(y2*y2)) (hk:(d*x1*x2*y1*y2)*(d*x1*x2*y1*y2)=1) :
    (i*x1-(d*x1*x2*y1*y2)*y1)*(i*x1-(d*x1*x2*y1*y2)*y1)=d*((x1*y1*(i*x2-y2))*(x1*y1*(i*x2-y2))):=by grind
theorem di {α:Type} [Lean.Grind.CommRing α] (x1 y1 x2 y2 d i:α) (hi:i*i = -1) (hk:(d*x1*x2*y1*y2)*(d*x1*x2*y1*y2)=1) (a:x1*y1*(i*x2+y2)=0) (b:x1*y1*(i*x2-y2)=0):(2:α)=0:=by grind
theorem VA {α:Type} [Lean.Grind.CommRing α] (x1 y1 x2 y2 d i:α) (hi:i*i = -1) (two:(2:α)≠0) (nsq:∀ s t:α,s*s=d*(t*t)→t=0)
    (h1:y1*y1-x1*x1=1+d*(x1*x1)*(y1*y1)) (h2:y2*y2-x2*x2=1+d*(x2*x2)*(y2*y2)):(1+d*x1*x2*y1*y2)*(1-d*x1*x2*y1*y2)≠0:=fun h=>by
 have hk:(d*x1*x2*y1*y2)*(d*x1*x2*y1*y2)=1:=by grind
 exact two (di x1 y1 x2 y2 d i hi hk (nsq _ _ (gG x1 y1 x2 y2 d i hi h1 h2 hk)) (nsq _ _ (bJ x1 y1 x2 y2 d i hi h1 h2 hk)))
theorem Tp {α:Type} [Lean.Grind.CommRing α] (x1 y1 z1 x2 y2 z2 d:α) (h1:(y1*y1-x1*x1)*(z1*z1)=z1*z1*(z1*z1)+d*(x1*x1)*(y1*y1)) (h2:(y2*y2-x2*x2)*(z2*z2)=z2*z2*(z2*z2)+d*(x2*x2)*(y2*y2)) :
    let a:=z1*z2;let b:=a*a;let f:=d*((x1*x2)*(y1*y2));let X:=a*(x1*y2+y1*x2)*(b-f);let Y:=a*(y1*y2+x1*x2)*(b+f);let Z:=(b-f)*(b+f)
    (Y*Y-X*X)*(Z*Z)=Z*Z*(Z*Z)+d*(X*X)*(Y*Y):=by grind
set_option maxRecDepth 100000 in
theorem Qv {α:Type} [Lean.Grind.CommRing α] (x1 y1 x2 y2 x3 y3 d:α) (h1:d*x1*x1*y1*y1=y1*y1-x1*x1-1) (h2:d*x2*x2*y2*y2=y2*y2-x2*x2-1) (h3:d*x3*x3*y3*y3=y3*y3-x3*x3-1) :
    (((x1*y2+y1*x2)*(1-d*x1*x2*y1*y2))*y3+((y1*y2+x1*x2)*(1+d*x1*x2*y1*y2))*x3)*((1+d*x2*x3*y2*y3)*(1-d*x2*x3*y2*y3)+d*x1*y1*(x2*y3+y2*x3)*(y2*y3+x2*x3))
     = (x1*((y2*y3+x2*x3)*(1+d*x2*x3*y2*y3))+y1*((x2*y3+y2*x3)*(1-d*x2*x3*y2*y3)))*((1+d*x1*x2*y1*y2)*(1-d*x1*x2*y1*y2)+d*x3*y3*(x1*y2+y1*x2)*(y1*y2+x1*x2)):=by grind (ringSteps:=100000000)
set_option maxRecDepth 100000 in
theorem PT {α:Type} [Lean.Grind.CommRing α] (x1 y1 x2 y2 x3 y3 d:α) (h1:d*x1*x1*y1*y1=y1*y1-x1*x1-1) (h2:d*x2*x2*y2*y2=y2*y2-x2*x2-1) (h3:d*x3*x3*y3*y3=y3*y3-x3*x3-1) :
    (((y1*y2+x1*x2)*(1+d*x1*x2*y1*y2))*y3+((x1*y2+y1*x2)*(1-d*x1*x2*y1*y2))*x3)*((1+d*x2*x3*y2*y3)*(1-d*x2*x3*y2*y3)-d*x1*y1*(x2*y3+y2*x3)*(y2*y3+x2*x3))
     = (y1*((y2*y3+x2*x3)*(1+d*x2*x3*y2*y3))+x1*((x2*y3+y2*x3)*(1-d*x2*x3*y2*y3)))*((1+d*x1*x2*y1*y2)*(1-d*x1*x2*y1*y2)-d*x3*y3*(x1*y2+y1*x2)*(y1*y2+x1*x2)):=by grind (ringSteps:=100000000)
section
variable {α:Type} [Lean.Grind.CommRing α]
theorem ij (A B k u v d:α) (c:(B*(1+k)*(B*(1+k))-A*(1-k)*(A*(1-k)))*(((1-k)*(1+k))*((1-k)*(1+k)))=((1-k)*(1+k))*((1-k)*(1+k))*(((1-k)*(1+k))*((1-k)*(1+k)))+d*(A*(1-k)*(A*(1-k)))*(B*(1+k)*(B*(1+k))))
   (hu:(1+k)*u=1) (hv:(1-k)*v=1):B*v*(B*v)-A*u*(A*u)=1+d*(A*u*(A*u))*(B*v*(B*v)):=by
 have hs:((1-k)*(1+k))*(u*v)=1:=by grind
 have e1:B*v=B*(1+k)*(u*v):=by grind
 have e2:A*u=A*(1-k)*(u*v):=by grind
 have c2:=congrArg (fun t=>t*((u*v)*(u*v)*((u*v)*(u*v)))) c
 rw[e1,e2]
 generalize B*(1+k)=Y at *
 generalize A*(1-k)=X at *
 generalize (1-k)*(1+k)=Z at *
 generalize u*v=w at *
 clear e1 e2 hu hv c
 have hz:Z*Z*(w*w)=1:=by grind
 have l:(Y*Y-X*X)*(Z*Z)*(w*w*(w*w))=(Y*w*(Y*w)-X*w*(X*w))*(Z*Z*(w*w)):=by grind
 have r:(Z*Z*(Z*Z)+d*(X*X)*(Y*Y))*(w*w*(w*w))=Z*Z*(w*w)*(Z*Z*(w*w))+d*(X*w*(X*w))*(Y*w*(Y*w)):=by grind
 rw[l,r,hz] at c2
 grind
theorem iM (a b N1 M1 N2 M2:α) (h1:a*M1=N1) (h2:b*M2=N2) (h:N1*M2=N2*M1):(a-b)*(M1*M2)=0:=by grind
theorem PP (A B k u v x3 y3 d w:α) (hu:(1+k)*u=1) (hv:(1-k)*v=1) (hw:(1+d*(A*u)*x3*(B*v)*y3)*w=1):((A*u*y3+B*v*x3)*w)*((1+k)*(1-k)+d*x3*y3*A*B)=A*(1-k)*y3+B*(1+k)*x3:=by
 have hs:((1+k)*(1-k))*(u*v)=1:=by grind
 have e:(1+d*(A*u)*x3*(B*v)*y3)*((1+k)*(1-k))=(1+k)*(1-k)+d*x3*y3*A*B:=by grind
 have e2:(A*u*y3+B*v*x3)*((1+k)*(1-k))=A*(1-k)*y3+B*(1+k)*x3:=by grind
 rw[← e,← e2]
 generalize 1+d*(A*u)*x3*(B*v)*y3=g at *
 generalize A*u*y3+B*v*x3=n at *
 generalize (1+k)*(1-k)=z at *
 clear hu hv hs e e2
 grind
theorem Nq (A B k u v x3 y3 d w:α) (hu:(1+k)*u=1) (hv:(1-k)*v=1) (hw:(1-d*(A*u)*x3*(B*v)*y3)*w=1):((B*v*y3+A*u*x3)*w)*((1+k)*(1-k)-d*x3*y3*A*B)=B*(1+k)*y3+A*(1-k)*x3:=by
 have hs:((1+k)*(1-k))*(u*v)=1:=by grind
 have e:(1-d*(A*u)*x3*(B*v)*y3)*((1+k)*(1-k))=(1+k)*(1-k)-d*x3*y3*A*B:=by grind
 have e2:(B*v*y3+A*u*x3)*((1+k)*(1-k))=B*(1+k)*y3+A*(1-k)*x3:=by grind
 rw[← e,← e2]
 generalize 1-d*(A*u)*x3*(B*v)*y3=g at *
 generalize B*v*y3+A*u*x3=n at *
 generalize (1+k)*(1-k)=z at *
 clear hu hv hs e e2
 grind
theorem ci (x1 y1 x2 y2 d:α) (h1:y1*y1-x1*x1=1+d*(x1*x1)*(y1*y1)) (h2:y2*y2-x2*x2=1+d*(x2*x2)*(y2*y2)) :
    let k:=d*x1*x2*y1*y2;let A:=x1*y2+y1*x2;let B:=y1*y2+x1*x2
    (B*(1+k)*(B*(1+k))-A*(1-k)*(A*(1-k)))*(((1-k)*(1+k))*((1-k)*(1+k)))=((1-k)*(1+k))*((1-k)*(1+k))*(((1-k)*(1+k))*((1-k)*(1+k)))+d*(A*(1-k)*(A*(1-k)))*(B*(1+k)*(B*(1+k))):=by
 intro k A B
 have c:=Tp x1 y1 1 x2 y2 1 d (by simpa only [Lean.Grind.Semiring.one_mul,Lean.Grind.Semiring.mul_one] using h1) (by simpa only [Lean.Grind.Semiring.one_mul,Lean.Grind.Semiring.mul_one] using h2)
 have hk:d*((x1*x2)*(y1*y2))=k:=by clear c h1 h2;grind
 simp only[Lean.Grind.Semiring.one_mul,Lean.Grind.Semiring.mul_one,hk] at c
 exact c
theorem gr (x1 y1 x2 y2 d u v:α) (h1:y1*y1-x1*x1=1+d*(x1*x1)*(y1*y1)) (h2:y2*y2-x2*x2=1+d*(x2*x2)*(y2*y2)) (hu:(1+d*x1*x2*y1*y2)*u=1) (hv:(1-d*x1*x2*y1*y2)*v=1) :
    ((y1*y2+x1*x2)*v)*((y1*y2+x1*x2)*v)-((x1*y2+y1*x2)*u)*((x1*y2+y1*x2)*u)=1+d*(((x1*y2+y1*x2)*u)*((x1*y2+y1*x2)*u))*(((y1*y2+x1*x2)*v)*((y1*y2+x1*x2)*v)) :=
 ij _ _ _ u v d (ci x1 y1 x2 y2 d h1 h2) hu hv
theorem ND (A B k u v x3 y3 d w:α) (hu:(1+k)*u=1) (hv:(1-k)*v=1) (hw:(1+d*(A*u)*x3*(B*v)*y3)*w=1):((1+k)*(1-k)+d*x3*y3*A*B)*(w*(u*v))=1:=by
 have hs:((1+k)*(1-k))*(u*v)=1:=by grind
 have e:(1+d*(A*u)*x3*(B*v)*y3)*((1+k)*(1-k))=(1+k)*(1-k)+d*x3*y3*A*B:=by grind
 rw[← e]
 generalize 1+d*(A*u)*x3*(B*v)*y3=g at *
 generalize (1+k)*(1-k)=z at *
 generalize u*v=uv at *
 clear hu hv e
 grind
theorem L0 (A B k u v x3 y3 d w:α) (hu:(1+k)*u=1) (hv:(1-k)*v=1) (hw:(1-d*(A*u)*x3*(B*v)*y3)*w=1):((1+k)*(1-k)-d*x3*y3*A*B)*(w*(u*v))=1:=by
 have hs:((1+k)*(1-k))*(u*v)=1:=by grind
 have e:(1-d*(A*u)*x3*(B*v)*y3)*((1+k)*(1-k))=(1+k)*(1-k)-d*x3*y3*A*B:=by grind
 rw[← e]
 generalize 1-d*(A*u)*x3*(B*v)*y3=g at *
 generalize (1+k)*(1-k)=z at *
 generalize u*v=uv at *
 clear hu hv e
 grind
theorem TI (L R M1 M2 N1 N2 i1 i2:α) (h1:L*M1=N1) (h2:R*M2=N2) (h:N1*M2=N2*M1) (e1:M1*i1=1) (e2:M2*i2=1):L=R:=by
 have c:=iM L R N1 M1 N2 M2 h1 h2 h
 have c2:=congrArg (·*(i1*i2)) c
 have c3:(L-R)*(M1*M2)*(i1*i2)=(L-R)*((M1*i1)*(M2*i2)):=by grind
 have c4:(L-R)*(M1*M2)*(i1*i2)=0*(i1*i2):=c2
 rw[c3,e1,e2] at c4
 grind
theorem EV (x y d:α) (h:y*y-x*x=1+d*(x*x)*(y*y)):d*x*x*y*y=y*y-x*x-1:=by grind
theorem bK (x1 y1 x2 y2 x3 y3 d u v s t w z:α) (h1:y1*y1-x1*x1=1+d*(x1*x1)*(y1*y1)) (h2:y2*y2-x2*x2=1+d*(x2*x2)*(y2*y2)) (h3:y3*y3-x3*x3=1+d*(x3*x3)*(y3*y3))
    (hu:(1+d*x1*x2*y1*y2)*u=1) (hv:(1-d*x1*x2*y1*y2)*v=1) (hs:(1+d*x2*x3*y2*y3)*s=1) (ht:(1-d*x2*x3*y2*y3)*t=1)
    (hw:(1+d*((x1*y2+y1*x2)*u)*x3*((y1*y2+x1*x2)*v)*y3)*w=1) (hz:(1+d*x1*((x2*y3+y2*x3)*s)*y1*((y2*y3+x2*x3)*t))*z=1) :
    ((x1*y2+y1*x2)*u*y3+(y1*y2+x1*x2)*v*x3)*w=(x1*((y2*y3+x2*x3)*t)+y1*((x2*y3+y2*x3)*s))*z:=by
 have a:=Qv x1 y1 x2 y2 x3 y3 d (EV x1 y1 d h1) (EV x2 y2 d h2) (EV x3 y3 d h3)
 clear h1 h2 h3
 generalize d*x1*x2*y1*y2=k at *
 generalize d*x2*x3*y2*y3=l at *
 generalize x1*y2+y1*x2=A at *
 generalize y1*y2+x1*x2=B at *
 generalize x2*y3+y2*x3=C at *
 generalize y2*y3+x2*x3=D at *
 have hz':(1+d*(C*s)*x1*(D*t)*y1)*z=1:=by
  have:d*(C*s)*x1*(D*t)*y1=d*x1*(C*s)*y1*(D*t):=by clear hz hw a hu hv hs ht;grind
  rw[this]
  exact hz
 have p1:=PP A B k u v x3 y3 d w hu hv hw
 have q1:=ND A B k u v x3 y3 d w hu hv hw
 have p2:=PP C D l s t x1 y1 d z hs ht hz'
 have q2:=ND C D l s t x1 y1 d z hs ht hz'
 have e2:(C*s*y1+D*t*x1)*z=(x1*(D*t)+y1*(C*s))*z:=by clear p1 q1 p2 q2 hz' hz hw a hu hv hs ht;grind
 rw[e2] at p2
 refine TI _ _ _ _ _ _ _ _ p1 p2 ?_ q1 q2
 rw[a]
 have:x1*(D*(1+l))+y1*(C*(1-l))=C*(1-l)*y1+D*(1+l)*x1:=by clear p1 q1 p2 q2 hz' hz hw a hu hv hs ht e2;grind
 rw[this]
theorem ct (x1 y1 x2 y2 x3 y3 d u v s t w z:α) (h1:y1*y1-x1*x1=1+d*(x1*x1)*(y1*y1)) (h2:y2*y2-x2*x2=1+d*(x2*x2)*(y2*y2)) (h3:y3*y3-x3*x3=1+d*(x3*x3)*(y3*y3))
    (hu:(1+d*x1*x2*y1*y2)*u=1) (hv:(1-d*x1*x2*y1*y2)*v=1) (hs:(1+d*x2*x3*y2*y3)*s=1) (ht:(1-d*x2*x3*y2*y3)*t=1)
    (hw:(1-d*((x1*y2+y1*x2)*u)*x3*((y1*y2+x1*x2)*v)*y3)*w=1) (hz:(1-d*x1*((x2*y3+y2*x3)*s)*y1*((y2*y3+x2*x3)*t))*z=1) :
    ((y1*y2+x1*x2)*v*y3+(x1*y2+y1*x2)*u*x3)*w=(y1*((y2*y3+x2*x3)*t)+x1*((x2*y3+y2*x3)*s))*z:=by
 have a:=PT x1 y1 x2 y2 x3 y3 d (EV x1 y1 d h1) (EV x2 y2 d h2) (EV x3 y3 d h3)
 clear h1 h2 h3
 generalize d*x1*x2*y1*y2=k at *
 generalize d*x2*x3*y2*y3=l at *
 generalize x1*y2+y1*x2=A at *
 generalize y1*y2+x1*x2=B at *
 generalize x2*y3+y2*x3=C at *
 generalize y2*y3+x2*x3=D at *
 have hz':(1-d*(C*s)*x1*(D*t)*y1)*z=1:=by
  have:d*(C*s)*x1*(D*t)*y1=d*x1*(C*s)*y1*(D*t):=by clear hz hw a hu hv hs ht;grind
  rw[this]
  exact hz
 have p1:=Nq A B k u v x3 y3 d w hu hv hw
 have q1:=L0 A B k u v x3 y3 d w hu hv hw
 have p2:=Nq C D l s t x1 y1 d z hs ht hz'
 have q2:=L0 C D l s t x1 y1 d z hs ht hz'
 have e2:(D*t*y1+C*s*x1)*z=(y1*(D*t)+x1*(C*s))*z:=by clear p1 q1 p2 q2 hz' hz hw a hu hv hs ht;grind
 rw[e2] at p2
 refine TI _ _ _ _ _ _ _ _ p1 p2 ?_ q1 q2
 rw[a]
 have:y1*(D*(1+l))+x1*(C*(1-l))=D*(1+l)*y1+C*(1-l)*x1:=by clear p1 q1 p2 q2 hz' hz hw a hu hv hs ht e2;grind
 rw[this]
theorem iQ (d a b c e:α):d*a*b*c*e=d*b*a*e*c:=by grind
theorem gT (a b c e:α):a*b+c*e=e*c+b*a:=by grind
theorem g6 (a b c e:α):a*b+c*e=b*a+e*c:=by grind
end
-- the field
instance pnz:NeZero PN:=⟨Nat.ne_of_gt Au⟩
abbrev Fp:=Fin PN
def fz (n:Nat):Fp:=Fin.ofNat PN n
theorem DO (n:Nat):(fz n).val=n%PN:=rfl
theorem Cg (n:Nat):fz (n%PN)=fz n:=Fin.ext (by rw[DO,DO,Nat.mod_mod])
theorem H9 (a b:Nat):fz (a+b)=fz a+fz b:=Fin.ext (by rw[Fin.val_add,DO,DO,DO,← Nat.add_mod])
theorem CB (a b:Nat):fz (a*b)=fz a*fz b:=Fin.ext (by rw[Fin.val_mul,DO,DO,DO,← Nat.mul_mod])
theorem cr:fz 0=0:=rfl
theorem Hf:fz 1=1:=rfl
theorem iE:fz PN=0:=Fin.ext (by rw[DO,Nat.mod_self];rfl)
theorem Gq (a:Fp):fz a.val=a:=Fin.ext (by rw[DO,Nat.mod_eq_of_lt a.isLt])
theorem Tg {a b:Nat} (ha:a<PN) (hb:b<PN) (h:fz a=fz b):a=b:=by
 have e:=congrArg Fin.val h
 rwa [DO,DO,Nat.mod_eq_of_lt ha,Nat.mod_eq_of_lt hb] at e
theorem LW (a b:Nat) (hb:b≤PN):fz (a+PN-b)=fz a-fz b:=by
 have h:fz (a+PN-b)+fz b=fz a:=by
  rw[← H9,show a+PN-b+b=a+PN by omega,H9,iE]
  grind
 grind
theorem FD (a:Nat):fz a=0↔a%PN=0:=by
 constructor
 ·intro h
  exact congrArg Fin.val h
 ·intro h
  exact Fin.ext h
theorem O0 (a b:Fp) (h:a*b=0):a=0∨b=0:=by
 rw[← Gq a,← Gq b,← CB,FD] at h
 rcases Yq.2 _ _ (Nat.dvd_of_mod_eq_zero h) with h | h
 ·exact .inl (by rw[← Gq a,FD];exact Nat.mod_eq_zero_of_dvd h)
 ·exact .inr (by rw[← Gq b,FD];exact Nat.mod_eq_zero_of_dvd h)
theorem gO:(2:Fp)≠0:=fun h=>by
 have h1:fz 2=0:=h
 rw[FD] at h1
 revert h1
 decide +kernel
def dN:Nat:=37095705934669439343138083508754565189542113879843219016388785533085940283555
def iN:Nat:=19681161376707505956807079304988542015446066515923890162744021073123829784752
def hN:Nat:=28948022309329048855892746252171976963317496166410141009864396001978282409974
theorem U8:dN*121666%PN=(PN-121665)%PN∧dN<PN:=by decide +kernel
theorem iB:iN*iN%PN=PN-1:=by decide +kernel
theorem jp:2*hN=PN-1:=by decide +kernel
theorem YS (n f e b r:Nat) (he:e<2^f) (h:pm n f e b 1%n=r):b^e%n=r:=by
 have x:=PU n f e b 1 he
 rw[Nat.one_mul] at x
 rw[← x]
 exact h
theorem cA:dN^hN%PN=PN-1:=YS PN 256 hN dN (PN-1) (by decide +kernel) (by decide +kernel)
theorem X8:PN-1≠0∧PN-1≠1:=by decide +kernel
abbrev dF:Fp:=fz dN
abbrev iF:Fp:=fz iN
theorem ej:iF*iF = -1:=by
 have h:fz (iN*iN)=fz (PN-1):=by rw[← Cg,iB]
 have h2:fz (PN-1)+1=0:=by
  rw[← Hf,← H9,Nat.sub_add_cancel (Nat.le_of_lt (Nat.lt_of_lt_of_le (by decide) Jt)),iE]
 rw[CB] at h
 show iF*iF = -1
 grind
theorem eo (s t:Fp) (h:s*s=dF*(t*t)):t=0:=by
 have h1:s.val*s.val%PN=dN*(t.val*t.val)%PN:=by
  have e:fz (s.val*s.val)=fz (dN*(t.val*t.val)):=by
   rw[CB,CB,CB,Gq,Gq]
   exact h
  exact congrArg Fin.val e
 by_cases ht:t.val%PN=0
 ·rw[← Gq t,FD]
  exact ht
 ·exfalso
  have hp:∀ a:Nat,(a*a)^hN=a^(PN-1):=fun a=>by rw[← jp,Nat.pow_mul,Nat.pow_two]
  have h2:(s.val*s.val)^hN%PN=(dN*(t.val*t.val))^hN%PN:=by rw[Nat.pow_mod,h1,← Nat.pow_mod]
  rw[hp,Nat.mul_pow,hp,Nat.mul_mod,cA,K7 t.val ht,Nat.mul_one] at h2
  have h3:(PN-1)%PN=PN-1:=Nat.mod_eq_of_lt (Nat.sub_lt Au (by decide))
  rw[h3] at h2
  rcases aF s.val (PN-1) rfl (by have:=Jt;omega) with h4 | h4
  ·exact X8.1 (h2.symm.trans h4)
  ·exact X8.2 (h2.symm.trans h4)
def inv (a:Fp):Fp:=fz (a.val^(PN-2))
theorem OQ (a:Fp) (h:a≠0):a*inv a=1:=by
 have ha:a.val%PN≠0:=fun e=>h (by rw[← Gq a,FD];exact e)
 have h1:fz (a.val*a.val^(PN-2))=1:=by
  rw[← Nat.pow_succ',show (PN-2).succ=PN-1 by have:=Jt;omega,← Cg,K7 a.val ha]
  rfl
 rw[CB,Gq] at h1
 exact h1
theorem Gu (a b c:Fp) (hc:c≠0) (h:a*c=b*c):a=b:=by
 have h1:(a-b)*c=0:=by grind
 rcases O0 _ _ h1 with h2 | h2
 ·grind
 ·exact absurd h2 hc
def On (p:Fp × Fp):Prop:=p.2*p.2-p.1*p.1=1+dF*(p.1*p.1)*(p.2*p.2)
def kF (p q:Fp × Fp):Fp:=dF*p.1*q.1*p.2*q.2
def Bj (p q:Fp × Fp):Fp × Fp:=((p.1*q.2+p.2*q.1)*inv (1+kF p q),(p.2*q.2+p.1*q.1)*inv (1-kF p q))
theorem whole (p q:Fp × Fp) (hp:On p) (hq:On q):1+kF p q≠0∧1-kF p q≠0:=by
 have h:=VA p.1 p.2 q.1 q.2 dF iF ej gO eo hp hq
 constructor
 ·intro e
  exact h (by show (1+kF p q)*(1-kF p q)=0;rw[e];grind)
 ·intro e
  exact h (by show (1+kF p q)*(1-kF p q)=0;rw[e];grind)
theorem Ds (p q:Fp × Fp) (hp:On p) (hq:On q):∃ u v,(1+kF p q)*u=1∧(1-kF p q)*v=1∧Bj p q=((p.1*q.2+p.2*q.1)*u,(p.2*q.2+p.1*q.1)*v) :=
 ⟨_,_,OQ _ (whole p q hp hq).1,OQ _ (whole p q hp hq).2,rfl⟩
theorem Fw (p q:Fp × Fp) (hp:On p) (hq:On q):On (Bj p q):=by
 obtain⟨u,v,hu,hv,e⟩:=Ds p q hp hq
 rw[e]
 exact gr p.1 p.2 q.1 q.2 dF u v hp hq hu hv
theorem Da (p q:Fp × Fp):Bj p q=Bj q p:=by
 have e:kF p q=kF q p:=iQ dF p.1 q.1 p.2 q.2
 unfold Bj
 rw[e]
 exact Prod.ext (congrArg (·*_) (gT p.1 q.2 p.2 q.1)) (congrArg (·*_) (g6 p.2 q.2 p.1 q.1))
theorem Cz (p q r:Fp × Fp) (hp:On p) (hq:On q) (hr:On r):Bj (Bj p q) r=Bj p (Bj q r):=by
 obtain⟨u,v,hu,hv,e⟩:=Ds p q hp hq
 obtain⟨s,t,hs,ht,e2⟩:=Ds q r hq hr
 obtain⟨w1,w2,hw1,hw2,e3⟩:=Ds (Bj p q) r (Fw p q hp hq) hr
 obtain⟨z1,z2,hz1,hz2,e4⟩:=Ds p (Bj q r) hp (Fw q r hq hr)
 rw[e3,e4]
 rw[e] at hw1 hw2 ⊢
 rw[e2] at hz1 hz2 ⊢
 exact Prod.ext (bK p.1 p.2 q.1 q.2 r.1 r.2 dF u v s t w1 z1 hp hq hr hu hv hs ht hw1 hz1) (ct p.1 p.2 q.1 q.2 r.1 r.2 dF u v s t w2 z2 hp hq hr hu hv hs ht hw2 hz2)
def Ci:Fp × Fp:=(0,1)
def Kw (p:Fp × Fp):Fp × Fp:=(-p.1,p.2)
theorem FI:On Ci:=by unfold On Ci;simp only;grind
theorem JJ (p:Fp × Fp) (h:On p):On (Kw p):=by unfold On Kw at *;simp only;grind
section
variable {α:Type} [Lean.Grind.CommRing α]
theorem SH (x y d u v:α) (hu:(1+d*x*0*y*1)*u=1) (hv:(1-d*x*0*y*1)*v=1):(x*1+y*0)*u=x∧(y*1+x*0)*v=y:=by
 constructor <;> grind
theorem WE (x y d u v:α) (h:y*y-x*x=1+d*(x*x)*(y*y)) (hv:(1-d*x * -x*y*y)*v=1):(x*y+y * -x)*u=0∧(y*y+x * -x)*v=1:=by
 constructor <;> grind
end
theorem Dq (p:Fp × Fp) (hp:On p):Bj p Ci=p:=by
 obtain⟨u,v,hu,hv,e⟩:=Ds p Ci hp FI
 rw[e]
 have h:=SH p.1 p.2 dF u v hu hv
 exact Prod.ext h.1 h.2
theorem Y8 (p:Fp × Fp) (hp:On p):Bj p (Kw p)=Ci:=by
 obtain⟨u,v,hu,hv,e⟩:=Ds p (Kw p) hp (JJ p hp)
 rw[e]
 have h:=WE p.1 p.2 dF u v hp hv
 exact Prod.ext h.1 h.2
def AB:Nat→Fp × Fp→Fp × Fp
 | 0,_=>Ci
 | n+1,p=>Bj (AB n p) p
theorem Cc (p:Fp × Fp) (hp:On p):∀ n,On (AB n p)
 | 0=>FI
 | n+1=>Fw _ _ (Cc p hp n) hp
theorem DX (p:Fp × Fp) (hp:On p) (m:Nat):∀ n,AB (m+n) p=Bj (AB m p) (AB n p)
 | 0=>(Dq _ (Cc p hp m)).symm
 | n+1=>by
   show Bj (AB (m+n) p) p=Bj (AB m p) (Bj (AB n p) p)
   rw[DX p hp m n,Cz _ _ _ (Cc p hp m) (Cc p hp n) hp]
theorem IY:∀ n,AB n Ci=Ci
 | 0=>rfl
 | n+1=>by
   show Bj (AB n Ci) Ci=Ci
   rw[IY n,Dq _ FI]
theorem EW (p:Fp × Fp) (hp:On p) (m:Nat):∀ n,AB (n*m) p=AB n (AB m p)
 | 0=>by rw[Nat.zero_mul];rfl
 | n+1=>by
   rw[Nat.add_mul,Nat.one_mul,DX p hp,EW p hp m n]
   rfl
def Rep (X Y Z:Fp) (p:Fp × Fp):Prop:=Z≠0∧p.1*Z=X∧p.2*Z=Y
theorem Co {a b:Fp} (ha:a≠0) (hb:b≠0):a*b≠0:=fun h=>by
 rcases O0 _ _ h with h | h
 ·exact ha h
 ·exact hb h
section
variable {α:Type} [Lean.Grind.CommRing α]
theorem Wz (x1 y1 z1 x2 y2 z2 d u v:α) (hu:(1+d*x1*x2*y1*y2)*u=1) (hv:(1-d*x1*x2*y1*y2)*v=1) :
    let a:=z1*z2;let b:=a*a;let f:=d*((x1*z1*(x2*z2))*(y1*z1*(y2*z2)))
    b-f=b*(1-d*x1*x2*y1*y2)∧b+f=b*(1+d*x1*x2*y1*y2) ∧
    (x1*y2+y1*x2)*u*((b-f)*(b+f))=a*((x1*z1)*(y2*z2)+(y1*z1)*(x2*z2))*(b-f)∧(y1*y2+x1*x2)*v*((b-f)*(b+f))=a*((y1*z1)*(y2*z2)+(x1*z1)*(x2*z2))*(b+f):=by
 intro a b f
 have e1:b-f=b*(1-d*x1*x2*y1*y2):=by clear hu hv;grind
 have e2:b+f=b*(1+d*x1*x2*y1*y2):=by clear hu hv;grind
 refine⟨e1,e2,?_,?_⟩
 ·rw[e1,e2]
  generalize d*x1*x2*y1*y2=k at *
  have e3:a*((x1*z1)*(y2*z2)+(y1*z1)*(x2*z2))=(x1*y2+y1*x2)*b:=by clear hu hv e1 e2;grind
  rw[e3]
  generalize x1*y2+y1*x2=A at *
  generalize b=c at *
  clear e1 e2 e3
  grind
 ·rw[e1,e2]
  generalize d*x1*x2*y1*y2=k at *
  have e3:a*((y1*z1)*(y2*z2)+(x1*z1)*(x2*z2))=(y1*y2+x1*x2)*b:=by clear hu hv e1 e2;grind
  rw[e3]
  generalize y1*y2+x1*x2=A at *
  generalize b=c at *
  clear e1 e2 e3
  grind
end
theorem bL (X1 Y1 Z1 X2 Y2 Z2:Fp) (p q:Fp × Fp) (hp:On p) (hq:On q) (h1:Rep X1 Y1 Z1 p) (h2:Rep X2 Y2 Z2 q) :
    let a:=Z1*Z2;let b:=a*a;let f:=dF*((X1*X2)*(Y1*Y2));Rep (a*(X1*Y2+Y1*X2)*(b-f)) (a*(Y1*Y2+X1*X2)*(b+f)) ((b-f)*(b+f)) (Bj p q):=by
 intro a b f
 obtain⟨u,v,hu,hv,e⟩:=Ds p q hp hq
 obtain⟨n1,rfl,rfl⟩:=h1
 obtain⟨n2,rfl,rfl⟩:=h2
 obtain⟨w1,w2⟩:=whole p q hp hq
 obtain⟨r1,r2,r3,r4⟩:=Wz p.1 p.2 Z1 q.1 q.2 Z2 dF u v hu hv
 have hb:b≠0:=Co (Co n1 n2) (Co n1 n2)
 rw[e]
 refine⟨?_,r3,r4⟩
 have m1:b-f≠0:=by
  show b-dF*((p.1*Z1*(q.1*Z2))*(p.2*Z1*(q.2*Z2)))≠0
  rw[r1]
  exact Co hb w2
 have m2:b+f≠0:=by
  show b+dF*((p.1*Z1*(q.1*Z2))*(p.2*Z1*(q.2*Z2)))≠0
  rw[r2]
  exact Co hb w1
 exact Co m1 m2
open Go.RowKit
def cN:Nat:=20800338683988658368647408995589388737092878452977063003340006470870624536394
theorem Xu:121665*(121666^(PN-2)%PN)%PN=cN∧(0+PN-cN)%PN=dN∧cN<PN:=by
 rw[YS PN 256 (PN-2) 121666 37095705934669439343138083508754565189542113879843219016388785533085940283556 (by decide +kernel) (by decide +kernel)]
 decide +kernel
theorem MQ (w:World):Calls Tryz.prog 78 #[] w fun e w'=>e=.returned (Aa dN)∧Below w.heap.size w w':=by
 have K1:=Lh (fun w=>EZ 121665 w (by decide))
 have K2:=Lh (fun w=>EZ 121666 w (by decide))
 have K3:=Lh (fun w=>TH 121665 121666 w (by decide +kernel) (by decide +kernel))
 rw[Xu.1] at K3
 have K4:=Lh (fun w=>Ho cN w Xu.2.2)
 rw[Xu.2.1] at K4
 generalize cN=c at *
 generalize dN=R at *
 obtain⟨xr,xz,xB⟩:=IN 36 w
 obtain⟨m1,hm1⟩:∃ m:Nat,m=121665:=⟨_,rfl⟩
 obtain⟨m2,hm2⟩:∃ m:Nat,m=121666:=⟨_,rfl⟩
 rw[← hm1] at K1 K3
 rw[← hm2] at K2 K3
 have e1:((m1:Nat):Int)=121665:=by rw[hm1];rfl
 have e2:((m2:Nat):Int)=121666:=by rw[hm2];rfl
 rw[e1] at K1
 rw[e2] at K2
 clear hm1 hm2 e1 e2
 simp only[AL] at K1 K2 K3 K4 ⊢
 go_enter Tryz.func78,Tryz.ntmps78
 go_wp2_with fail
 change Calls _ _ _ (Z1 36 w) _
 generalize Z1 36 w=X at *
 refine (K1.out X).mono ?_
 rintro e w1 ⟨rfl,hb1⟩
 have B1:=Lh (xB.trans (hb1.mono xB.size))
 have X1:=Lh (xr.keep hb1)
 clear hb1 xr xB K1
 go_wp2_with fail
 refine (K2.out _).mono ?_
 rintro e w2 ⟨rfl,hb2⟩
 have B2:=Lh (B1.out.trans (hb2.mono B1.out.size))
 have X2:=Lh (X1.out.keep hb2)
 clear hb2 B1 X1 K2
 go_wp2_with fail
 refine (K3.out _).mono ?_
 rintro e w3 ⟨rfl,hb3⟩
 have B3:=Lh (B2.out.trans (hb3.mono B2.out.size))
 have X3:=Lh (X2.out.keep hb3)
 clear hb3 B2 X2 K3
 go_wp2_with fail
 refine (K4.out _).mono ?_
 rintro e w4 ⟨rfl,hb4⟩
 have xr:=AT (X3.out.keep hb4)
 obtain⟨⟨d0,d1,d2,d3⟩,e0,e1,e2,e3⟩:=Aq xr
 have KL:=Lh (Cm (AN (n:=R) xr))
 have BR:=Lh (Bg (v0:=.int .u64 (wd R 0:Int)) (v1:=.int .u64 (wd R 1:Int)) (v2:=.int .u64 (wd R 2:Int)) (v3:=.int .u64 (wd R 3:Int)) (B3.out.trans (hb4.mono B3.out.size)) (b:=w.heap.size) (Nat.le_refl _))
 clear hb4 B3 X3 K4 xr
 go_wp2_with fail
 exact bodyPost_ret (Ap Tryz.results78 (by rfl) KL.out) rfl ⟨rfl,BR.out⟩
def ptL (X Y Z T:Nat):List Value:=[.int .u64 (wd X 0:Int),.int .u64 (wd X 1:Int),.int .u64 (wd X 2:Int),.int .u64 (wd X 3:Int),.int .u64 (wd Y 0:Int),.int .u64 (wd Y 1:Int),.int .u64 (wd Y 2:Int),.int .u64 (wd Y 3:Int),.int .u64 (wd Z 0:Int),.int .u64 (wd Z 1:Int),.int .u64 (wd Z 2:Int),.int .u64 (wd Z 3:Int),.int .u64 (wd T 0:Int),.int .u64 (wd T 1:Int),.int .u64 (wd T 2:Int),.int .u64 (wd T 3:Int)]
def ptV (X Y Z T:Nat):Value:=.agg (ptL X Y Z T).toArray
def A5 (e f g h:Nat) (w:World):World:=((((w.alloc (.cells #[.int .u64 (wd e 0:Int),.int .u64 (wd e 1:Int),.int .u64 (wd e 2:Int),.int .u64 (wd e 3:Int)] 36)).alloc (.cells #[.int .u64 (wd f 0:Int),.int .u64 (wd f 1:Int),.int .u64 (wd f 2:Int),.int .u64 (wd f 3:Int)] 36)).alloc (.cells #[.int .u64 (wd g 0:Int),.int .u64 (wd g 1:Int),.int .u64 (wd g 2:Int),.int .u64 (wd g 3:Int)] 36)).alloc (.cells #[.int .u64 (wd h 0:Int),.int .u64 (wd h 1:Int),.int .u64 (wd h 2:Int),.int .u64 (wd h 3:Int)] 36)).alloc (.cells #[.int .u64 0,.int .u64 0,.int .u64 0,.int .u64 0,.int .u64 0,.int .u64 0,.int .u64 0,.int .u64 0,.int .u64 0,.int .u64 0,.int .u64 0,.int .u64 0,.int .u64 0,.int .u64 0,.int .u64 0,.int .u64 0] 39)
theorem iy (e f g h:Nat) (w:World):IsA (A5 e f g h w) w.heap.size e 36∧IsA (A5 e f g h w) (w.heap.size+1) f 36∧IsA (A5 e f g h w) (w.heap.size+1+1) g 36∧IsA (A5 e f g h w) (w.heap.size+1+1+1) h 36 ∧
    (A5 e f g h w).heap[w.heap.size+1+1+1+1]?=some (.cells #[.int .u64 0,.int .u64 0,.int .u64 0,.int .u64 0,.int .u64 0,.int .u64 0,.int .u64 0,.int .u64 0,.int .u64 0,.int .u64 0,.int .u64 0,.int .u64 0,.int .u64 0,.int .u64 0,.int .u64 0,.int .u64 0] 39 (0,0))∧Below w.heap.size w (A5 e f g h w):=by
 have s:∀ (W:World) (o:Obj),(W.alloc o).heap.size=W.heap.size+1:=fun W o=>by simp
 unfold A5
 refine⟨((((GY w e _).alloc _).alloc _).alloc _).alloc _,?_,?_,?_,?_,Al (Al (Al (Al (Al (Below.refl _ _) _) _) _) _) _⟩
 ·have x:=(((GY (w.alloc (.cells #[.int .u64 (wd e 0:Int),.int .u64 (wd e 1:Int),.int .u64 (wd e 2:Int),.int .u64 (wd e 3:Int)] 36)) f 36).alloc (.cells #[.int .u64 (wd g 0:Int),.int .u64 (wd g 1:Int),.int .u64 (wd g 2:Int),.int .u64 (wd g 3:Int)] 36)).alloc (.cells #[.int .u64 (wd h 0:Int),.int .u64 (wd h 1:Int),.int .u64 (wd h 2:Int),.int .u64 (wd h 3:Int)] 36)).alloc (.cells #[.int .u64 0,.int .u64 0,.int .u64 0,.int .u64 0,.int .u64 0,.int .u64 0,.int .u64 0,.int .u64 0,.int .u64 0,.int .u64 0,.int .u64 0,.int .u64 0,.int .u64 0,.int .u64 0,.int .u64 0,.int .u64 0] 39)
  rwa [s] at x
 ·have x:=((GY ((w.alloc (.cells #[.int .u64 (wd e 0:Int),.int .u64 (wd e 1:Int),.int .u64 (wd e 2:Int),.int .u64 (wd e 3:Int)] 36)).alloc (.cells #[.int .u64 (wd f 0:Int),.int .u64 (wd f 1:Int),.int .u64 (wd f 2:Int),.int .u64 (wd f 3:Int)] 36)) g 36).alloc (.cells #[.int .u64 (wd h 0:Int),.int .u64 (wd h 1:Int),.int .u64 (wd h 2:Int),.int .u64 (wd h 3:Int)] 36)).alloc (.cells #[.int .u64 0,.int .u64 0,.int .u64 0,.int .u64 0,.int .u64 0,.int .u64 0,.int .u64 0,.int .u64 0,.int .u64 0,.int .u64 0,.int .u64 0,.int .u64 0,.int .u64 0,.int .u64 0,.int .u64 0,.int .u64 0] 39)
  rwa [s,s] at x
 ·have x:=(GY (((w.alloc (.cells #[.int .u64 (wd e 0:Int),.int .u64 (wd e 1:Int),.int .u64 (wd e 2:Int),.int .u64 (wd e 3:Int)] 36)).alloc (.cells #[.int .u64 (wd f 0:Int),.int .u64 (wd f 1:Int),.int .u64 (wd f 2:Int),.int .u64 (wd f 3:Int)] 36)).alloc (.cells #[.int .u64 (wd g 0:Int),.int .u64 (wd g 1:Int),.int .u64 (wd g 2:Int),.int .u64 (wd g 3:Int)] 36)) h 36).alloc (.cells #[.int .u64 0,.int .u64 0,.int .u64 0,.int .u64 0,.int .u64 0,.int .u64 0,.int .u64 0,.int .u64 0,.int .u64 0,.int .u64 0,.int .u64 0,.int .u64 0,.int .u64 0,.int .u64 0,.int .u64 0,.int .u64 0] 39)
  rwa [s,s,s] at x
 ·have x:=Aj ((((w.alloc (.cells #[.int .u64 (wd e 0:Int),.int .u64 (wd e 1:Int),.int .u64 (wd e 2:Int),.int .u64 (wd e 3:Int)] 36)).alloc (.cells #[.int .u64 (wd f 0:Int),.int .u64 (wd f 1:Int),.int .u64 (wd f 2:Int),.int .u64 (wd f 3:Int)] 36)).alloc (.cells #[.int .u64 (wd g 0:Int),.int .u64 (wd g 1:Int),.int .u64 (wd g 2:Int),.int .u64 (wd g 3:Int)] 36)).alloc (.cells #[.int .u64 (wd h 0:Int),.int .u64 (wd h 1:Int),.int .u64 (wd h 2:Int),.int .u64 (wd h 3:Int)] 36)) (.cells #[.int .u64 0,.int .u64 0,.int .u64 0,.int .u64 0,.int .u64 0,.int .u64 0,.int .u64 0,.int .u64 0,.int .u64 0,.int .u64 0,.int .u64 0,.int .u64 0,.int .u64 0,.int .u64 0,.int .u64 0,.int .u64 0] 39)
  rwa [s,s,s,s] at x
theorem Rv (e f g h:Nat) (w:World) (he:e<PN) (hf:f<PN) (hg:g<PN) (hh:h<PN):Calls Tryz.prog 195 #[Aa e,Aa f,Aa g,Aa h] w fun E w'=>E=.returned (ptV (e*f%PN) (g*h%PN) (f*g%PN) (e*h%PN))∧Below w.heap.size w w':=by
 have HMIX:=Lh (show Tryz.prog.follows .mixedOrders=true by kernel_rfl)
 have K1:=Lh (mul_two e f he hf)
 have K2:=Lh (mul_two g h hg hh)
 have K3:=Lh (mul_two f g hf hg)
 have K4:=Lh (mul_two e h he hh)
 generalize e*f%PN=X at *
 generalize g*h%PN=Y at *
 generalize f*g%PN=Z at *
 generalize e*h%PN=T at *
 simp only[AL] at K1 K2 K3 K4 ⊢
 clear he hf hg hh
 go_enter Tryz.func195,Tryz.ntmps195
 go_wp2_with fail
 change Code.wp _ _ _ _ (A5 e f g h w)
 obtain⟨xe,xf,xg,xh,xr,xB⟩:=iy e f g h w
 generalize A5 e f g h w=V0 at *
 obtain⟨⟨q0,q1,q2,q3⟩,_⟩:=Aq xe
 obtain⟨⟨q4,q5,q6,q7⟩,_⟩:=Aq xf
 obtain⟨⟨q8,q9,q10,q11⟩,_⟩:=Aq xg
 obtain⟨⟨q12,q13,q14,q15⟩,_⟩:=Aq xh
 have d0:=fun d os=>cell_regrown q0 d os
 have d1:=fun d os=>cell_regrown q1 d os
 have d2:=fun d os=>cell_regrown q2 d os
 have d3:=fun d os=>cell_regrown q3 d os
 have d4:=fun d os=>cell_regrown q4 d os
 have d5:=fun d os=>cell_regrown q5 d os
 have d6:=fun d os=>cell_regrown q6 d os
 have d7:=fun d os=>cell_regrown q7 d os
 have d8:=fun d os=>cell_regrown q8 d os
 have d9:=fun d os=>cell_regrown q9 d os
 have d10:=fun d os=>cell_regrown q10 d os
 have d11:=fun d os=>cell_regrown q11 d os
 have d12:=fun d os=>cell_regrown q12 d os
 have d13:=fun d os=>cell_regrown q13 d os
 have d14:=fun d os=>cell_regrown q14 d os
 have d15:=fun d os=>cell_regrown q15 d os
 have XR:=Lh xr
 have XB:=Lh xB
 clear xe xf xg xh xr xB q0 q1 q2 q3 q4 q5 q6 q7 q8 q9 q10 q11 q12 q13 q14 q15
 refine Ak 18 HMIX.out (by decide) (by kernel_rfl) (by kernel_rfl) ?_
 repeat (first
  | (refine AZ (by rfl) (by rfl) ?_;simp only[nmA])
  | (refine Bp (v:=?_) (by rfl) (by rfl) (fun d os=>?_) ?_;rotate_left;(focus (go_simp;(try with_reducible rfl);done));simp only[nmA]))
 refine GP (fun b=>.slice (some ⟨b,0,none⟩) 2 2) (.cells #[.int .u64 (wd e 0:Int),.int .u64 (wd e 1:Int),.int .u64 (wd e 2:Int),.int .u64 (wd e 3:Int),.int .u64 (wd f 0:Int),.int .u64 (wd f 1:Int),.int .u64 (wd f 2:Int),.int .u64 (wd f 3:Int)] 36 (0,0)) (by rfl) (by rfl) (fun d os=>?_) ?_;(focus (go_simp;done));simp only[List.nil_append,List.cons_append]
 repeat (first
  | (refine AZ (by rfl) (by rfl) ?_;simp only[nmA])
  | (refine Bp (v:=?_) (by rfl) (by rfl) (fun d os=>?_) ?_;rotate_left;(focus (go_simp;(try with_reducible rfl);done));simp only[nmA]))
 refine DQ (v:=_) (f:=76) (args:=fun b=>#[.slice (some ⟨b,0,none⟩) 2 2]) (by rfl) (by rfl) (fun b=>by rfl) (fun b d os=>by (simp only[nmA];go_simp;done)) K1.out ?_;simp only[nmA]
 repeat (first
  | (refine AZ (by rfl) (by rfl) ?_;simp only[nmA])
  | (refine Bp (v:=?_) (by rfl) (by rfl) (fun d os=>?_) ?_;rotate_left;(focus (go_simp;(try with_reducible rfl);done));simp only[nmA]))
 refine GP (fun b=>.slice (some ⟨b,0,none⟩) 2 2) (.cells #[.int .u64 (wd g 0:Int),.int .u64 (wd g 1:Int),.int .u64 (wd g 2:Int),.int .u64 (wd g 3:Int),.int .u64 (wd h 0:Int),.int .u64 (wd h 1:Int),.int .u64 (wd h 2:Int),.int .u64 (wd h 3:Int)] 36 (0,0)) (by rfl) (by rfl) (fun d os=>?_) ?_;(focus (go_simp;done));simp only[List.nil_append,List.cons_append]
 repeat (first
  | (refine AZ (by rfl) (by rfl) ?_;simp only[nmA])
  | (refine Bp (v:=?_) (by rfl) (by rfl) (fun d os=>?_) ?_;rotate_left;(focus (go_simp;(try with_reducible rfl);done));simp only[nmA]))
 refine DQ (v:=_) (f:=76) (args:=fun b=>#[.slice (some ⟨b,0,none⟩) 2 2]) (by rfl) (by rfl) (fun b=>by rfl) (fun b d os=>by (simp only[nmA];go_simp;done)) K2.out ?_;simp only[nmA]
 repeat (first
  | (refine AZ (by rfl) (by rfl) ?_;simp only[nmA])
  | (refine Bp (v:=?_) (by rfl) (by rfl) (fun d os=>?_) ?_;rotate_left;(focus (go_simp;(try with_reducible rfl);done));simp only[nmA]))
 refine GP (fun b=>.slice (some ⟨b,0,none⟩) 2 2) (.cells #[.int .u64 (wd f 0:Int),.int .u64 (wd f 1:Int),.int .u64 (wd f 2:Int),.int .u64 (wd f 3:Int),.int .u64 (wd g 0:Int),.int .u64 (wd g 1:Int),.int .u64 (wd g 2:Int),.int .u64 (wd g 3:Int)] 36 (0,0)) (by rfl) (by rfl) (fun d os=>?_) ?_;(focus (go_simp;done));simp only[List.nil_append,List.cons_append]
 repeat (first
  | (refine AZ (by rfl) (by rfl) ?_;simp only[nmA])
  | (refine Bp (v:=?_) (by rfl) (by rfl) (fun d os=>?_) ?_;rotate_left;(focus (go_simp;(try with_reducible rfl);done));simp only[nmA]))
 refine DQ (v:=_) (f:=76) (args:=fun b=>#[.slice (some ⟨b,0,none⟩) 2 2]) (by rfl) (by rfl) (fun b=>by rfl) (fun b d os=>by (simp only[nmA];go_simp;done)) K3.out ?_;simp only[nmA]
 repeat (first
  | (refine AZ (by rfl) (by rfl) ?_;simp only[nmA])
  | (refine Bp (v:=?_) (by rfl) (by rfl) (fun d os=>?_) ?_;rotate_left;(focus (go_simp;(try with_reducible rfl);done));simp only[nmA]))
 refine GP (fun b=>.slice (some ⟨b,0,none⟩) 2 2) (.cells #[.int .u64 (wd e 0:Int),.int .u64 (wd e 1:Int),.int .u64 (wd e 2:Int),.int .u64 (wd e 3:Int),.int .u64 (wd h 0:Int),.int .u64 (wd h 1:Int),.int .u64 (wd h 2:Int),.int .u64 (wd h 3:Int)] 36 (0,0)) (by rfl) (by rfl) (fun d os=>?_) ?_;(focus (go_simp;done));simp only[List.nil_append,List.cons_append]
 repeat (first
  | (refine AZ (by rfl) (by rfl) ?_;simp only[nmA])
  | (refine Bp (v:=?_) (by rfl) (by rfl) (fun d os=>?_) ?_;rotate_left;(focus (go_simp;(try with_reducible rfl);done));simp only[nmA]))
 refine DQ (v:=_) (f:=76) (args:=fun b=>#[.slice (some ⟨b,0,none⟩) 2 2]) (by rfl) (by rfl) (fun b=>by rfl) (fun b d os=>by (simp only[nmA];go_simp;done)) K4.out ?_;simp only[nmA]
 repeat (first
  | (refine AZ (by rfl) (by rfl) ?_;simp only[nmA])
  | (refine Bp (v:=?_) (by rfl) (by rfl) (fun d os=>?_) ?_;rotate_left;(focus (go_simp;(try with_reducible rfl);done));simp only[nmA]))
 refine Z5 (t1:=11) (t2:=15) (t3:=19) (t4:=23) (by rfl) (by rfl) (by rfl) (by rfl) (fun n1 n2 n3 n4 d os=>?_)
 have BW:=below_regrown V0 d os
 have xr:=(BW.block _ (Array.getElem?_eq_some_iff.1 XR.out).1).trans XR.out
 have xB:=XB.out.trans (BW.mono XB.out.size)
 generalize grow (redrawn V0 d) os=V at xr xB ⊢
 clear BW XR XB d0 d1 d2 d3 d4 d5 d6 d7 d8 d9 d10 d11 d12 d13 d14 d15 K1 K2 K3 K4
 simp only[nmA]
 have G:=Lh (setRow_heap V (w.heap.size+1+1+1+1) _ (ptL X Y Z T).toArray _ _ xr)
 have GB:=Lh (below_setRow xB (by omega:w.heap.size≤w.heap.size+1+1+1+1) (ptL X Y Z T).toArray)
 change wpAny _ _ _ _ 1 _ _ _
 refine Ej (i:=18) (by kernel_rfl) rfl (fun K hK=>?_)
 rw[if_pos (by rfl)]
 refine wp_store_row 39 (.tmp 8) (.tmp 26) rfl (w.heap.size+1+1+1+1) (ptL X Y Z T).toArray (by simp[Act.eval]) (by simp[Act.eval,ptL]) 39 _ xr (by kernel_rfl) (by rfl) (by simp[ptL,Value.oneCell']) ?_
 simp only[Act.put]
 refine hK _ _ ?_
 clear hK K xr xB
 generalize V.setRow (w.heap.size+1+1+1+1) (ptL X Y Z T).toArray=Y9 at *
 refine wpAny_done (by kernel_rfl) ?_ _
 iterate 4 go_step
 have kl:=run_loadVar_row (P:=Tryz.prog) Y9 (w.heap.size+1+1+1+1) 39 39 _ (0,0) _ G.out Tryz.underlying39 rfl (by kernel_rfl)
 exact bodyPost_ret (v:=ptV X Y Z T) (Ap Tryz.results195 (by rfl) kl) rfl ⟨rfl,GB.out⟩
def Ta (P:Program) (o:Oper):Prop:=∀ (B:Act) (W:World),(∃ v,∀ W',(execOp B.eval o).run P W'=.ok (.value v) W')∨∃ x,(execOp B.eval o).run P W=.halt x W
theorem Id {P:Program} {o:Oper} {x:Operand} {i:Nat} (ho:o.op=.extract x i):Ta P o:=fun B W=>by
 unfold execOp
 simp only[ho,Instr.extract]
 cases B.eval x with
 | tuple vs =>
   cases h:vs[i]? with
   | some v=>exact .inl ⟨v,fun W'=>by simp[h,Sem.run_bind,Sem.run_pure]⟩
   | none=>exact .inr ⟨_,by simp[h,Sem.run_bind,stuck];rfl⟩
 | _=>exact .inr ⟨_,by simp[Sem.run_bind,stuck];rfl⟩
def YK (ops:Array Oper) (n e:Nat):Bool:=(List.range ops.size).all fun i=>decide (i<n) || match ops[i]? with
 | none=>true
 | some o=>(List.range n).all fun j=>j == e || (upto ops 5 (BX o)).contains j
theorem Ok {P:Program} {ops:Array Oper} {Q0:Exit→Act→World→Prop} {e:Nat} {oe:Oper} (hoe:ops[e]?=some oe) (hge:oe.guard=none) (hse:Ta P oe) {n:Nat} (hfe:Region.free .any ops (Ep ops n) e=true) {a:Act} {w0:World} {Ts:List TkW} (hen:e<n) (hB:I5 ops a.tmps.size=true) (hn:n≤ops.size) (htl:YK ops n e=true) (hst:∀ T ∈ Ts,T.Stable)
    (hob:∀ i o,i<n→ops[i]?=some o→∃ T A Ps ns,Ts[i]?=some T∧AccW ops a Ts i A Ps ns∧(∀ p,T=.pr p true→Jq P o)∧∀ d os,Ct ops (grow (redrawn w0 d) os) (Ps.filter (BZ ops o)) A (CC P ops o T.tk (grow (redrawn w0 d) os)))
    (hend:∃ A Ps ns,AccW ops a Ts n A Ps ns∧∀ d os,Ct ops (grow (redrawn w0 d) os) Ps A (fun A=>Ko ops ns A→wpAny P .any ops (NoPanic Q0) (ops.size-n) (Ep ops n) A (grow (redrawn w0 d) os))) :
    ∀ (fuel:Nat) (listed:Array Bool) (B:Act) (w:World),InwAt ops Ts n a w0 listed B w→listed.toList.count false=fuel→wpAny P .any ops (NoPanic Q0) fuel listed B w:=by
 have hB':=hB
 simp only[I5,Bool.and_eq_true,List.all_eq_true,List.mem_range] at hB'
 obtain⟨hsel,hops⟩:=hB'
 have hform:∀ i o,ops[i]?=some o→(∀ j ∈ BX o,j<i)∧(∀ d,o.dst=some d→d<a.tmps.size) ∧
     (∀ t ∈ o.looksAt ops,(∃ j ∈ BX o,AW ops j=some t)∨∀ j<ops.size,AW ops j≠some t):=fun i o ho=>by
  have h:=hops i (Array.getElem?_eq_some_iff.1 ho).1
  simp only[ho,Bool.and_eq_true,List.all_eq_true,decide_eq_true_eq] at h
  refine⟨h.1.1,fun d hd=>?_,fun t ht=>?_⟩
  ·have h2:=h.1.2
   rw[hd] at h2
   simp only[Bool.and_eq_true,decide_eq_true_eq] at h2
   exact h2.1
  ·have h3:=h.2 t ht
   simp only[Bool.or_eq_true,List.any_eq_true,List.all_eq_true,List.mem_range,beq_iff_eq,bne_iff_ne,ne_eq] at h3
   exact h3
 have htail:∀ i o,n≤i→ops[i]?=some o→∀ j<n,j≠e→j ∈ upto ops 5 (BX o):=fun i o hi ho j hj hje=>by
  simp only[YK,List.all_eq_true,List.mem_range,Bool.or_eq_true,decide_eq_true_eq] at htl
  rcases htl i (Array.getElem?_eq_some_iff.1 ho).1 with h | h
  ·omega
  ·simp only[ho,List.all_eq_true,List.mem_range,Bool.or_eq_true,beq_iff_eq] at h
   rcases h j hj with h | h
   ·exact absurd h hje
   ·simpa using h
 -- all of the first n have come up
 have hfin:∀ listed B w,InwAt ops Ts n a w0 listed B w→(∀ i<n,listed[i]?=some true)→wpAny P .any ops (NoPanic Q0) (listed.toList.count false) listed B w:=fun listed B w hI hall=>by
  have hlist:listed=Ep ops n:=by
   apply Array.ext_getElem?
   intro k
   unfold Ep
   show listed[k]?=(List.replicate n true++List.replicate (ops.size-n) false).toArray[k]?
   rw[show (List.replicate n true++List.replicate (ops.size-n) false).toArray[k]?=(List.replicate n true++List.replicate (ops.size-n) false)[k]? by simp only[List.getElem?_toArray]]
   by_cases hk:k<n
   ·rw[hall k hk,List.getElem?_append_left (by simpa using hk),List.getElem?_replicate,if_pos hk]
   ·rw[List.getElem?_append_right (by simpa using (by omega:n≤k)),List.length_replicate,List.getElem?_replicate]
    by_cases hk2:k<ops.size
    ·rw[if_pos (by omega)]
     have hkl:k<listed.size:=by rw[hI.len];exact hk2
     rw[Array.getElem?_eq_getElem hkl]
     cases hb:listed[k] with
     | false=>rfl
     | true =>
       have:=hI.head k (by rw[Array.getElem?_eq_getElem hkl,hb])
       omega
    ·rw[if_neg (by omega),Array.getElem?_eq_none (by rw[hI.len];omega)]
  have hcnt:(Ep ops n).toList.count false=ops.size-n:=by
   unfold Ep
   simp[List.count_append,List.count_replicate]
  obtain⟨⟨d,os⟩,rfl⟩:=regrown_of_below hI.below
  obtain⟨A,Ps,ns,hA,hE⟩:=hend
  have hs:EU (fun t=>B.tmps[t]?=A.tmps[t]?) A B:=fun t ht=>ht
  obtain⟨A',hk,hS,hD,hZ⟩:=E9 _ A _ _ hs (by rw[hA.size,hI.size]) (hE d os) (fun q hq=>by
   obtain⟨hlt,f,hT⟩:=hA.back q hq
   obtain⟨T,u,hT',hu,hd⟩:=hI.known q.1 (hall q.1 hlt)
   rw[hT] at hT'
   obtain rfl:=Option.some.inj hT'
   exact⟨u,hu,hd⟩)
  have hAB:A'=B:=by
   obtain⟨t1,d1⟩:=A'
   obtain⟨t2,d2⟩:=B
   have e1:d1=d2:=by rw[show d1=A.defers from hD,hA.defers,show d2=a.defers from hI.defers]
   have e2:t1=t2:=Array.ext_getElem? fun t=>by
    refine (hS t ?_).symm
    by_cases h:∃ j,j<n∧AW ops j=some t
    ·obtain⟨j,hj,hd⟩:=h
     obtain⟨T,u,hT,hu,hdu⟩:=hI.known j (hall j hj)
     cases T with
     | val v =>
       refine .inl ?_
       rw[hdu t hd,hA.vals j hj v t hT hd,show u=v from hu]
     | pr p f=>exact .inr ⟨(j,p),hA.prs j hj p f hT,hd⟩
    ·refine .inl ?_
     rw[hI.out t (fun j hj hd=>h ⟨j,hI.head j hj,hd⟩),hA.out t (fun j hj hd=>h ⟨j,hj,hd⟩)]
   rw[e1,e2]
  rw[hAB] at hk
  have h2:=hk (fun i hi j hj hij d d' b b' hd hd' hb hb'=>by
   obtain⟨hi1,p,hp⟩:=hA.news i hi
   obtain⟨hj1,p',hp'⟩:=hA.news j hj
   exact hI.apart i j hij (hall i hi1) (hall j hj1) p p' hp hp' d d' b b' hd hd' hb hb')
  rw[hlist,hcnt]
  exact h2
 have hstuck:∀ listed B w,InwAt ops Ts n a w0 listed B w→Region.ready .any ops listed=[]→∀ i<n,listed[i]?=some true:=fun listed B w hI hr=>by
  intro i
  induction i using Nat.strongRecOn with
  | ind i ih =>
    intro hi
    have hio:i<ops.size:=by omega
    have hli:i<listed.size:=by rw[hI.len];exact hio
    cases hb:listed[i]? with
    | none=>rw[Array.getElem?_eq_none_iff] at hb;omega
    | some b =>
      cases b with
      | true=>rfl
      | false =>
        exfalso
        have ho:ops[i]?=some ops[i]:=Array.getElem?_eq_getElem hio
        have:i ∈ Region.ready .any ops listed:=mem_ready.2 ⟨by rw[Array.getD_eq_getD_getElem?,hb];rfl,ops[i],ho,fun e he hbi=>by
         have hd:e.on ∈ BX ops[i]:=by
          unfold BX
          exact List.mem_map.2 ⟨e,List.mem_filter.2 ⟨Array.mem_toList_iff.2 he,hbi⟩,rfl⟩
         have hlt:=(hform i _ ho).1 _ hd
         exact Cp.2 (ih e.on hlt (by omega))⟩
        rw[hr] at this
        cases this
 intro fuel
 induction fuel with
 | zero =>
   intro listed B w hI hc
   have hall:∀ i<n,listed[i]?=some true:=fun i hi=>by
    have h0:=GR listed.toList (by omega) i
    rw[Array.getElem?_toList] at h0
    have hli:i<listed.size:=by rw[hI.len];omega
    rw[Array.getElem?_eq_getElem hli] at h0 ⊢
    cases hb:listed[i] with
    | true=>rfl
    | false=>rw[hb] at h0;exact absurd rfl h0
   have:=hfin listed B w hI hall
   rwa [hc] at this
 | succ fuel ih =>
   intro listed B w hI hc
   by_cases hall:∀ i<n,listed[i]?=some true
   ·have:=hfin listed B w hI hall
    rwa [hc] at this
   have hmain:∀ i o,i ∈ Region.ready .any ops listed→ops[i]?=some o→i<n→∃ T A',CC P ops o T w A'∧EU (fun t=>t ∈ o.looksAt ops) A' B∧(∀ v w',T.holds v w'→Below w.heap.size w w'→(Jq P o→∀ b,v=.pointer (some ⟨b,0,none⟩)→b=w.heap.size)→wpAny P .any ops (NoPanic Q0) fuel (listed.setIfInBounds i true) (B.put o.dst v) w'):=by
    intro i o hi ho hin
    obtain⟨h0,o',ho',hup⟩:=mem_ready.1 hi
    obtain rfl:o'=o:=by rw[ho] at ho';exact (Option.some.inj ho').symm
    have hdone:∀ j ∈ BX o',listed[j]?=some true:=fun j hj=>by
     unfold BX at hj
     obtain⟨e,he,rfl⟩:=List.mem_map.1 hj
     obtain⟨he1,he2⟩:=List.mem_filter.1 he
     exact Cp.1 (hup e (Array.mem_toList_iff.1 he1) he2)
    obtain⟨hdep,hdst,hlook⟩:=hform i o' ho
    obtain⟨T,A,Ps,ns,hT,hA,hFr,hOb⟩:=hob i o' hin ho
    have h0':=Fx.1 h0
    have hifree:listed[i]?=some false:=by rw[Array.getElem?_toList] at h0';exact h0'
    have hli:i<listed.size:=(Array.getElem?_eq_some_iff.1 hifree).1
    obtain⟨⟨d,os⟩,rfl⟩:=regrown_of_below hI.below
    have hs:EU (fun t=>B.tmps[t]?=A.tmps[t]?) A B:=fun t ht=>ht
    obtain⟨A',hk,hS,hD,hZ⟩:=E9 _ A _ _ hs (by rw[hA.size,hI.size]) (hOb d os) (fun q hq=>by
     obtain⟨hq1,hq2⟩:=List.mem_filter.1 hq
     obtain⟨T',u,hT',hu,hd'⟩:=hI.known q.1 (hdone q.1 (by simp only[BZ,Bool.and_eq_true,List.contains_iff_mem] at hq2;exact hq2.1))
     obtain⟨_,f,hT2⟩:=hA.back q hq1
     rw[hT2] at hT'
     obtain rfl:=Option.some.inj hT'
     exact⟨u,hu,hd'⟩)
    have hNS:∀ t ∈ o'.looksAt ops,(B.tmps[t]?=A.tmps[t]?)∨∃ q ∈ Ps.filter (BZ ops o'),AW ops q.1=some t:=fun t ht=>by
     rcases hlook t ht with ⟨j,hj,hd⟩ | hno
     ·obtain⟨T',u,hT',hu,hd'⟩:=hI.known j (hdone j hj)
      cases T' with
      | val v =>
        refine .inl ?_
        rw[hd' t hd,hA.vals j (hdep j hj) v t hT' hd,show u=v from hu]
      | pr p f=>exact .inr ⟨(j,p),List.mem_filter.2 ⟨hA.prs j (hdep j hj) p f hT',by simp only[BZ,Bool.and_eq_true,List.contains_iff_mem,List.any_eq_true,beq_iff_eq];exact⟨hj,t,ht,hd⟩⟩,hd⟩
     ·refine .inl ?_
      rw[hA.out t fun j hj=>hno j (Nat.lt_trans hj (Array.getElem?_eq_some_iff.1 ho).1)]
      refine hI.out t fun j hj=>hno j ?_
      rw[← hI.len]
      exact (Array.getElem?_eq_some_iff.1 hj).1
    refine⟨T.tk,A',hk,fun t ht=>hS t (hNS t ht),fun v w' hv hb hfv=>ih _ _ _ ?_ ?_⟩
    ·have hdo:AW ops i=o'.dst:=by unfold AW;rw[ho];rfl
     have hold:∀ j,(listed.setIfInBounds i true)[j]?=some true→i≠j→listed[j]?=some true:=fun j hj hij=>by
      rw[Array.getElem?_setIfInBounds_ne hij] at hj;exact hj
     have hput:∀ j d,AW ops j=some d→i≠j→(B.put o'.dst v).tmps[d]?=B.tmps[d]?:=fun j d hd hij =>
      FP (fun e=>hij (GJ hB (by rw[hdo];exact e) hd))
     refine⟨hI.below.trans ⟨hb.os,hb.tape,hb.output,hb.size,fun k hk=>hb.block k (Nat.lt_of_lt_of_le hk hI.below.size)⟩,by rw[EQ];exact hI.defers,by rw[Gx];exact hI.size,by rw[Array.size_setIfInBounds];exact hI.len,fun j hj=>?_,fun j o' hj ho' e he=>?_,fun t ht=>?_,fun j hj=>?_,?_⟩
     ·by_cases hij:i=j
      ·omega
      ·exact hI.head j (hold j hj hij)
     ·have hup2:∀ e,listed[e]?=some true→(listed.setIfInBounds i true)[e]?=some true:=fun e he=>by
        by_cases hie:i=e
        ·subst hie;rw[Array.getElem?_setIfInBounds_self_of_lt hli]
        ·rw[Array.getElem?_setIfInBounds_ne hie];exact he
      by_cases hij:i=j
      ·subst hij
       rw[ho] at ho'
       obtain rfl:=Option.some.inj ho'
       exact hup2 e (hdone e he)
      ·exact hup2 e (hI.down j o' (hold j hj hij) ho' e he)
     ·rw[FP (fun e=>ht i (by rw[Array.getElem?_setIfInBounds_self_of_lt hli]) (by rw[hdo];exact e))]
      refine hI.out t fun j hj=>ht j ?_
      by_cases hij:i=j
      ·subst hij;rw[Array.getElem?_setIfInBounds_self_of_lt hli]
      ·rw[Array.getElem?_setIfInBounds_ne hij];exact hj
     ·by_cases hij:i=j
      ·subst hij
       refine⟨T,v,hT,hv,fun d' hd'=>?_⟩
       rw[hdo] at hd'
       rw[hd']
       exact Fv (by rw[hI.size];exact hdst d' hd')
      ·obtain⟨T',u,hT',hu,hd'⟩:=hI.known j (hold j hj hij)
       refine⟨T',u,hT',(hst T' (List.mem_of_getElem? hT')).tk.keep hu hb,fun d'' hd''=>?_⟩
       rw[hput j d'' hd'' hij]
       exact hd' d'' hd''
     ·-- a block that is made now is another than those that were made
      have one:∀ j,i≠j→listed[j]?=some true→∀ p p',Ts[i]?=some (.pr p true)→Ts[j]?=some (.pr p' true)→∀ d d' b b',AW ops i=some d→AW ops j=some d'→(B.put o'.dst v).tmps[d]?=some (.pointer (some ⟨b,0,none⟩))→(B.put o'.dst v).tmps[d']?=some (.pointer (some ⟨b',0,none⟩))→b'<b:=fun j hij hj p p' hp hp' d d' b b' hd hd' hb1 hb2=>by
       rw[hdo] at hd
       rw[hd,Fv (by rw[hI.size];exact hdst d hd)] at hb1
       rw[hput j d' hd' hij] at hb2
       have hTp:T=.pr p true:=Option.some.inj (hT.symm.trans hp)
       have hbw:=hfv (hFr p hTp) b (Option.some.inj hb1)
       obtain⟨T',u,hT',hu,hdu⟩:=hI.known j hj
       rw[hp'] at hT'
       obtain rfl:=Option.some.inj hT'
       rw[hdu d' hd'] at hb2
       rw[Option.some.inj hb2] at hu
       have:=(hst _ (List.mem_of_getElem? hp')).2 rfl _ _ hu
       omega
      intro i' j' hne hi' hj' p p' hp hp' d d' b b' hd hd' hb1 hb2
      by_cases hii:i=i'
      ·subst hii
       have:=one j' hne (hold j' hj' hne) p p' hp hp' d d' b b' hd hd' hb1 hb2
       omega
      ·by_cases hjj:i=j'
       ·subst hjj
        have:=one i' hii (hold i' hi' hii) p' p hp' hp d' d b' b hd' hd hb2 hb1
        omega
       ·rw[hput i' d hd hii] at hb1
        rw[hput j' d' hd' hjj] at hb2
        exact hI.apart i' j' hne (hold i' hi' hii) (hold j' hj' hjj) p p' hp hp' d d' b b' hd hd' hb1 hb2
    ·have:=ID listed.toList i h0'
     rw[Array.toList_setIfInBounds]
     omega
   by_cases hE:∀ i<n,i≠e→listed[i]?=some true
   ·have hne:listed[e]?≠some true:=fun h=>hall fun i hi=>by
      by_cases hie:i=e
      ·rw[hie];exact h
      ·exact hE i hi hie
    have heo:e<ops.size:=(Array.getElem?_eq_some_iff.1 hoe).1
    have hle:e<listed.size:=by rw[hI.len];exact heo
    have hfl:listed[e]?=some false:=by
     rw[Array.getElem?_eq_getElem hle] at hne ⊢
     cases hb:listed[e] with
     | false=>rfl
     | true=>rw[hb] at hne;exact absurd rfl hne
    have hre:e ∈ Region.ready .any ops listed:=mem_ready.2 ⟨by rw[Array.getD_eq_getD_getElem?,hfl];rfl,oe,hoe,fun x hx hbi=>by
     have hd:x.on ∈ BX oe:=by
      unfold BX
      exact List.mem_map.2 ⟨x,List.mem_filter.2 ⟨Array.mem_toList_iff.2 hx,hbi⟩,rfl⟩
     have hlt:=(hform e _ hoe).1 _ hd
     exact Cp.2 (hE x.on (by omega) (by omega))⟩
    obtain⟨T,A',hOK,hSm,hgo⟩:=hmain e oe hre hoe hen
    have hex:execOp A'.eval oe=execOp B.eval oe:=execOp_congr oe (Region.noSelect_spec hsel e oe · · hoe) fun x hx=>J8 hSm x fun t ht=>by
     subst ht
     exact List.mem_append_left _ (List.mem_filterMap.2 ⟨.tmp t,by simpa using hx,rfl⟩)
    unfold CC at hOK
    have hwA:Region.wanted oe (yielded ops A'.tmps)=true:=by simp[Region.wanted,hge]
    rw[if_pos hwA,hex] at hOK
    rcases hse B w with ⟨v,hv⟩ | ⟨x,hx⟩
    ·rw[hv w] at hOK
     have hK:=hgo v w hOK.1 hOK.2 (fun hf b hb=>by
      obtain⟨w2,e2⟩:=hf B w
      rw[hv w] at e2
      rw[hb] at e2
      cases e2
      rfl)
     refine wpAny_first hoe (Region.noSelect_spec hsel) (fun _ _ _ h=>h) fuel listed B w (fun j oj hj hjne hun hno=>?_) hre (.inl ⟨by simp[Region.wanted,hge],hv⟩) hK
     exact Region.free_spec hoe hfe j oj hj hjne (by
      have hjs:j<ops.size:=(Array.getElem?_eq_some_iff.1 hj).1
      have hjn:n≤j:=by
       rcases Nat.lt_or_ge j n with h | h
       ·have h2:=hE j h hjne
        rw[Array.getD_eq_getD_getElem?,h2] at hun
        cases hun
       ·exact h
      unfold Ep
      rw[Array.getD_eq_getD_getElem?,List.getElem?_toArray,List.getElem?_append_right (by simpa using hjn),List.length_replicate,List.getElem?_replicate,if_pos (by omega)]
      rfl) hno
    ·rw[hx] at hOK
     exact absurd hOK (by simp[VJ])
   refine⟨fun hr=>absurd (hstuck listed B w hI hr) hall,fun i hi=>?_⟩
   obtain⟨h0,o,ho,hup⟩:=mem_ready.1 hi
   have hdone:∀ j ∈ BX o,listed[j]?=some true:=fun j hj=>by
    unfold BX at hj
    obtain⟨x,he,rfl⟩:=List.mem_map.1 hj
    obtain⟨he1,he2⟩:=List.mem_filter.1 he
    exact Cp.1 (hup x (Array.mem_toList_iff.1 he1) he2)
   have hin:i<n:=by
    rcases Nat.lt_or_ge i n with h | h
    ·exact h
    ·exact absurd (fun j hj hje=>L9 (p:=fun j=>listed[j]?=some true) hI.down 5 _ hdone j (htail i o h ho j hj hje)) hE
   obtain⟨T,A',hOK,hSm,hgo⟩:=hmain i o hi ho hin
   exact Kj ho (Region.noSelect_spec hsel i o · · ho) hSm (fun t ht=>ht) hOK hgo
theorem IL {P:Program} {id:Nat} {Q:Exit→Act→World→Prop} {a:Act} {w:World} {l:List Oper} (n e:Nat) {oe:Oper} (hoe:l.toArray[e]?=some oe) (hge:oe.guard=none) (hse:Ta P oe) (hfe:Region.free .any l.toArray (Ep l.toArray n) e=true) (hen:e<n) (hm:P.follows .mixedOrders=true) (hn:n≤l.length) (hB:I5 l.toArray a.tmps.size=true) (htl:YK l.toArray n e=true)
    (h:BO P l.toArray w (fun A w'=>wpAny P .any l.toArray (NoPanic Q) (l.length-n) (Ep l.toArray n) A w') (l.take n) 0 a [] []):(Code.region id l.toArray true).wp P Q a w:=by
 obtain⟨Us,hl,hS,hO,hE⟩:=JL hB (l.take n) [] a [] [] ⟨rfl,rfl,fun _ _=>rfl,fun j hj=>by simp at hj,fun j hj=>by simp at hj,fun q hq=>by simp at hq,fun q hq=>by simp at hq⟩ (fun j hj=>by
  have hj':j<n:=by rw[List.length_take] at hj;omega
  rw[List.getElem?_take_of_lt hj']
  simp) h
 simp only[List.nil_append,List.length_nil,Nat.zero_add] at hO hE
 ·have hln:(l.take n).length=n:=by rw[List.length_take];omega
  rw[hln] at hE
  refine wp_region_noPanic (wp_region_any hm (Ok hoe hge hse hfe hen (Ts:=Us) (w0:=w) (n:=n) hB (by simpa using hn) htl hS (fun i o hi ho=>hO i o (by rw[List.getElem?_take_of_lt hi];simpa using ho)) (by simpa using hE) _ _ _ _ ⟨?_,rfl,rfl,by simp,fun j hj=>?_,fun j _ hj=>?_,fun t _=>rfl,fun j hj=>?_,fun i j _ hi=>?_⟩ ?_))
  ·exact⟨rfl,rfl,rfl,Nat.le_refl _,fun _ _=>rfl⟩
  ·exfalso
   have:=Array.mem_of_getElem? hj
   simp at this
  ·exfalso
   have:=Array.mem_of_getElem? hj
   simp at this
  ·exfalso
   have:=Array.mem_of_getElem? hj
   simp at this
  ·exfalso
   have:=Array.mem_of_getElem? hi
   simp at this
  ·simp
end Go.Proofs.YtnaldciakclccaaGreat
