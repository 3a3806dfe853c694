/- Lemmas of this proof. -/
import Derived.WalkMore
import Derived.ScopeJumps
import Derived.OwnWalk
import Derived.RangeFuncBox
import Derived.Test.YtnaldciakclccaaGreatEv23
import Derived.Test.YtnaldciakclccaaGreatEv20
import Derived.Test.YtnaldciakclccaaGreatEv22
namespace Go.Proofs.YtnaldciakclccaaGreat
set_option maxRecDepth 20000
set_option maxHeartbeats 8000000
set_option linter.unusedSimpArgs false
set_option linter.unusedVariables false
open Go.RowKit
def top (P:Nat→Prop) (x:Nat):Prop:=x<4722366482869645213696∧P x∧∀ y,x<y→y<4722366482869645213696→¬ P y
def Qe (W:World) (b:Nat) (v0 v1 v2 v3:Value):World:=(((W.setCell ⟨b,0,none⟩ v0).setCell ⟨b,1,none⟩ v1).setCell ⟨b,2,none⟩ v2).setCell ⟨b,3,none⟩ v3
theorem MR (W:World) (b B:Nat) (v0 v1 v2 v3:Value) (o:Obj) (h:W.heap[B]?=some o) (hn:B≠b):(Qe W b v0 v1 v2 v3).heap[B]?=some o:=by
 unfold Qe
 rw[Below.heap_setCell _ _ _ _ hn,Below.heap_setCell _ _ _ _ hn,Below.heap_setCell _ _ _ _ hn,Below.heap_setCell _ _ _ _ hn]
 exact h
theorem Mw (W:World) (b:Nat) (v0 v1 v2 v3:Value):(Qe W b v0 v1 v2 v3).heap.size=W.heap.size:=by
 have sz:∀ (W:World) (a:Addr) (v:Value),(W.setCell a v).heap.size=W.heap.size:=fun W a v=>by show (W.heap.modify _ _).size=_;rw[Array.size_modify]
 unfold Qe
 rw[sz,sz,sz,sz]
theorem Kg {a W:World} {b:Nat} (h:Below b a W) (v0 v1 v2 v3:Value):Below b a (Qe W b v0 v1 v2 v3) :=
 (((h.setCell (p:=⟨b,0,none⟩) (Nat.le_refl _) v0).setCell (p:=⟨b,1,none⟩) (Nat.le_refl _) v1).setCell (p:=⟨b,2,none⟩) (Nat.le_refl _) v2).setCell (p:=⟨b,3,none⟩) (Nat.le_refl _) v3
theorem Yt (whole B:Nat) (w:World) (hw:whole<B64^4) (hB:w.heap[B]?=some (.cells (An whole).toArray 24 (0,0))) :
    Calls Tryz.prog 175 #[.func (.func 176) #[] #[.pointer (some ⟨B,0,none⟩)]] w fun e w'=>∃ x,top (fun y=>y*y≤whole) x∧e=.returned (.int .u64 (wd x 0:Int))∧Below w.heap.size w w':=by
 have hlt:B<w.heap.size:=by
  apply Nat.lt_of_not_le
  intro hle
  rw[Array.getElem?_eq_none hle] at hB
  simp at hB
 have e0:(An 0).toArray=#[.int .u64 0,.int .u64 0,.int .u64 0,.int .u64 0]:=by simp[An,wd]
 have hX1:(w.alloc (.cells (An 0).toArray 24)).heap[w.heap.size]?=some (.cells (An 0).toArray 24 (0,0)):=Aj _ _
 have hXB:(w.alloc (.cells (An 0).toArray 24)).heap[B]?=some (.cells (An whole).toArray 24 (0,0)):=(AQ _ _ _ hlt).trans hB
 have hXb:Below w.heap.size w (w.alloc (.cells (An 0).toArray 24)):=Al (Below.refl _ _) _
 have hXs:w.heap.size<(w.alloc (.cells (An 0).toArray 24)).heap.size:=by rw[Ae];omega
 rw[e0] at hX1 hXB hXb hXs
 have HB:=Lh hB
 clear hB
 go_enter Tryz.func175,Tryz.ntmps175
 go_wp2_with fail
 generalize w.alloc (.cells #[.int .u64 0,.int .u64 0,.int .u64 0,.int .u64 0] 24)=Y at *
 rw[← e0] at hX1
 clear e0
 go_loopw [7] (fun i wr=>∃ i' m:Nat,i'≤72∧i=.int .i64 (i':Int)∧m<2^i'∧(fun x=>x*x≤whole) (m*2^(72-i'))∧(∀ y,m*2^(72-i')+2^(72-i')≤y→y<4722366482869645213696→¬ y*y≤whole)∧wr.heap[w.heap.size]?=some (.cells (An (m*2^(72-i'))).toArray 24 (0,0))∧wr.heap[B]?=some (.cells (An whole).toArray 24 (0,0))∧Below w.heap.size w wr∧w.heap.size<wr.heap.size) (fun i _=>72-(intOf i).toNat)
 case atStart=>exact⟨0,0,by omega,rfl,by omega,by simp,fun y h1 h2=>by simp at h1;omega,by simpa using hX1,hXB,hXb,hXs⟩
 case round =>
  clear hX1 hXB hXb hXs
  obtain⟨i,m,hi,rfl,hm,hP,hQ,hx,hB,hb,hsz⟩:=hrel
  by_cases hlt2:i<72
  ·have p1:(i:Int)<72:=by omega
   obtain⟨a,ha⟩:∃ a,i+a=71:=⟨71-i,by omega⟩
   have e1:72-i=a+1:=by omega
   rw[e1] at hP hQ hx
   obtain⟨x,hxe⟩:=exza (m*2^(a+1))
   have hx72:x+2^(a+1)≤4722366482869645213696:=by
    have h1:(m+1)*2^(a+1)≤2^i*2^(a+1):=Nat.mul_le_mul_right _ hm
    rw[← Nat.pow_add,show i+(a+1)=72 by omega,Nat.add_mul,Nat.one_mul,← hxe] at h1
    exact h1
   have hpa:2^(a+1)=2^a+2^a:=by rw[Nat.pow_succ];omega
   have hpp:0<2^a:=Nat.two_pow_pos a
   rw[← hxe] at hP hQ hx
   obtain⟨hset,hsw,t,ht⟩:=Mh x m a (by omega) hxe
   obtain⟨Q,hQe⟩:=exza (a/64)
   obtain⟨r,hre⟩:=exza (a%64)
   rw[← hQe,← hre] at hset ht hsw
   have hor:=YP (wd x Q) t r (by omega) (Cb x Q) ht
   have hpr:2^r<18446744073709551616:=Nat.pow_lt_pow_right (a:=2) (m:=r) (n:=64) (by omega) (by omega)
   have ps:((2:Int)^r)=((2^r:Nat):Int):=by rw[Int.natCast_pow];rfl
   have t1:(a:Int).tdiv 64=(Q:Int):=by rw[Int.tdiv_eq_ediv_of_nonneg (by omega)];omega
   have t2:(a:Int).tmod 64=(r:Int):=by rw[Int.tmod_eq_emod_of_nonneg (by omega)];omega
   have s1:(71:Int)-(i:Int)=(a:Int):=by omega
   have o1:IntKind.i64.wrap ((71:Int)-(i:Int))=(a:Int):=by rw[s1];exact IntWalk.i64_in _ (by omega)
   have hsum:wd x Q+2^r<18446744073709551616:=by rw[hsw];exact Cb _ _
   have c0:=(Af hx (Ai x 0 (by omega))).1
   have c1:=(Af hx (Ai x 1 (by omega))).1
   have c2:=(Af hx (Ai x 2 (by omega))).1
   have c3:=(Af hx (Ai x 3 (by omega))).1
   have HS1:=Lh s1
   have HXE:=Lh hxe
   clear s1 e1 hxe
   go_wp2_with fail
   change Code.wp _ _ _ _ (wr.alloc (.cells (An x).toArray 24))
   have z1:(wr.alloc (.cells (An x).toArray 24)).heap[w.heap.size]?=some (.cells (An x).toArray 24 (0,0)):=(AQ _ _ _ hsz).trans hx
   have z2:(wr.alloc (.cells (An x).toArray 24)).heap[B]?=some (.cells (An whole).toArray 24 (0,0)):=(AQ _ _ _ (by omega)).trans hB
   have z3:(wr.alloc (.cells (An x).toArray 24)).heap[wr.heap.size]?=some (.cells (An x).toArray 24 (0,0)):=Aj _ _
   have z4:Below w.heap.size w (wr.alloc (.cells (An x).toArray 24)):=Al hb _
   have z5:(wr.alloc (.cells (An x).toArray 24)).heap.size=wr.heap.size+1:=Ae _ _
   clear c0 c1 c2 c3 hx hB hb
   generalize wr.alloc (.cells (An x).toArray 24)=Z at *
   obtain⟨cq,fq⟩:=Af z3 (Ai x Q (by omega))
   have q4:(Q:Int)<4:=by omega
   obtain⟨S,hS⟩:=exza (2^r)
   rw[← hS] at hset hor hpr hsum
   have ps':((2:Int)^r)=(S:Int):=by rw[ps,hS]
   have o2:IntKind.u64.wrap ((2:Int)^r)=(S:Int):=by rw[ps'];exact IntWalk.u64_in _ (by omega)
   have Z1:=Lh z1
   have Z2:=Lh z2
   have Z3:=Lh z3
   have HSET:=Lh hset
   have HQ:=Lh hQ
   have HX72:=Lh hx72
   have HT:=Lh ht
   have HM:=Lh hm
   have nQ:(Q:Int).toNat=Q:=by omega
   have r64:(r:Int)<64:=by omega
   have d1:(a:Int)/64=(Q:Int):=by omega
   have d2:(a:Int)%64=(r:Int):=by omega
   have w1:IntKind.i64.wrap (Q:Int)=(Q:Int):=IntWalk.i64_in _ (by omega)
   have Q4:=Lh hQe
   clear hQe hre
   clear z1 z2 z3 hset hQ hx72 ht hm ps hS hsw
   obtain⟨V,hV⟩:=exza (wd x Q)
   rw[← hV] at cq hor hsum HSET
   clear hV HT
   go_region
   have hset':(An x).set Q (.int .u64 ((V:Int)+(S:Int)))=An (x+2^a):=by rw[← Int.natCast_add];exact HSET.out
   have y3:=AF (i:=Q) Z3.out (.int .u64 ((V:Int)+(S:Int)))
   rw[hset'] at y3
   have y1:=Z1.out
   rw[← Below.heap_setCell _ ⟨wr.heap.size,Q,none⟩ (.int .u64 ((V:Int)+(S:Int))) _ (by show w.heap.size≠wr.heap.size;omega)] at y1
   have y2:=Z2.out
   rw[← Below.heap_setCell _ ⟨wr.heap.size,Q,none⟩ (.int .u64 ((V:Int)+(S:Int))) _ (by show B≠wr.heap.size;omega)] at y2
   have y4:=z4.setCell (p:=⟨wr.heap.size,Q,none⟩) (by show w.heap.size≤wr.heap.size;omega) (.int .u64 ((V:Int)+(S:Int)))
   have y5:(Z.setCell ⟨wr.heap.size,Q,none⟩ (.int .u64 ((V:Int)+(S:Int)))).heap.size=wr.heap.size+1:=by rw[← z5];show (Z.heap.modify _ _).size=_;rw[Array.size_modify]
   clear hset' Z1 Z2 Z3 z4 z5 cq fq hor HSET
   generalize Z.setCell ⟨wr.heap.size,Q,none⟩ (.int .u64 ((V:Int)+(S:Int)))=U at *
   have c0:=(Af y3 (Ai (x+2^a) 0 (by omega))).1
   have c1:=(Af y3 (Ai (x+2^a) 1 (by omega))).1
   have c2:=(Af y3 (Ai (x+2^a) 2 (by omega))).1
   have c3:=(Af y3 (Ai (x+2^a) 3 (by omega))).1
   have Y1:=Lh y1
   have Y2:=Lh y2
   have Y3:=Lh y3
   clear y1 y2 y3
   go_wp2_with fail
   go_at_call 176
   have hm72:x+2^a<4722366482869645213696:=by have:=HX72.out;omega
   refine (fl (x+2^a) whole B U.drew hm72 hw Y2.out).mono ?_
   rintro e w2 ⟨rfl,hb2⟩
   have hsz2:wr.heap.size+1≤w2.heap.size:=by have:=hb2.size;rw[← y5];exact this
   have u1:w2.heap[w.heap.size]?=some (.cells (An x).toArray 24 (0,0)):=(hb2.block w.heap.size (by show _<U.heap.size;omega)).trans Y1.out
   have u2:Hid (w2.heap[B]?=some (.cells (An whole).toArray 24 (0,0))):=(hb2.block B (by show _<U.heap.size;omega)).trans Y2.out
   have u3:w2.heap[wr.heap.size]?=some (.cells (An (x+2^a)).toArray 24 (0,0)):=(hb2.block wr.heap.size (by show _<U.heap.size;omega)).trans Y3.out
   have u4':Below w.heap.size w w2:=y4.drew.trans (hb2.mono (show w.heap.size≤U.drew.heap.size by show w.heap.size≤U.heap.size;omega))
   clear hb2 y4 y5 Y1 Y2 Y3 c0 c1 c2 c3
   have e72:72-(i+1)=a:=by omega
   have hxm:x=2*m*2^a:=by rw[HXE.out,Nat.pow_succ,Nat.mul_comm (2^a) 2,← Nat.mul_assoc,Nat.mul_comm m 2]
   have hxm2:x+2^a=(2*m+1)*2^a:=by rw[Nat.add_mul,Nat.one_mul,← hxm]
   have hm2:2*m+1<2^(i+1):=by have:=HM.out;rw[Nat.pow_succ];omega
   have HXM:=Lh hxm
   have HXM2:=Lh hxm2
   have HM2:=Lh hm2
   have E72:=Lh e72
   have HPA:=Lh hpa
   clear hxm hxm2 hm2 e72 hpa
   obtain⟨M,hM⟩:=exza (x+2^a)
   rw[← hM] at u3 HXM2 ⊢
   by_cases hT:whole<M*M
   ·have HT:=Lh hT
    have hd:decide (whole<M*M)=true:=by simpa using hT
    have U1:=Lh u1
    have hMe:=Lh hM
    clear hT u1 u3 hM
    rw[hd]
    clear hd
    go_wp2_with fail
    go_roundw
    case rel =>
     refine⟨i+1,2*m,by omega,congrArg (Value.int .i64) (by omega),by have:=HM2.out;omega,?_,?_,?_,u2.out,u4',by omega⟩
     ·rw[E72.out,← HXM.out];exact hP
     ·rw[E72.out,← HXM.out,← hMe.out]
      intro y h1 _ h2
      have h:=h1
      exact absurd (Nat.lt_of_lt_of_le HT.out (Nat.le_trans (Nat.mul_le_mul h h) h2)) (Nat.lt_irrefl _)
     ·rw[E72.out,← HXM.out];exact U1.out
    case measure=>simp[intOf];omega
   ·have hd:decide (whole<M*M)=false:=by simpa using hT
    have HT:=Lh hT
    have hMe:=Lh hM
    clear hT hM
    rw[hd]
    clear hd
    have d0:=(Af u3 (Ai M 0 (by omega))).1
    have d1':=(Af u3 (Ai M 1 (by omega))).1
    have d2':=(Af u3 (Ai M 2 (by omega))).1
    have d3:=(Af u3 (Ai M 3 (by omega))).1
    obtain⟨g0,h0⟩:=Af u1 (Ai x 0 (by omega))
    obtain⟨g1,h1⟩:=Af u1 (Ai x 1 (by omega))
    obtain⟨g2,h2⟩:=Af u1 (Ai x 2 (by omega))
    obtain⟨g3,h3⟩:=Af u1 (Ai x 3 (by omega))
    have v1:=AF (i:=3) (AF (i:=2) (AF (i:=1) (AF (i:=0) u1 (.int .u64 (wd M 0:Int))) (.int .u64 (wd M 1:Int))) (.int .u64 (wd M 2:Int))) (.int .u64 (wd M 3:Int))
    have q2:((((An x).set 0 (.int .u64 (wd M 0:Int))).set 1 (.int .u64 (wd M 1:Int))).set 2 (.int .u64 (wd M 2:Int))).set 3 (.int .u64 (wd M 3:Int))=An M:=rfl
    rw[q2] at v1
    have V1:=Lh v1
    clear u1 u3 q2 v1
    go_wp2_with fail
    go_roundw
    case rel =>
     have nB:B≠w.heap.size:=by omega
     refine⟨i+1,2*m+1,by omega,congrArg (Value.int .i64) (by omega),HM2.out,?_,?_,?_,?_,?_,?_⟩
     ·rw[E72.out,← HXM2.out];exact Nat.le_of_not_lt HT.out
     ·rw[E72.out,← HXM2.out]
      intro y h1 h2
      exact HQ.out y (by have:=HPA.out;have:=hMe.out;omega) h2
     ·rw[E72.out,← HXM2.out];exact V1.out
     ·exact MR w2 w.heap.size B (.int .u64 (wd M 0:Int)) (.int .u64 (wd M 1:Int)) (.int .u64 (wd M 2:Int)) (.int .u64 (wd M 3:Int)) _ u2.out nB
     ·exact Kg u4' (.int .u64 (wd M 0:Int)) (.int .u64 (wd M 1:Int)) (.int .u64 (wd M 2:Int)) (.int .u64 (wd M 3:Int))
     ·exact Nat.lt_of_lt_of_eq (by omega:w.heap.size<w2.heap.size) (Mw w2 w.heap.size (.int .u64 (wd M 0:Int)) (.int .u64 (wd M 1:Int)) (.int .u64 (wd M 2:Int)) (.int .u64 (wd M 3:Int))).symm
    case measure=>simp[intOf];omega
  ·obtain rfl:i=72:=by omega
   have p1:¬ ((72:Nat):Int)<72:=by omega
   rw[Nat.sub_self,Nat.pow_zero,Nat.mul_one] at hP hQ hx
   have c0:=(Af hx (Ai m 0 (by omega))).1
   have HT:Hid (top (fun y=>y*y≤whole) m):=⟨Nat.lt_of_lt_of_le hm (by decide),hP,fun y h1 h2=>hQ y h1 h2⟩
   clear hx hB hP hQ hm
   go_wp2_with fail
   go_ret
   exact⟨m,HT.out,BE rfl,hb⟩
theorem dm (whole B:Nat) (w:World) (hw:whole<B64^4) (hB:w.heap[B]?=some (.cells (An whole).toArray 24 (0,0))) :
    Calls Tryz.prog 175 #[.func (.func 177) #[] #[.pointer (some ⟨B,0,none⟩)]] w fun e w'=>∃ x,top (fun y=>y*y*y≤whole) x∧e=.returned (.int .u64 (wd x 0:Int))∧Below w.heap.size w w':=by
 have hlt:B<w.heap.size:=by
  apply Nat.lt_of_not_le
  intro hle
  rw[Array.getElem?_eq_none hle] at hB
  simp at hB
 have e0:(An 0).toArray=#[.int .u64 0,.int .u64 0,.int .u64 0,.int .u64 0]:=by simp[An,wd]
 have hX1:(w.alloc (.cells (An 0).toArray 24)).heap[w.heap.size]?=some (.cells (An 0).toArray 24 (0,0)):=Aj _ _
 have hXB:(w.alloc (.cells (An 0).toArray 24)).heap[B]?=some (.cells (An whole).toArray 24 (0,0)):=(AQ _ _ _ hlt).trans hB
 have hXb:Below w.heap.size w (w.alloc (.cells (An 0).toArray 24)):=Al (Below.refl _ _) _
 have hXs:w.heap.size<(w.alloc (.cells (An 0).toArray 24)).heap.size:=by rw[Ae];omega
 rw[e0] at hX1 hXB hXb hXs
 have HB:=Lh hB
 clear hB
 go_enter Tryz.func175,Tryz.ntmps175
 go_wp2_with fail
 generalize w.alloc (.cells #[.int .u64 0,.int .u64 0,.int .u64 0,.int .u64 0] 24)=Y at *
 rw[← e0] at hX1
 clear e0
 go_loopw [7] (fun i wr=>∃ i' m:Nat,i'≤72∧i=.int .i64 (i':Int)∧m<2^i'∧(fun x=>x*x*x≤whole) (m*2^(72-i'))∧(∀ y,m*2^(72-i')+2^(72-i')≤y→y<4722366482869645213696→¬ y*y*y≤whole)∧wr.heap[w.heap.size]?=some (.cells (An (m*2^(72-i'))).toArray 24 (0,0))∧wr.heap[B]?=some (.cells (An whole).toArray 24 (0,0))∧Below w.heap.size w wr∧w.heap.size<wr.heap.size) (fun i _=>72-(intOf i).toNat)
 case atStart=>exact⟨0,0,by omega,rfl,by omega,by simp,fun y h1 h2=>by simp at h1;omega,by simpa using hX1,hXB,hXb,hXs⟩
 case round =>
  clear hX1 hXB hXb hXs
  obtain⟨i,m,hi,rfl,hm,hP,hQ,hx,hB,hb,hsz⟩:=hrel
  by_cases hlt2:i<72
  ·have p1:(i:Int)<72:=by omega
   obtain⟨a,ha⟩:∃ a,i+a=71:=⟨71-i,by omega⟩
   have e1:72-i=a+1:=by omega
   rw[e1] at hP hQ hx
   obtain⟨x,hxe⟩:=exza (m*2^(a+1))
   have hx72:x+2^(a+1)≤4722366482869645213696:=by
    have h1:(m+1)*2^(a+1)≤2^i*2^(a+1):=Nat.mul_le_mul_right _ hm
    rw[← Nat.pow_add,show i+(a+1)=72 by omega,Nat.add_mul,Nat.one_mul,← hxe] at h1
    exact h1
   have hpa:2^(a+1)=2^a+2^a:=by rw[Nat.pow_succ];omega
   have hpp:0<2^a:=Nat.two_pow_pos a
   rw[← hxe] at hP hQ hx
   obtain⟨hset,hsw,t,ht⟩:=Mh x m a (by omega) hxe
   obtain⟨Q,hQe⟩:=exza (a/64)
   obtain⟨r,hre⟩:=exza (a%64)
   rw[← hQe,← hre] at hset ht hsw
   have hor:=YP (wd x Q) t r (by omega) (Cb x Q) ht
   have hpr:2^r<18446744073709551616:=Nat.pow_lt_pow_right (a:=2) (m:=r) (n:=64) (by omega) (by omega)
   have ps:((2:Int)^r)=((2^r:Nat):Int):=by rw[Int.natCast_pow];rfl
   have t1:(a:Int).tdiv 64=(Q:Int):=by rw[Int.tdiv_eq_ediv_of_nonneg (by omega)];omega
   have t2:(a:Int).tmod 64=(r:Int):=by rw[Int.tmod_eq_emod_of_nonneg (by omega)];omega
   have s1:(71:Int)-(i:Int)=(a:Int):=by omega
   have o1:IntKind.i64.wrap ((71:Int)-(i:Int))=(a:Int):=by rw[s1];exact IntWalk.i64_in _ (by omega)
   have hsum:wd x Q+2^r<18446744073709551616:=by rw[hsw];exact Cb _ _
   have c0:=(Af hx (Ai x 0 (by omega))).1
   have c1:=(Af hx (Ai x 1 (by omega))).1
   have c2:=(Af hx (Ai x 2 (by omega))).1
   have c3:=(Af hx (Ai x 3 (by omega))).1
   have HS1:=Lh s1
   have HXE:=Lh hxe
   clear s1 e1 hxe
   go_wp2_with fail
   change Code.wp _ _ _ _ (wr.alloc (.cells (An x).toArray 24))
   have z1:(wr.alloc (.cells (An x).toArray 24)).heap[w.heap.size]?=some (.cells (An x).toArray 24 (0,0)):=(AQ _ _ _ hsz).trans hx
   have z2:(wr.alloc (.cells (An x).toArray 24)).heap[B]?=some (.cells (An whole).toArray 24 (0,0)):=(AQ _ _ _ (by omega)).trans hB
   have z3:(wr.alloc (.cells (An x).toArray 24)).heap[wr.heap.size]?=some (.cells (An x).toArray 24 (0,0)):=Aj _ _
   have z4:Below w.heap.size w (wr.alloc (.cells (An x).toArray 24)):=Al hb _
   have z5:(wr.alloc (.cells (An x).toArray 24)).heap.size=wr.heap.size+1:=Ae _ _
   clear c0 c1 c2 c3 hx hB hb
   generalize wr.alloc (.cells (An x).toArray 24)=Z at *
   obtain⟨cq,fq⟩:=Af z3 (Ai x Q (by omega))
   have q4:(Q:Int)<4:=by omega
   obtain⟨S,hS⟩:=exza (2^r)
   rw[← hS] at hset hor hpr hsum
   have ps':((2:Int)^r)=(S:Int):=by rw[ps,hS]
   have o2:IntKind.u64.wrap ((2:Int)^r)=(S:Int):=by rw[ps'];exact IntWalk.u64_in _ (by omega)
   have Z1:=Lh z1
   have Z2:=Lh z2
   have Z3:=Lh z3
   have HSET:=Lh hset
   have HQ:=Lh hQ
   have HX72:=Lh hx72
   have HT:=Lh ht
   have HM:=Lh hm
   have nQ:(Q:Int).toNat=Q:=by omega
   have r64:(r:Int)<64:=by omega
   have d1:(a:Int)/64=(Q:Int):=by omega
   have d2:(a:Int)%64=(r:Int):=by omega
   have w1:IntKind.i64.wrap (Q:Int)=(Q:Int):=IntWalk.i64_in _ (by omega)
   have Q4:=Lh hQe
   clear hQe hre
   clear z1 z2 z3 hset hQ hx72 ht hm ps hS hsw
   obtain⟨V,hV⟩:=exza (wd x Q)
   rw[← hV] at cq hor hsum HSET
   clear hV HT
   go_region
   have hset':(An x).set Q (.int .u64 ((V:Int)+(S:Int)))=An (x+2^a):=by rw[← Int.natCast_add];exact HSET.out
   have y3:=AF (i:=Q) Z3.out (.int .u64 ((V:Int)+(S:Int)))
   rw[hset'] at y3
   have y1:=Z1.out
   rw[← Below.heap_setCell _ ⟨wr.heap.size,Q,none⟩ (.int .u64 ((V:Int)+(S:Int))) _ (by show w.heap.size≠wr.heap.size;omega)] at y1
   have y2:=Z2.out
   rw[← Below.heap_setCell _ ⟨wr.heap.size,Q,none⟩ (.int .u64 ((V:Int)+(S:Int))) _ (by show B≠wr.heap.size;omega)] at y2
   have y4:=z4.setCell (p:=⟨wr.heap.size,Q,none⟩) (by show w.heap.size≤wr.heap.size;omega) (.int .u64 ((V:Int)+(S:Int)))
   have y5:(Z.setCell ⟨wr.heap.size,Q,none⟩ (.int .u64 ((V:Int)+(S:Int)))).heap.size=wr.heap.size+1:=by rw[← z5];show (Z.heap.modify _ _).size=_;rw[Array.size_modify]
   clear hset' Z1 Z2 Z3 z4 z5 cq fq hor HSET
   generalize Z.setCell ⟨wr.heap.size,Q,none⟩ (.int .u64 ((V:Int)+(S:Int)))=U at *
   have c0:=(Af y3 (Ai (x+2^a) 0 (by omega))).1
   have c1:=(Af y3 (Ai (x+2^a) 1 (by omega))).1
   have c2:=(Af y3 (Ai (x+2^a) 2 (by omega))).1
   have c3:=(Af y3 (Ai (x+2^a) 3 (by omega))).1
   have Y1:=Lh y1
   have Y2:=Lh y2
   have Y3:=Lh y3
   clear y1 y2 y3
   go_wp2_with fail
   go_at_call 177
   have hm72:x+2^a<4722366482869645213696:=by have:=HX72.out;omega
   refine (gb (x+2^a) whole B U.drew hm72 hw Y2.out).mono ?_
   rintro e w2 ⟨rfl,hb2⟩
   have hsz2:wr.heap.size+1≤w2.heap.size:=by have:=hb2.size;rw[← y5];exact this
   have u1:w2.heap[w.heap.size]?=some (.cells (An x).toArray 24 (0,0)):=(hb2.block w.heap.size (by show _<U.heap.size;omega)).trans Y1.out
   have u2:Hid (w2.heap[B]?=some (.cells (An whole).toArray 24 (0,0))):=(hb2.block B (by show _<U.heap.size;omega)).trans Y2.out
   have u3:w2.heap[wr.heap.size]?=some (.cells (An (x+2^a)).toArray 24 (0,0)):=(hb2.block wr.heap.size (by show _<U.heap.size;omega)).trans Y3.out
   have u4':Below w.heap.size w w2:=y4.drew.trans (hb2.mono (show w.heap.size≤U.drew.heap.size by show w.heap.size≤U.heap.size;omega))
   clear hb2 y4 y5 Y1 Y2 Y3 c0 c1 c2 c3
   have e72:72-(i+1)=a:=by omega
   have hxm:x=2*m*2^a:=by rw[HXE.out,Nat.pow_succ,Nat.mul_comm (2^a) 2,← Nat.mul_assoc,Nat.mul_comm m 2]
   have hxm2:x+2^a=(2*m+1)*2^a:=by rw[Nat.add_mul,Nat.one_mul,← hxm]
   have hm2:2*m+1<2^(i+1):=by have:=HM.out;rw[Nat.pow_succ];omega
   have HXM:=Lh hxm
   have HXM2:=Lh hxm2
   have HM2:=Lh hm2
   have E72:=Lh e72
   have HPA:=Lh hpa
   clear hxm hxm2 hm2 e72 hpa
   obtain⟨M,hM⟩:=exza (x+2^a)
   rw[← hM] at u3 HXM2 ⊢
   by_cases hT:whole<M*M*M
   ·have HT:=Lh hT
    have hd:decide (whole<M*M*M)=true:=by simpa using hT
    have U1:=Lh u1
    have hMe:=Lh hM
    clear hT u1 u3 hM
    rw[hd]
    clear hd
    go_wp2_with fail
    go_roundw
    case rel =>
     refine⟨i+1,2*m,by omega,congrArg (Value.int .i64) (by omega),by have:=HM2.out;omega,?_,?_,?_,u2.out,u4',by omega⟩
     ·rw[E72.out,← HXM.out];exact hP
     ·rw[E72.out,← HXM.out,← hMe.out]
      intro y h1 _ h2
      have h:=h1
      exact absurd (Nat.lt_of_lt_of_le HT.out (Nat.le_trans (Nat.mul_le_mul (Nat.mul_le_mul h h) h) h2)) (Nat.lt_irrefl _)
     ·rw[E72.out,← HXM.out];exact U1.out
    case measure=>simp[intOf];omega
   ·have hd:decide (whole<M*M*M)=false:=by simpa using hT
    have HT:=Lh hT
    have hMe:=Lh hM
    clear hT hM
    rw[hd]
    clear hd
    have d0:=(Af u3 (Ai M 0 (by omega))).1
    have d1':=(Af u3 (Ai M 1 (by omega))).1
    have d2':=(Af u3 (Ai M 2 (by omega))).1
    have d3:=(Af u3 (Ai M 3 (by omega))).1
    obtain⟨g0,h0⟩:=Af u1 (Ai x 0 (by omega))
    obtain⟨g1,h1⟩:=Af u1 (Ai x 1 (by omega))
    obtain⟨g2,h2⟩:=Af u1 (Ai x 2 (by omega))
    obtain⟨g3,h3⟩:=Af u1 (Ai x 3 (by omega))
    have v1:=AF (i:=3) (AF (i:=2) (AF (i:=1) (AF (i:=0) u1 (.int .u64 (wd M 0:Int))) (.int .u64 (wd M 1:Int))) (.int .u64 (wd M 2:Int))) (.int .u64 (wd M 3:Int))
    have q2:((((An x).set 0 (.int .u64 (wd M 0:Int))).set 1 (.int .u64 (wd M 1:Int))).set 2 (.int .u64 (wd M 2:Int))).set 3 (.int .u64 (wd M 3:Int))=An M:=rfl
    rw[q2] at v1
    have V1:=Lh v1
    clear u1 u3 q2 v1
    go_wp2_with fail
    go_roundw
    case rel =>
     have nB:B≠w.heap.size:=by omega
     refine⟨i+1,2*m+1,by omega,congrArg (Value.int .i64) (by omega),HM2.out,?_,?_,?_,?_,?_,?_⟩
     ·rw[E72.out,← HXM2.out];exact Nat.le_of_not_lt HT.out
     ·rw[E72.out,← HXM2.out]
      intro y h1 h2
      exact HQ.out y (by have:=HPA.out;have:=hMe.out;omega) h2
     ·rw[E72.out,← HXM2.out];exact V1.out
     ·exact MR w2 w.heap.size B (.int .u64 (wd M 0:Int)) (.int .u64 (wd M 1:Int)) (.int .u64 (wd M 2:Int)) (.int .u64 (wd M 3:Int)) _ u2.out nB
     ·exact Kg u4' (.int .u64 (wd M 0:Int)) (.int .u64 (wd M 1:Int)) (.int .u64 (wd M 2:Int)) (.int .u64 (wd M 3:Int))
     ·exact Nat.lt_of_lt_of_eq (by omega:w.heap.size<w2.heap.size) (Mw w2 w.heap.size (.int .u64 (wd M 0:Int)) (.int .u64 (wd M 1:Int)) (.int .u64 (wd M 2:Int)) (.int .u64 (wd M 3:Int))).symm
    case measure=>simp[intOf];omega
  ·obtain rfl:i=72:=by omega
   have p1:¬ ((72:Nat):Int)<72:=by omega
   rw[Nat.sub_self,Nat.pow_zero,Nat.mul_one] at hP hQ hx
   have c0:=(Af hx (Ai m 0 (by omega))).1
   have HT:Hid (top (fun y=>y*y*y≤whole) m):=⟨Nat.lt_of_lt_of_le hm (by decide),hP,fun y h1 h2=>hQ y h1 h2⟩
   clear hx hB hP hQ hm
   go_wp2_with fail
   go_ret
   exact⟨m,HT.out,BE rfl,hb⟩
theorem Ql (n:Int) (w:World) :
    Calls Tryz.prog 174 #[.int .i64 n] w fun e w'=>e=.returned (.bool (decide (1≤n) && decide (n≤65535)))∧w=w':=by
 go_enter Tryz.func174,Tryz.ntmps174
 go_wp2_with fail
 all_goals
  go_ret
  refine⟨EM ?_,rfl⟩
  first | (simp_all;done) | (simp_all;intro;omega)
theorem aD (n:Nat) (h:n<18446744073709551616):(An (n*B64^2)).toArray=#[.int .u64 0,.int .u64 0,.int .u64 (n:Int),.int .u64 0]:=by
 have e:∀ k,wd (n*B64^2) k=if k=2 then n else 0:=fun k=>by
  unfold wd
  by_cases h0:k<2
  ·obtain⟨d,hd⟩:∃ d,2=k+1+d:=⟨1-k,by omega⟩
   rw[if_neg (by omega),hd,show k+1+d=d+1+k by omega,Nat.pow_add,← Nat.mul_assoc,Nat.mul_div_cancel _ (Nat.pow_pos B9),Nat.pow_succ,← Nat.mul_assoc,Nat.mul_mod_left]
  ·obtain⟨d,rfl⟩:∃ d,k=2+d:=⟨k-2,by omega⟩
   rw[Nat.pow_add,← Nat.div_div_eq_div_mul,Nat.mul_div_cancel _ (Nat.pow_pos B9)]
   by_cases hd:d=0
   ·subst hd
    rw[if_pos rfl,Nat.pow_zero,Nat.div_one]
    exact Nat.mod_eq_of_lt h
   ·obtain⟨c,rfl⟩:∃ c,d=c+1:=⟨d-1,by omega⟩
    have:n<B64^(c+1):=Nat.lt_of_lt_of_le h (by rw[Nat.pow_succ];exact Nat.le_mul_of_pos_left _ (Nat.pow_pos B9))
    rw[if_neg (by omega),Nat.div_eq_of_lt this]
    rfl
 unfold An
 rw[e,e,e,e]
 rfl
theorem XZ (n:Nat) (h:n<18446744073709551616):(An (n*B64^3)).toArray=#[.int .u64 0,.int .u64 0,.int .u64 0,.int .u64 (n:Int)]:=by
 have e:∀ k,k<4→wd (n*B64^3) k=if k=3 then n else 0:=fun k hk=>by
  unfold wd
  by_cases h0:k<3
  ·obtain⟨d,hd⟩:∃ d,3=k+1+d:=⟨2-k,by omega⟩
   rw[if_neg (by omega),hd,show k+1+d=d+1+k by omega,Nat.pow_add,← Nat.mul_assoc,Nat.mul_div_cancel _ (Nat.pow_pos B9),Nat.pow_succ,← Nat.mul_assoc,Nat.mul_mod_left]
  ·obtain rfl:k=3:=by omega
   rw[Nat.mul_div_cancel _ (Nat.pow_pos B9),if_pos rfl]
   exact Nat.mod_eq_of_lt h
 unfold An
 rw[e 0 (by omega),e 1 (by omega),e 2 (by omega),e 3 (by omega)]
 rfl
theorem UQ (n k:Nat) (h:n<65536) (hk:k≤3):n*B64^k<B64^4:=by
 have h1:n*B64^k<B64*B64^k:=Nat.mul_lt_mul_of_pos_right (Nat.lt_of_lt_of_le h (by decide)) (Nat.pow_pos B9)
 rw[Nat.mul_comm B64,← Nat.pow_succ] at h1
 exact Nat.lt_of_lt_of_le h1 (Nat.pow_le_pow_right B9 (by omega))
theorem Wj (n:Nat) (w:World) (h1:1≤n) (h2:n<65536) :
    Calls Tryz.prog 136 #[.int .i64 (n:Int)] w fun e w'=>∃ x,top (fun y=>y*y≤n*B64^2) x∧e=.returned (.int .u64 (wd x 0:Int))∧Below w.heap.size w w':=by
 have hi:=fun w=>Ql (n:Int) w
 rw[show (decide (1≤(n:Int)) && decide ((n:Int)≤65535))=true by simp;omega] at hi
 have RO:=Yt (n*B64^2) w.heap.size (w.alloc (.cells (An (n*B64^2)).toArray 24)) (UQ n 2 h2 (by omega)) (Aj _ _)
 rw[aD n (by omega)] at RO
 have RH:=Lh RO
 have n6:(n:Int)<65536:=by omega
 clear RO
 go_enter Tryz.func136,Tryz.ntmps136
 go_wp2_with (go_at_call 174;refine (hi _).mono ?_;rintro e w' ⟨rfl,rfl⟩)
 go_at_call 175
 refine RH.out.mono ?_
 rintro e w' ⟨x,hx,rfl,hb⟩
 go_wp2_with fail
 go_ret
 exact⟨x,hx,rfl,(Al (Below.refl _ _) _).trans (hb.mono (by rw[Ae];omega))⟩
theorem dj (n:Nat) (w:World) (h1:1≤n) (h2:n<65536) :
    Calls Tryz.prog 138 #[.int .i64 (n:Int)] w fun e w'=>∃ x,top (fun y=>y*y*y≤n*B64^3) x∧e=.returned (.int .u64 (wd x 0:Int))∧Below w.heap.size w w':=by
 have hi:=fun w=>Ql (n:Int) w
 rw[show (decide (1≤(n:Int)) && decide ((n:Int)≤65535))=true by simp;omega] at hi
 have RO:=dm (n*B64^3) w.heap.size (w.alloc (.cells (An (n*B64^3)).toArray 24)) (UQ n 3 h2 (by omega)) (Aj _ _)
 rw[XZ n (by omega)] at RO
 have RH:=Lh RO
 have n6:(n:Int)<65536:=by omega
 clear RO
 go_enter Tryz.func138,Tryz.ntmps138
 go_wp2_with (go_at_call 174;refine (hi _).mono ?_;rintro e w' ⟨rfl,rfl⟩)
 go_at_call 175
 refine RH.out.mono ?_
 rintro e w' ⟨x,hx,rfl,hb⟩
 go_wp2_with fail
 go_ret
 exact⟨x,hx,rfl,(Al (Below.refl _ _) _).trans (hb.mono (by rw[Ae];omega))⟩
theorem T9 {P:Nat→Prop} {x c:Nat} (ht:top P x) (hm:∀ a b,a≤b→P b→P a) (hc:P c) (hc2:¬ P (c+1)) (hl:c<4722366482869645213696):x=c:=by
 obtain⟨t1,t2,t3⟩:=ht
 rcases Nat.lt_trichotomy x c with h | h | h
 ·exact absurd hc (t3 c h hl)
 ·exact h
 ·exact absurd (hm (c+1) x h t2) hc2
theorem cQ (W:Nat):∀ a b,a≤b→(fun y=>y*y≤W) b→(fun y=>y*y≤W) a:=fun _ _ h hb=>Nat.le_trans (Nat.mul_le_mul h h) hb
theorem cD (W:Nat):∀ a b,a≤b→(fun y=>y*y*y≤W) b→(fun y=>y*y*y≤W) a:=fun _ _ h hb=>Nat.le_trans (Nat.mul_le_mul (Nat.mul_le_mul h h) h) hb
section
variable {P:Program} {a:Act} {w:World} {Q:Exit→Act→World→Prop}
@[go_sem] theorem jump_ret (l:Nat) (J:Act→World→Prop):Exit.jump l J Q .ret a w=Q .ret a w:=rfl
@[go_sem] theorem jump_normal (l:Nat) (J:Act→World→Prop):Exit.jump l J Q .normal a w=Q .normal a w:=rfl
@[go_sem] theorem jump_exit (l id:Nat) (J:Act→World→Prop):Exit.jump l J Q (.exit id) a w=Q (.exit id) a w:=rfl
theorem Ou {c rest:Code} (l:Nat) (hf:findLabel c l=some rest)
    (first:c.wp P (Exit.jump l (fun a' w'=>rest.wp P (Exit.noGoto Q) a' w') Q) a w):(Code.scope c).wp P Q a w:=by
 refine wp_scope_jumps l (fun a' w'=>rest.wp P (Exit.noGoto Q) a' w') (fun _ _=>0) hf first ?_
 intro a w h b k cs
 obtain⟨e,a₁,w₁,hq,harr⟩:=h b k cs
 refine⟨e,a₁,w₁,?_,harr⟩
 cases e with
 | goto l=>exact hq.elim
 | _=>exact hq
end
def Hw (n:Nat):Bool:=decide (2≤n) && (List.range n).all fun d=>decide (d<2) || n%d != 0
def cnt:Nat→Nat
 | 0=>0
 | n+1=>cnt n+if Hw n then 1 else 0
theorem Gy (n:Nat):Hw n=true↔2≤n∧∀ d,2≤d→d<n→n%d≠0:=by
 unfold Hw
 simp only[Bool.and_eq_true,decide_eq_true_eq,List.all_eq_true,List.mem_range,Bool.or_eq_true,bne_iff_ne]
 constructor
 ·rintro⟨h1,h2⟩
  refine⟨h1,fun d hd hdn=>?_⟩
  rcases h2 d hdn with h | h
  ·omega
  ·exact h
 ·rintro⟨h1,h2⟩
  refine⟨h1,fun d hdn=>?_⟩
  by_cases h:d<2
  ·exact .inl h
  ·exact .inr (h2 d (by omega) hdn)
theorem OP (a:Nat):∀ k,cnt a≤cnt (a+k)
 | 0=>Nat.le_refl _
 | k+1=>by
   have:=OP a k
   rw[← Nat.add_assoc,cnt]
   omega
theorem Tq (n d:Nat) (h2:2≤n) (hd:n<d*d) (h:∀ e,2≤e→e<d→n%e≠0):Hw n=true:=by
 rw[Gy]
 refine⟨h2,fun e e2 en he=>?_⟩
 rcases Nat.lt_or_ge e d with h3 | h3
 ·exact h e e2 h3 he
 ·have hq:=Nat.div_add_mod n e
  rw[he,Nat.add_zero] at hq
  generalize n/e=q at hq
  have hqd:q<d:=by
   apply Nat.lt_of_not_le
   intro h4
   have:=Nat.mul_le_mul h3 h4
   rw[hq] at this
   omega
  have hq2:2≤q:=by
   rcases Nat.lt_or_ge q 2 with h5 | h5
   ·have h6:q=0∨q=1:=by omega
    rcases h6 with h6 | h6 <;> rw[h6] at hq <;> omega
   ·exact h5
  refine h q hq2 hqd ?_
  rw[← hq]
  exact Nat.mul_mod_left _ _
theorem WW (i p:Nat) (w:World) (hp:Hw p=true) (hc:cnt p=i) (hp9:p≤10000) (hi:i≤999) :
    Calls Tryz.prog 137 #[.int .i64 (i:Int)] w fun e w'=>e=.returned (.int .i64 (p:Int))∧w=w':=by
 have hi9:(i:Int)≤999:=by omega
 have hp2:2≤p:=((Gy p).1 hp).1
 have HP:=Lh hp
 have HC:=Lh hc
 clear hp hc
 go_enter Tryz.func137,Tryz.ntmps137
 go_wp2_with fail
 refine Ou 0 rfl ?_
 go_wp2_with fail
 go_step3
 go_wp2_with fail
 go_loop [3,4] (fun s n=>∃ n':Nat,2≤n'∧n'≤p∧n=.int .i64 (n':Int)∧s=.int .i64 (cnt n':Int)) (fun _ n=>p-(intOf n).toNat)
 case atStart=>exact⟨2,by omega,hp2,rfl,rfl⟩
 case round =>
  obtain⟨n,hn2,hnp,rfl,rfl⟩:=hrel
  have hcn:cnt n≤i:=by
   have:=OP n (p-n)
   rw[show n+(p-n)=p by omega,HC.out] at this
   exact this
  have n9:(n:Int)≤10000:=by omega
  go_wp2_with fail
  go_loop [5] (fun d=>∃ d':Nat,2≤d'∧d'≤n+1∧d=.int .i64 (d':Int)∧∀ e,2≤e→e<d'→n%e≠0) (fun d=>n+1-(intOf d).toNat)
  case atStart=>exact⟨2,by omega,by omega,rfl,fun e h1 h2=>absurd h1 (by omega)⟩
  case round =>
   obtain⟨d,hd2,hdn,rfl,hno⟩:=hrel
   obtain⟨s,hs⟩:=exzb (d*d)
   have hs9:s≤10001*10001:=by rw[← hs];exact Nat.mul_le_mul (by omega) (by omega)
   have ps:(d:Int)*(d:Int)=(s:Int):=by rw[← hs,Int.natCast_mul]
   have s9:(s:Int)≤100020001:=by omega
   by_cases hle:s≤n
   ·have hdd:d<n:=by
      have:2*d≤d*d:=Nat.mul_le_mul_right _ hd2
      omega
    have q1:(s:Int)≤(n:Int):=by omega
    obtain⟨r,hr⟩:=exzb (n%d)
    have t1:(n:Int).tmod (d:Int)=(r:Int):=by rw[Int.tmod_eq_emod_of_nonneg (by omega),← hr];rfl
    have q2:¬ (d:Int)=0:=by omega
    have d9:(d:Int)≤10000:=by omega
    by_cases hr0:r=0
    ·subst hr0
     have hnP:Hw n=false:=by
      cases h:Hw n
      ·rfl
      ·exact absurd hr (((Gy n).1 h).2 d hd2 hdd)
     have hne:n<p:=by
      rcases Nat.lt_or_eq_of_le hnp with h | h
      ·exact h
      ·rw[h,HP.out] at hnP;exact absurd hnP (by decide)
     have HCN:=Lh (show cnt (n+1)=cnt n by rw[cnt,hnP];rfl)
     clear hno hs hr hnP
     go_wp2_with fail
     go_round
     case rel=>exact⟨n+1,by omega,by omega,congrArg (Value.int .i64) (by omega),congrArg (Value.int .i64) (by rw[HCN.out])⟩
     case measure=>simp[intOf];omega
    ·have q3:¬ (r:Int)=0:=by omega
     have q4:((r:Int) == 0)=false:=by simpa using q3
     have HNO:=Lh (show ∀ e,2≤e→e<d+1→n%e≠0 from fun e h1 h2=>by
      rcases Nat.lt_or_ge e d with h | h
      ·exact hno e h1 h
      ·rw[show e=d by omega,hr];exact hr0)
     clear hno hs hr
     go_wp2_with fail
     go_round
     case rel=>exact⟨d+1,by omega,by omega,congrArg (Value.int .i64) (by omega),HNO.out⟩
     case measure=>simp[intOf];omega
   ·have q1:¬ (s:Int)≤(n:Int):=by omega
    have hnP:=Tq n d hn2 (by omega) hno
    have HCN:=Lh (show cnt (n+1)=cnt n+1 by rw[cnt,hnP];rfl)
    clear hno hs
    by_cases hcp:cnt n=i
    ·have hnp':n=p:=by
       rcases Nat.lt_or_eq_of_le hnp with h | h
       ·have:=OP (n+1) (p-(n+1))
        rw[show n+1+(p-(n+1))=p by omega,HC.out,HCN.out] at this
        omega
       ·exact h
     have q2:(cnt n:Int)=(i:Int):=by omega
     have q3:((cnt n:Int) == (i:Int))=true:=by simpa using q2
     have HN:=Lh hnp'
     clear hcn hcp hnp' hnP
     generalize cnt n=c at *
     go_wp2_with fail
     go_ret
     exact⟨BE (by rw[HN.out]),rfl⟩
    ·have q2:¬ (cnt n:Int)=(i:Int):=by omega
     have q3:((cnt n:Int) == (i:Int))=false:=by simpa using q2
     have hne:n<p:=by
      rcases Nat.lt_or_eq_of_le hnp with h | h
      ·exact h
      ·rw[h] at hcp;exact absurd HC.out hcp
     clear hnP
     generalize hcc:cnt n=c at *
     have HCC:=Lh hcc
     clear hcc
     go_wp2_with fail
     go_round
     case rel=>exact⟨n+1,by omega,by omega,congrArg (Value.int .i64) (by omega),congrArg (Value.int .i64) (by rw[HCN.out];omega)⟩
     case measure=>simp[intOf];omega
theorem QM (n:Nat) (w:World) (h2:2≤n) (h9:n≤10000) :
    Calls Tryz.prog 170 #[.int .i64 (n:Int),.int .i64 2] w fun e w'=>e=.returned (.bool (!Hw n))∧w=w':=by
 have n9:(n:Int)≤10000:=by omega
 go_enter Tryz.func170,Tryz.ntmps170
 go_wp2_with fail
 go_loop [5] (fun d=>∃ d':Nat,2≤d'∧d'≤n∧d=.int .i64 (d':Int)∧∀ e,2≤e→e<d'→n%e≠0) (fun d=>n-(intOf d).toNat)
 case atStart=>exact⟨2,by omega,by omega,rfl,fun e h1 h2=>absurd h1 (by omega)⟩
 case round =>
  obtain⟨d,hd2,hdn,rfl,hno⟩:=hrel
  by_cases hlt:d<n
  ·have p1:(d:Int)<(n:Int):=by omega
   obtain⟨r,hr⟩:=exzb (n%d)
   have t1:(n:Int).tmod (d:Int)=(r:Int):=by rw[Int.tmod_eq_emod_of_nonneg (by omega),← hr];rfl
   have q2:¬ (d:Int)=0:=by omega
   by_cases hr0:r=0
   ·subst hr0
    have HP:=Lh (show Hw n=false by
     cases h:Hw n
     ·rfl
     ·exact absurd hr (((Gy n).1 h).2 d hd2 hlt))
    clear hno hr
    go_wp2_with fail
    go_ret
    exact⟨EM (by rw[HP.out];rfl),rfl⟩
   ·have q3:¬ (r:Int)=0:=by omega
    have q4:((r:Int) == 0)=false:=by simpa using q3
    have HNO:=Lh (show ∀ e,2≤e→e<d+1→n%e≠0 from fun e h1 h2=>by
     rcases Nat.lt_or_ge e d with h | h
     ·exact hno e h1 h
     ·rw[show e=d by omega,hr];exact hr0)
    clear hno hr
    go_wp2_with fail
    go_round
    case rel=>exact⟨d+1,by omega,by omega,congrArg (Value.int .i64) (by omega),HNO.out⟩
    case measure=>simp[intOf];omega
  ·obtain rfl:d=n:=by omega
   have p1:¬ (d:Int)<(d:Int):=by omega
   have HP:=Lh (show Hw d=true from (Gy d).2 ⟨h2,fun e h1 h3=>hno e h1 h3⟩)
   clear hno
   go_wp2_with fail
   go_ret
   exact⟨EM (by rw[HP.out];rfl),rfl⟩
theorem QT {n p:Nat} (h:cnt n≤cnt p) (hp:Hw p=true) (_:Hw n=true):n≤p:=by
 apply Nat.le_of_not_lt
 intro hlt
 have h1:=OP (p+1) (n-(p+1))
 rw[show p+1+(n-(p+1))=n by omega,cnt,hp] at h1
 simp at h1
 omega
theorem RU (i p:Nat) (w:World) (hp:Hw p=true) (hc:cnt p=i) (hp9:p≤9000) (hi:i≤999) :
    Calls Tryz.prog 123 #[.int .i64 (i:Int)] w fun e w'=>e=.returned (.int .i64 (p:Int))∧w=w':=by
 have hi9:(i:Int)≤999:=by omega
 have HP:=Lh hp
 have HC:=Lh hc
 clear hp hc
 go_enter Tryz.func123,Tryz.ntmps123
 go_wp2_with fail
 go_loop [3,4] (fun n k=>∃ n' k':Nat,k'≤i∧n=.int .i64 (n':Int)∧k=.int .i64 (k':Int)∧Hw n'=true∧cnt n'=k') (fun _ k=>i-(intOf k).toNat)
 case atStart=>exact⟨2,0,by omega,rfl,rfl,by decide +kernel,by decide +kernel⟩
 case round =>
  obtain⟨n,k,hk,rfl,rfl,hn,hcn⟩:=hrel
  have hnp:n≤p:=QT (by rw[hcn,HC.out];exact hk) HP.out hn
  have n9:(n:Int)≤9000:=by omega
  by_cases hlt:k<i
  ·have p1:(k:Int)<(i:Int):=by omega
   have hlp:n+1≤p:=by
    rcases Nat.lt_or_eq_of_le hnp with h | h
    ·exact h
    ·rw[h,HC.out] at hcn;omega
   have HN1:=Lh (show cnt (n+1)=k+1 by rw[cnt,hn,hcn];rfl)
   have hn2:2≤n:=((Gy n).1 hn).1
   clear hn hcn
   go_wp2_with fail
   go_loop [3] (fun m=>∃ m':Nat,n+1≤m'∧m'≤p∧m=.int .i64 (m':Int)∧cnt m'=k+1) (fun m=>p-(intOf m).toNat)
   case atStart=>exact⟨n+1,by omega,hlp,congrArg (Value.int .i64) (by omega),HN1.out⟩
   case round =>
    obtain⟨m,hm1,hm2,rfl,hcm⟩:=hrel
    have m9:(m:Int)≤9000:=by omega
    have DA:=fun w=>QM m w (by omega) (by omega)
    cases hpm:Hw m
    ·rw[hpm] at DA
     have hmp:m<p:=by
      rcases Nat.lt_or_eq_of_le hm2 with h | h
      ·exact h
      ·rw[h,HP.out] at hpm;exact absurd hpm (by decide)
     have HM:=Lh (show cnt (m+1)=k+1 by rw[cnt,hpm,hcm];rfl)
     clear hpm hcm
     go_wp2_with (go_at_call 170;refine (DA _).mono ?_;rintro e w' ⟨rfl,rfl⟩)
     go_round
     case rel=>exact⟨m+1,by omega,by omega,congrArg (Value.int .i64) (by omega),HM.out⟩
     case measure=>simp[intOf];omega
    ·rw[hpm] at DA
     have HM:=Lh hpm
     have HCM:=Lh hcm
     clear hpm hcm
     go_wp2_with (go_at_call 170;refine (DA _).mono ?_;rintro e w' ⟨rfl,rfl⟩)
     go_round
     case rel=>exact⟨m,k+1,by omega,rfl,congrArg (Value.int .i64) (by omega),HM.out,HCM.out⟩
     case measure=>simp[intOf];omega
  ·obtain rfl:k=i:=by omega
   have p1:¬ (k:Int)<(k:Int):=by omega
   have HE:=Lh (show n=p from Nat.le_antisymm hnp (QT (by rw[hcn,HC.out];exact Nat.le_refl _) hn HP.out))
   clear hn hcn
   go_wp2_with fail
   go_ret
   exact⟨BE (by rw[HE.out]),rfl⟩
def Bn:List Nat:=[2,3,5,7,11,13,17,19,23,29,31,37,41,43,47,53,59,61,67,71,73,79,83,89,97,101,103,107,109,113,127,131,137,139,149,151,157,163,167,173,179,181,191,193,197,199,211,223,227,229,233,239,241,251,257,263,269,271,277,281,283,293,307,311,313,317,331,337,347,349,353,359,367,373,379,383,389,397,401,409]
def Fa:List Nat:=[23241441160490167842,26604808713878332877,31543488660544240431,35287351959220771772,41025191555757552952,43374469216020582425,47431773444313272219,49223322299838333208,52460086356995146306,56674242196778545086,57948244932766773900,61468643694135456994,63608380943893236079,64626287408284341937,66571091106846937653,69291241975837173396,71813108563482594002,72615556083564357091,74922338351982630325,76384605279477341285,77095200552867529333,79152035218479047811,80466001307761769428,82360010132597855157,84757271453788200875,85906662539289440784,86470001012957192511,87575168524888248036,88117443448470540226,89182409882623190821,92723033081372705391,93686458245878541936,95095488024300105724,95556006044611561766,97794660939065469677,98230277650290947039,99514478923103560670,100766364611844223656,101583977345534766822,102786266195516601659,103961068102722061156,104346826991781163009,106234157551817627537,106603670640207904304,107335108066752287256,107697117917222381840,109819772810290077738,111863398698143437240,112528278492720320712,112857792170093030227,113511107980111571865,114477206417490790568,114795642568024087139,116361942610802215627,117281838038729876339,118187525164200278179,119079540232616391420,119373928427484032864,120248493880617511794,120824543361758411244,121110519679094562344,122520547622920568297,124441674862916172053,124979807718728684331,125247145020423037340,125778422408467759623,127603441353585912606,128369846764518166904,129627222056361226170,129875788766833580198,130370087684295691694,131104582549941012251,132071287192121802116,132787134709014930579,133495346155087314620,133963344184962190668,134659270149180113590,135576127461610847786,136029942151059536620,136928597060811708439]
def Eb:List Nat:=[26087635650665564424,31950697969885030203,41248173712355948587,48805497317890012913,61180928696206656209,66510681623121259551,76057874264641092971,80407493254657745273]
theorem Ix:(List.range 80).all (fun t=>Hw (Bn.getD t 0) && decide (cnt (Bn.getD t 0)=t) && decide (1≤Bn.getD t 0) && decide (Bn.getD t 0<65536))=true:=by decide +kernel
theorem Lb:(List.range 80).all (fun t=>decide (Fa.getD t 0^3≤Bn.getD t 0*65536^12) && decide (Bn.getD t 0*65536^12<(Fa.getD t 0+1)^3) && decide (Fa.getD t 0%18446744073709551616=Bf.getD t 0))=true:=by decide +kernel
theorem He:(List.range 8).all (fun t=>decide (Eb.getD t 0^2≤Bn.getD t 0*65536^8) && decide (Bn.getD t 0*65536^8<(Eb.getD t 0+1)^2) && decide (Eb.getD t 0%18446744073709551616=Bt.getD t 0))=true:=by decide +kernel
theorem Qb {x y k N:Nat} (h1:x^k≤N) (h2:N<(x+1)^k) (h3:y^k≤N) (h4:N<(y+1)^k):x=y:=by
 have key:∀ a b:Nat,a^k≤N→N<(b+1)^k→a≤b:=fun a b ha hb=>by
  rcases Nat.lt_or_ge b a with h | h
  ·exact absurd (Nat.lt_of_lt_of_le hb (Nat.le_trans (Nat.pow_le_pow_left (show b+1≤a from h) k) ha)) (Nat.lt_irrefl _)
  ·exact h
 exact Nat.le_antisymm (key x y h1 h4) (key y x h3 h2)
theorem wd0 (x:Nat):wd x 0=x%18446744073709551616:=by
 unfold wd B64
 simp
theorem NH (t:Nat) (ht:t<80) (w:World):Calls Tryz.prog 123 #[.int .i64 (t:Int)] w fun e w'=>e=.returned (.int .i64 (Bn.getD t 0:Int))∧w=w':=by
 have h:=List.all_eq_true.1 Ix t (List.mem_range.2 ht)
 simp only[Bool.and_eq_true,decide_eq_true_eq] at h
 refine RU t (Bn.getD t 0) w h.1.1.1 h.1.1.2 ?_ (by omega)
 have:∀ x ∈ Bn,x≤9000:=by decide +kernel
 have ht2:t<Bn.length:=ht
 rw[List.getD_eq_getElem?_getD,List.getElem?_eq_getElem ht2]
 exact this _ (List.getElem_mem ht2)
theorem ap (t:Nat) (ht:t<80) (w:World):Calls Tryz.prog 122 #[.int .i64 (Bn.getD t 0:Int),.int .i64 3] w fun e w'=>e=.returned (.int .u64 (Fa.getD t 0%18446744073709551616:Nat))∧Below w.heap.size w w':=by
 have h:=List.all_eq_true.1 Ix t (List.mem_range.2 ht)
 have c:=List.all_eq_true.1 Lb t (List.mem_range.2 ht)
 simp only[Bool.and_eq_true,decide_eq_true_eq] at h c
 refine (Ra (Bn.getD t 0) 3 w h.1.2 h.2 (.inr rfl)).mono ?_
 rintro e w' ⟨x,_,h1,h2,rfl,hb⟩
 have:x=Fa.getD t 0:=Qb h1 h2 c.1.1 c.1.2
 rw[this,wd0]
 exact⟨rfl,hb⟩
theorem TE (t:Nat) (ht:t<8) (w:World):Calls Tryz.prog 122 #[.int .i64 (Bn.getD t 0:Int),.int .i64 2] w fun e w'=>e=.returned (.int .u64 (Eb.getD t 0%18446744073709551616:Nat))∧Below w.heap.size w w':=by
 have h:=List.all_eq_true.1 Ix t (List.mem_range.2 (by omega))
 have c:=List.all_eq_true.1 He t (List.mem_range.2 ht)
 simp only[Bool.and_eq_true,decide_eq_true_eq] at h c
 refine (Ra (Bn.getD t 0) 2 w h.1.2 h.2 (.inl rfl)).mono ?_
 rintro e w' ⟨x,_,h1,h2,rfl,hb⟩
 have:x=Eb.getD t 0:=Qb h1 h2 c.1.1 c.1.2
 rw[this,wd0]
 exact⟨rfl,hb⟩
theorem JQ (l:List Nat) (k:Nat) (h:k<l.length):l.take (k+1)=l.take k++[l.getD k 0]:=by
 rw[List.take_succ_eq_append_getElem h,List.getD_eq_getElem?_getD,List.getElem?_eq_getElem h]
 rfl
theorem Jz {w w':World} {base:Nat} {e:TypeId} {size:Nat} {v:Value} {n:Nat} {xs:List Value} (h:w.ownsRow base e size v n xs) (hb:Below w.heap.size w w'):w'.ownsRow base e size v n xs:=by
 obtain⟨h1,h2⟩:=h
 refine⟨h1,?_⟩
 rcases h2 with h2 | ⟨g,cap,cur,hv,hg,hh,r⟩
 ·exact Or.inl h2
 ·refine Or.inr ⟨g,cap,cur,hv,hg,?_,r⟩
  have hlt:g<w.heap.size:=by
   apply Nat.lt_of_not_le
   intro hle
   rw[Array.getElem?_eq_none hle] at hh
   simp at hh
  rw[hb.block g hlt];exact hh
theorem WS (w:World):Calls Tryz.prog 61 #[] w fun e w'=>∃ v,e=.returned v∧w'.ownsRow w.heap.size 22 1 v 80 (Fk Bf)∧Below w.heap.size w w':=by
 obtain⟨i0,hi,hz0,hz1,hz2⟩:=info_parts Tryz.sinfo_u64
 go_enter Tryz.func61,Tryz.ntmps61
 go_wp2_with fail
 go_loopw [1,2] (fun v i wr=>∃ k:Nat,k≤80∧i=.int .i64 (k:Int)∧wr.ownsRow w.heap.size 22 1 v k (Fk (Bf.take k))∧Below w.heap.size w wr) (fun _ i _=>80-(Go.RowKit.intOf i).toNat)
 case atStart=>exact⟨0,by omega,rfl,World.ownsRow_nil _ _ _ _,Below.refl _ _⟩
 case round =>
  obtain⟨k,hk,rfl,hown,hbe⟩:=hrel
  by_cases hlt:k<80
  ·have p1:(k:Int)<80:=by omega
   have KP:=Lh (fun w=>NH k (by omega) w)
   have KR:=Lh (fun w=>ap k hlt w)
   have c:=List.all_eq_true.1 Lb k (List.mem_range.2 hlt)
   simp only[Bool.and_eq_true,decide_eq_true_eq] at c
   have hkey:=c.2
   have HT:=Lh (JQ Bf k hlt)
   obtain⟨p,hp⟩:=exzb (Bn.getD k 0)
   obtain⟨r,hr⟩:=exzb (Fa.getD k 0%18446744073709551616)
   obtain⟨q,hq⟩:=exzb (Bf.getD k 0)
   rw[hr,hq] at hkey
   rw[hp] at KP KR
   rw[hr] at KR
   rw[hq] at HT
   have sz:=hbe.size
   subst hkey
   have hrb:r<18446744073709551616:=by rw[← hr];exact Nat.mod_lt _ (by decide)
   clear c hp hr hq
   go_wp2_with fail
   refine (KP.out _).mono ?_
   rintro e w1 ⟨rfl,rfl⟩
   go_wp2_with fail
   refine (KR.out _).mono ?_
   rintro e w2 ⟨rfl,hb2⟩
   have hown2:=Jz hown hb2
   have hbe2:=hbe.trans (hb2.mono sz)
   have sz2:=hbe2.size
   clear hown hbe hb2 sz
   go_wp2_with (at_builtin;refine wpList_append_own _ (by rfl) (.tmp 7) (.tmp 11) 95 (by rfl) w.heap.size 22 i0 (.int .u64 0) 1 8 Tryz.underlying95 hi hz0 hz1 hz2 rfl (by decide) _ k _ (by simp[Act.eval];rfl) (by exact hown2.alloc _) ⟨w2.heap.size,0,none⟩ 1 1 [.int .u64 (r:Int)] (by simp[Act.eval]) rfl (by exact BK w2 #[_] _) (by simp[Value.oneCell']) (by unfold maxLen;omega) (by omega) (by simp;omega) ?_;intro v3 w3 hown3 hgrow3 _)
   go_roundw
   case rel =>
    refine⟨k+1,by omega,congrArg (Value.int .i64) (by omega),?_,(Al hbe2 _).grown hgrow3 (by simp;omega) (fun j hj=>(hown2.lt j hj).1)⟩
    rw[HT.out,GG]
    exact hown3
   case measure =>
    simp[Go.RowKit.intOf]
    omega
  ·obtain rfl:k=80:=by omega
   have p1:¬ (80:Int)<80:=by omega
   rw[show Bf.take 80=Bf from rfl] at hown
   have HO:=Lh hown
   have HB:=Lh hbe
   clear hown hbe
   go_wp2_with fail
   go_ret
   exact⟨_,rfl,HO.out,HB.out⟩
theorem RP (w:World):Calls Tryz.prog 60 #[] w fun e w'=>∃ v,e=.returned v∧w'.ownsRow w.heap.size 22 1 v 8 (Fk Bt)∧Below w.heap.size w w':=by
 obtain⟨i0,hi,hz0,hz1,hz2⟩:=info_parts Tryz.sinfo_u64
 go_enter Tryz.func60,Tryz.ntmps60
 go_wp2_with fail
 go_loopw [1,2] (fun v i wr=>∃ k:Nat,k≤8∧i=.int .i64 (k:Int)∧wr.ownsRow w.heap.size 22 1 v k (Fk (Bt.take k))∧Below w.heap.size w wr) (fun _ i _=>8-(Go.RowKit.intOf i).toNat)
 case atStart=>exact⟨0,by omega,rfl,World.ownsRow_nil _ _ _ _,Below.refl _ _⟩
 case round =>
  obtain⟨k,hk,rfl,hown,hbe⟩:=hrel
  by_cases hlt:k<8
  ·have p1:(k:Int)<8:=by omega
   have KP:=Lh (fun w=>NH k (by omega) w)
   have KR:=Lh (fun w=>TE k hlt w)
   have c:=List.all_eq_true.1 He k (List.mem_range.2 hlt)
   simp only[Bool.and_eq_true,decide_eq_true_eq] at c
   have hkey:=c.2
   have HT:=Lh (JQ Bt k hlt)
   obtain⟨p,hp⟩:=exzb (Bn.getD k 0)
   obtain⟨r,hr⟩:=exzb (Eb.getD k 0%18446744073709551616)
   obtain⟨q,hq⟩:=exzb (Bt.getD k 0)
   rw[hr,hq] at hkey
   rw[hp] at KP KR
   rw[hr] at KR
   rw[hq] at HT
   have sz:=hbe.size
   subst hkey
   have hrb:r<18446744073709551616:=by rw[← hr];exact Nat.mod_lt _ (by decide)
   clear c hp hr hq
   go_wp2_with fail
   refine (KP.out _).mono ?_
   rintro e w1 ⟨rfl,rfl⟩
   go_wp2_with fail
   refine (KR.out _).mono ?_
   rintro e w2 ⟨rfl,hb2⟩
   have hown2:=Jz hown hb2
   have hbe2:=hbe.trans (hb2.mono sz)
   have sz2:=hbe2.size
   clear hown hbe hb2 sz
   go_wp2_with (at_builtin;refine wpList_append_own _ (by rfl) (.tmp 7) (.tmp 11) 95 (by rfl) w.heap.size 22 i0 (.int .u64 0) 1 8 Tryz.underlying95 hi hz0 hz1 hz2 rfl (by decide) _ k _ (by simp[Act.eval];rfl) (by exact hown2.alloc _) ⟨w2.heap.size,0,none⟩ 1 1 [.int .u64 (r:Int)] (by simp[Act.eval]) rfl (by exact BK w2 #[_] _) (by simp[Value.oneCell']) (by unfold maxLen;omega) (by omega) (by simp;omega) ?_;intro v3 w3 hown3 hgrow3 _)
   go_roundw
   case rel =>
    refine⟨k+1,by omega,congrArg (Value.int .i64) (by omega),?_,(Al hbe2 _).grown hgrow3 (by simp;omega) (fun j hj=>(hown2.lt j hj).1)⟩
    rw[HT.out,GG]
    exact hown3
   case measure =>
    simp[Go.RowKit.intOf]
    omega
  ·obtain rfl:k=8:=by omega
   have p1:¬ (8:Int)<8:=by omega
   rw[show Bt.take 8=Bt from rfl] at hown
   have HO:=Lh hown
   have HB:=Lh hbe
   clear hown hbe
   go_wp2_with fail
   go_ret
   exact⟨_,rfl,HO.out,HB.out⟩
theorem O1 {r:List UInt8} {n:Nat}:Value.string ((⟨r.toArray⟩:ByteArray).extract 0 n)=Cd (r.take n):=by
 unfold Cd
 congr 1
 apply ByteArray.ext
 rw[ByteArray.data_extract]
 apply Array.ext'
 rw[Array.toList_extract,List.extract_eq_take_drop]
 simp
theorem a8 (size:Nat) (L:List UInt8) (w:World) (h1:1≤size) (h2:size≤256) (hL:L.length≤10000) :
    Calls Tryz.prog 119 #[Cd L,.int .i64 (size:Int)] w fun e w'=>∃ v bl q,e=.returned (.tuple #[v,Cd q])∧w'.ownsRow w.heap.size 9 1 v bl.length (bl.map Cd)∧DY size L bl q∧Below w.heap.size w w':=by
 obtain⟨i0,hi,hz0,hz1,hz2⟩:=info_parts Tryz.info_str
 go_enter Tryz.func119,Tryz.ntmps119
 go_wp2_with fail
 go_loopw [0,6] (fun x v W=>∃ bl:List (List UInt8),∃ r:List UInt8,x=Cd r∧L=bl.flatten++r∧(∀ b ∈ bl,b.length=size)∧W.ownsRow w.heap.size 9 1 v bl.length (bl.map Cd)∧Below w.heap.size w W) (fun x _ _=>match x with | .string S=>S.size | _=>0)
 case atStart=>exact⟨[],L,rfl,rfl,by simp,World.ownsRow_nil _ _ _ _,Below.refl _ _⟩
 case round =>
  obtain⟨bl,r,rfl,hQ,hall,hown,hbe⟩:=hrel
  have hm:=GI (by omega) hall
  have hl:=congrArg List.length hQ
  rw[List.length_append] at hl
  obtain⟨R,hR⟩:∃ R:ByteArray,R=⟨r.toArray⟩:=⟨_,rfl⟩
  have hRz:R.size=r.length:=by rw[hR];rfl
  rw[show Cd r=.string R by rw[hR];rfl]
  have HQ:=Lh hQ
  have HA:=Lh hall
  have HR:=Lh hR
  have HB:=Lh hbe
  clear hQ hall hR
  have hs1:(1:Int)≤(size:Int):=by omega
  have hs2:(size:Int)≤256:=by omega
  by_cases hlt:size≤r.length
  ·have hlt':(size:Int)≤(r.length:Int):=by omega
   have HW:=Lh hbe.size
   have HOL:=Lh hown.lt
   have hws:=hbe.size
   clear hl
   have hm2:bl.length≤10000:=by have h:=congrArg List.length HQ.out;rw[List.length_append] at h;omega
   clear hbe hm
   go_wp2_with (at_builtin;refine wpList_append_own _ rfl (.tmp 11) (.tmp 15) 74 rfl w.heap.size 9 i0 (.string ByteArray.empty) 1 16 Tryz.underlying74 hi hz0 hz1 hz2 rfl (by decide) u6 bl.length _ (by simp[Act.eval]) (by exact hown.alloc _) ⟨wr.heap.size,0,none⟩ 1 1 [.string (R.extract 0 size)] (by simp[Act.eval]) rfl (by exact BK wr #[_] _) (by simp[Value.oneCell']) (by unfold maxLen;omega) (by omega) (by show _≤(wr.heap.push _).size;rw[Array.size_push];omega) ?_;intro v6 w6 hown6 hgr6 _)
   have e1:Value.string (R.extract 0 size)=Cd (r.take size):=by rw[HR.out,O1]
   have e2:Value.string (R.extract size r.length)=Cd (r.drop size):=by rw[HR.out,Kf]
   have hb6:Below w.heap.size w w6:=(HB.out.alloc hws _).grown hgr6 (by show _≤(wr.heap.push _).size;rw[Array.size_push];omega) (fun x hx=>(HOL.out x hx).1)
   rw[e1] at hown6
   have hown7:w6.ownsRow w.heap.size 9 1 v6 (bl++[r.take size]).length ((bl++[r.take size]).map Cd):=by
    rw[List.length_append,List.map_append,List.map_cons,List.map_nil]
    exact hown6
   have hd:=List.take_append_drop size r
   have hdl:(r.drop size).length=r.length-size:=List.length_drop
   go_roundw
   case rel =>
    refine⟨bl++[r.take size],r.drop size,e2,by rw[HQ.out,List.flatten_append];simp[hd],?_,hown7,hb6⟩
    intro x hx
    rcases List.mem_append.1 hx with hx | hx
    ·exact HA.out x hx
    ·have e:x=r.take size:=by simpa using hx
     rw[e,List.length_take];omega
   case measure =>
    rw[e2]
    show (⟨(r.drop size).toArray⟩:ByteArray).size<R.size
    rw[hRz,OX]
    omega
  ·have hlt':(r.length:Int)<(size:Int):=by omega
   have HO:=Lh hown
   clear hbe hm hl hown
   go_wp2_with fail
   go_ret2
   refine⟨u6,bl,r,?_,HO.out,⟨HQ.out,HA.out,by omega⟩,HB.out⟩
   rw[HR.out]
   rfl
end Go.Proofs.YtnaldciakclccaaGreat
