/- Lemmas of this proof. -/
import Derived.Lib.QuietBelow
import Derived.Test.YtnaldciakclccaaGreatEv04
namespace Go.Proofs.YtnaldciakclccaaGreat
set_option maxRecDepth 20000
set_option maxHeartbeats 8000000
set_option linter.unusedSimpArgs false
set_option linter.unusedVariables false
open Go.RowKit
structure IsNums (w:World) (a:Option Addr) (len:Nat) (ns:List Nat):Prop where
 ln:ns.length=len
 lt:∀ n ∈ ns,n<PN
 at_:0<len→∃ b,a=some ⟨b,0,none⟩∧b<w.heap.size∧∀ i k,i<len→k<4→w.cell? ⟨b,i*4+k,none⟩=some (.int .u64 (wd (ns.getD i 0) k:Int))
theorem IsNums.calls {w w':World} {a:Option Addr} {len N:Nat} {ns:List Nat} (hb:Below N w w') (h:IsNums w a len ns) (hN:w.heap.size≤N):IsNums w' a len ns :=
 ⟨h.ln,h.lt,fun h0=>by
  obtain⟨b,rfl,hlt,hc⟩:=h.at_ h0
  exact⟨b,rfl,Nat.lt_of_lt_of_le hlt hb.size,fun i k hi hk=>(hb.cell (p:=⟨b,i*4+k,none⟩) (Nat.lt_of_lt_of_le hlt hN)).trans (hc i k hi hk)⟩⟩
theorem IsNums.below {w w':World} {a:Option Addr} {len:Nat} {ns:List Nat} (h:IsNums w a len ns) (hb:Below w.heap.size w w'):IsNums w' a len ns:=h.calls hb (Nat.le_refl _)
theorem IsNums.far {w:World} {a:Option Addr} {c len:Nat} {ns:List Nat} {v0 v1 v2 v3:Value} (h:IsNums w a len ns) (hne:∀ b,a=some ⟨b,0,none⟩→b≠c):IsNums ((((w.setCell ⟨c,0,none⟩ v0).setCell ⟨c,1,none⟩ v1).setCell ⟨c,2,none⟩ v2).setCell ⟨c,3,none⟩ v3) a len ns :=
 ⟨h.ln,h.lt,fun h0=>by
  obtain⟨b,e,hlt,hc⟩:=h.at_ h0
  refine⟨b,e,by simp only[Hz];exact hlt,fun i k hi hk=>?_⟩
  rw[← hc i k hi hk]
  simp only[World.cell?,FU (hne b e)]⟩
theorem MK {ns:List Nat} (h:∀ n ∈ ns,n<PN) (i:Nat):ns.getD i 0<PN:=by
 by_cases hi:i<ns.length
 ·rw[List.getD_eq_getElem?_getD,List.getElem?_eq_getElem hi]
  exact h _ (List.getElem_mem hi)
 ·rw[List.getD_eq_getElem?_getD,List.getElem?_eq_none (by omega)]
  exact Au
def Ob (ns:List Nat):Nat→Nat
 | 0=>0
 | k+1=>(Ob ns k+ns.getD k 0)%PN
theorem dS (ns:List Nat):∀ k,Ob ns k<PN
 | 0=>Au
 | _+1=>Nat.mod_lt _ Au
def A0 (t u:TypeId) (w:World):World:=(w.alloc (.cells #[.int .u64 0,.int .u64 0,.int .u64 0,.int .u64 0] t)).alloc (.cells #[.int .u64 0,.int .u64 0,.int .u64 0,.int .u64 0] u)
theorem gV (t u:TypeId) (w:World):IsA (A0 t u w) w.heap.size 0 t∧IsA (A0 t u w) (w.heap.size+1) 0 u∧(A0 t u w).heap.size=w.heap.size+2∧Below w.heap.size w (A0 t u w) :=
 ⟨CE (AP (Aj w _) _),CE (Cy w _ _),by unfold A0;simp,Al (Al (Below.refl _ _) _) _⟩
theorem Zz (a b:Nat) (ha:a<PN) (hb:b<PN):BS a b%PN=(a+b)%PN:=by
 unfold BS
 rw[Nat.mod_eq_of_lt (show a+b<B64^4 by have:=eC;omega)]
theorem YL (a:Option Addr) (len cap:Nat) (ns:List Nat) (w:World) (hl:len≤100) (hn:IsNums w a len ns) :
    Calls Tryz.prog 77 #[.slice a len cap] w fun e w'=>e=.returned (Aa (Ob ns len))∧Below w.heap.size w w':=by
 have HA0:Hid (∀ b,a=some ⟨b,0,none⟩→0<len→b<w.heap.size):=fun b e h0=>by
  obtain⟨b',e',hlt,_⟩:=hn.at_ h0
  rw[e] at e'
  cases e'
  exact hlt
 obtain⟨xr,xs,xz,xB⟩:=gV 36 36 w
 have HN:=Lh (hn.below xB)
 clear hn
 go_enter Tryz.func77,Tryz.ntmps77
 go_wp2_with fail
 change Code.wp _ _ _ _ (A0 36 36 w)
 generalize A0 36 36 w=X at *
 have HX:=Lh (And.intro xr (And.intro xs xB))
 clear xr xs xB xz
 go_loopw [10] (fun i wr=>∃ k:Nat,k≤len∧i=.int .i64 (k:Int)∧IsA wr (w.heap.size+1) (Ob ns k) 36∧IsA wr w.heap.size 0 36∧IsNums wr a len ns∧Below w.heap.size w wr) (fun i _=>len-(Go.RowKit.intOf i).toNat)
 case atStart=>exact⟨0,by omega,rfl,HX.out.2.1,HX.out.1,HN.out,HX.out.2.2⟩
 case round =>
  obtain⟨k,hk,rfl,rs,rr,hn,hbe⟩:=hrel
  clear HX HN
  have hs:=hbe.size
  have hls:=AU rs
  by_cases hlt:k<len
  ·have p1:(k:Int)<(len:Int):=by omega
   obtain⟨b,rfl,hb,hc⟩:=hn.at_ (by omega)
   have hne:=HA0.out b rfl (by omega)
   have c0:wr.cell? ⟨b,k*4,none⟩=_:=hc k 0 hlt (by omega)
   have c1:=hc k 1 hlt (by omega)
   have c2:=hc k 2 hlt (by omega)
   have c3:=hc k 3 hlt (by omega)
   have hstep:Ob ns (k+1)=(Ob ns k+ns.getD k 0)%PN:=rfl
   have hxP:=MK hn.lt k
   have hsP:=dS ns k
   obtain⟨S,hS⟩:=exzb (Ob ns k)
   obtain⟨Y,hY⟩:=exzb (ns.getD k 0)
   rw[hS] at rs hsP hstep
   rw[hY] at c0 c1 c2 c3 hxP hstep
   have KA:=Lh (fun w=>IB S Y w (Bv hsP) (Bv hxP))
   have KM:=Lh (fun w=>RF (BS S Y) w (Nat.mod_lt _ (by decide)))
   rw[Zz S Y hsP hxP] at KM
   obtain⟨R,hR⟩:=exzb ((S+Y)%PN)
   obtain⟨A,hAA⟩:=exzb (BS S Y)
   obtain⟨C,hC⟩:=exzb (DV S Y)
   rw[hAA,hC] at KA
   rw[hAA,hR] at KM
   rw[hR] at hstep
   have HS:=Lh hstep
   simp only[AL] at KA KM
   obtain⟨⟨s0,s1,s2,s3⟩,_⟩:=Aq rs
   have RS:=Lh (rs.alloc (.cells #[.int .u64 (wd Y 0:Int),.int .u64 (wd Y 1:Int),.int .u64 (wd Y 2:Int),.int .u64 (wd Y 3:Int)] 36))
   have RR:=Lh (rr.alloc (.cells #[.int .u64 (wd Y 0:Int),.int .u64 (wd Y 1:Int),.int .u64 (wd Y 2:Int),.int .u64 (wd Y 3:Int)] 36))
   have RB:=Lh (Bi hbe (.cells #[.int .u64 (wd Y 0:Int),.int .u64 (wd Y 1:Int),.int .u64 (wd Y 2:Int),.int .u64 (wd Y 3:Int)] 36))
   have RN:=Lh (hn.below ((Below.refl wr.heap.size wr).alloc (Nat.le_refl _) (.cells #[.int .u64 (wd Y 0:Int),.int .u64 (wd Y 1:Int),.int .u64 (wd Y 2:Int),.int .u64 (wd Y 3:Int)] 36)))
   obtain⟨⟨u0,u1,u2,u3⟩,_⟩:=Aq RS.out
   clear hc hS hY hR hAA hC hstep hxP hsP rs rr hbe hn
   go_wp2_with fail
   refine (KA.out _).mono ?_
   rintro e w2 ⟨rfl,hb2⟩
   have hs2:=hb2.size
   have hs2':wr.heap.size+1≤w2.heap.size:=by rw[Ae] at hs2;exact hs2
   have RS2:=Lh ((RS.out.keep hb2).alloc (.cells #[.int .u64 (wd A 0:Int),.int .u64 (wd A 1:Int),.int .u64 (wd A 2:Int),.int .u64 (wd A 3:Int)] 24))
   have RR2:=Lh ((RR.out.keep hb2).alloc (.cells #[.int .u64 (wd A 0:Int),.int .u64 (wd A 1:Int),.int .u64 (wd A 2:Int),.int .u64 (wd A 3:Int)] 24))
   have RB2:=Lh (Bi (B0 hb2 RB.out (by rw[Ae];omega)) (.cells #[.int .u64 (wd A 0:Int),.int .u64 (wd A 1:Int),.int .u64 (wd A 2:Int),.int .u64 (wd A 3:Int)] 24))
   have RN2:=Lh ((RN.out.below hb2).below ((Below.refl w2.heap.size w2).alloc (Nat.le_refl _) (.cells #[.int .u64 (wd A 0:Int),.int .u64 (wd A 1:Int),.int .u64 (wd A 2:Int),.int .u64 (wd A 3:Int)] 24)))
   clear RS RR RB RN hb2 hs2 u0 u1 u2 u3 s0 s1 s2 s3 KA c0 c1 c2 c3
   go_wp2_with fail
   refine (KM.out _).mono ?_
   rintro e w3 ⟨rfl,hb3⟩
   have hs3:=hb3.size
   have hs3':w2.heap.size+1≤w3.heap.size:=by rw[Ae] at hs3;exact hs3
   have rs3:=RS2.out.keep hb3
   obtain⟨⟨d0,d1,d2,d3⟩,e0,e1,e2,e3⟩:=Aq rs3
   have RS3:=Lh (AN (n:=R) rs3)
   have RR3:=Lh ((RR2.out.keep hb3).far (c:=w.heap.size+1) (v0:=.int .u64 (wd R 0:Int)) (v1:=.int .u64 (wd R 1:Int)) (v2:=.int .u64 (wd R 2:Int)) (v3:=.int .u64 (wd R 3:Int)) (by omega))
   have RB3:=Lh (Bh (B0 hb3 RB2.out (by rw[Ae];omega)) (v0:=.int .u64 (wd R 0:Int)) (v1:=.int .u64 (wd R 1:Int)) (v2:=.int .u64 (wd R 2:Int)) (v3:=.int .u64 (wd R 3:Int)) (b:=w.heap.size+1) (by omega))
   have RN3:=Lh ((RN2.out.below hb3).far (c:=w.heap.size+1) (v0:=.int .u64 (wd R 0:Int)) (v1:=.int .u64 (wd R 1:Int)) (v2:=.int .u64 (wd R 2:Int)) (v3:=.int .u64 (wd R 3:Int)) (fun q hq=>by cases hq;omega))
   clear RS2 RR2 RB2 RN2 hb3 hs3 rs3 KM
   go_wp2_with fail
   go_roundw
   case rel=>exact⟨k+1,by omega,congrArg (Value.int .i64) (by omega),by rw[HS.out];exact RS3.out,RR3.out,RN3.out,RB3.out⟩
   case measure =>
    simp[Go.RowKit.intOf]
    omega
  ·obtain rfl:k=len:=by omega
   have p1:¬ (k:Int)<(k:Int):=by omega
   obtain⟨R,hR⟩:=exzb (Ob ns k)
   rw[hR] at rs
   have HR2:=Lh hR
   obtain⟨⟨s0,s1,s2,s3⟩,_⟩:=Aq rs
   have xr:=AT rr
   obtain⟨⟨d0,d1,d2,d3⟩,e0,e1,e2,e3⟩:=Aq xr
   have KL:=Lh (Cm (AN (n:=R) xr))
   have BR:=Lh (Bh (v0:=.int .u64 (wd R 0:Int)) (v1:=.int .u64 (wd R 1:Int)) (v2:=.int .u64 (wd R 2:Int)) (v3:=.int .u64 (wd R 3:Int)) hbe (b:=w.heap.size) (by omega))
   clear hR hn rs rr xr hbe
   go_wp2_with fail
   exact bodyPost_ret (Ap Tryz.results77 (by rfl) KL.out) rfl ⟨by rw[HR2.out],BR.out⟩
def IQ (ns:List Nat):Nat→Nat
 | 0=>ns.getD 0 0
 | k+1=>IQ ns k*ns.getD (k+1) 0%PN
theorem Yl (ns:List Nat) (h:∀ n ∈ ns,n<PN):∀ k,IQ ns k<PN
 | 0=>MK h 0
 | _+1=>Nat.mod_lt _ Au
def da (ns:List Nat):Nat→Nat
 | 0=>1
 | k+1=>IQ ns k
theorem YE (a b:Nat):(a*b/B64^4*B64^4+a*b%B64^4)%PN=a*b%PN:=by
 rw[Nat.mul_comm (a*b/B64^4),Nat.div_add_mod]
theorem Rg (a:Option Addr) (len cap:Nat) (ns:List Nat) (w:World) (hl:len≤100) (hcap:len≤cap) (hn:IsNums w a len ns) :
    Calls Tryz.prog 76 #[.slice a len cap] w fun e w'=>e=.returned (Aa (da ns len))∧Below w.heap.size w w':=by
 by_cases hl0:len=0
 ·subst hl0
  have K1:=Lh (fun w=>EZ 1 w (by decide))
  obtain⟨xr,xz,xB⟩:=IN 36 w
  have m1:da ns 0=1:=rfl
  rw[m1]
  obtain⟨c1,hc1⟩:∃ c1,c1=1:=⟨1,rfl⟩
  have K1:Hid (∀ w,Calls Tryz.prog 34 #[.int .u64 1] w fun e w'=>e=.returned (Aa c1)∧Below w.heap.size w w'):=fun w=>by rw[hc1];exact K1.out w
  rw[← hc1]
  simp only[AL] at K1 ⊢
  clear hc1 m1
  go_enter Tryz.func76,Tryz.ntmps76
  go_wp2_with fail
  change Calls _ _ _ (Z1 36 w) _
  generalize Z1 36 w=X at *
  refine (K1.out X).mono ?_
  rintro e w1 ⟨rfl,hb1⟩
  have xr1:=AT (xr.keep hb1)
  obtain⟨⟨d0,d1,d2,d3⟩,e0,e1,e2,e3⟩:=Aq xr1
  have KL:=Lh (Cm (AN (n:=c1) xr1))
  have BR:=Lh (Bh (v0:=.int .u64 (wd c1 0:Int)) (v1:=.int .u64 (wd c1 1:Int)) (v2:=.int .u64 (wd c1 2:Int)) (v3:=.int .u64 (wd c1 3:Int)) (B0 hb1 xB (by omega)) (b:=w.heap.size) (Nat.le_refl _))
  clear xr xr1 xB hb1
  go_wp2_with fail
  exact bodyPost_ret (Ap Tryz.results76 (by rfl) KL.out) rfl ⟨rfl,BR.out⟩
 ·obtain⟨b,rfl,hb,hc⟩:=hn.at_ (by omega)
  obtain⟨xr,xz,xB⟩:=IN 36 w
  have HN:=Lh (hn.below xB)
  have HLT:=Lh hn.lt
  have c0:w.cell? ⟨b,0,none⟩=_:=hc 0 0 (by omega) (by omega)
  have c1:w.cell? ⟨b,1,none⟩=_:=hc 0 1 (by omega) (by omega)
  have c2:w.cell? ⟨b,2,none⟩=_:=hc 0 2 (by omega) (by omega)
  have c3:w.cell? ⟨b,3,none⟩=_:=hc 0 3 (by omega) (by omega)
  have p0:((len:Int) == 0)=false:=by simp;omega
  have p1:(0:Int)<(len:Int):=by omega
  have p2:(1:Int)≤(len:Int):=by omega
  have p3:(len:Int)≤(cap:Int):=by omega
  have hP0:IQ ns 0=ns.getD 0 0:=rfl
  obtain⟨S,hS⟩:=exzb (ns.getD 0 0)
  rw[hS] at c0 c1 c2 c3 hP0
  have HP0:=Lh hP0
  have HXR:=Lh xr
  have HXB:=Lh xB
  have HL0:=Lh hl0
  clear hn hc hS hP0 xr xB hl0
  have XS:=Lh (show IsA ((Z1 36 w).alloc (.cells #[.int .u64 (wd S 0:Int),.int .u64 (wd S 1:Int),.int .u64 (wd S 2:Int),.int .u64 (wd S 3:Int)] 36)) (Z1 36 w).heap.size S 36 from Aj _ _)
  rw[xz] at XS
  have XR:=Lh (HXR.out.alloc (.cells #[.int .u64 (wd S 0:Int),.int .u64 (wd S 1:Int),.int .u64 (wd S 2:Int),.int .u64 (wd S 3:Int)] 36))
  have XB:=Lh (Bi HXB.out (.cells #[.int .u64 (wd S 0:Int),.int .u64 (wd S 1:Int),.int .u64 (wd S 2:Int),.int .u64 (wd S 3:Int)] 36))
  have XN:=Lh (HN.out.below ((Below.refl (Z1 36 w).heap.size _).alloc (Nat.le_refl _) (.cells #[.int .u64 (wd S 0:Int),.int .u64 (wd S 1:Int),.int .u64 (wd S 2:Int),.int .u64 (wd S 3:Int)] 36)))
  have hXs:((Z1 36 w).alloc (.cells #[.int .u64 (wd S 0:Int),.int .u64 (wd S 1:Int),.int .u64 (wd S 2:Int),.int .u64 (wd S 3:Int)] 36)).heap.size=w.heap.size+2:=by rw[Ae,xz]
  clear HXR HXB HN xz
  by_cases hc1:cap=1
  ·obtain rfl:len=1:=by omega
   subst hc1
   have hM:da ns 1=S:=HP0.out
   rw[hM]
   clear hM HP0
   go_enter Tryz.func76,Tryz.ntmps76
   go_wp2_with fail
   change Code.wp _ _ _ _ ((Z1 36 w).alloc (.cells #[.int .u64 (wd S 0:Int),.int .u64 (wd S 1:Int),.int .u64 (wd S 2:Int),.int .u64 (wd S 3:Int)] 36))
   generalize (Z1 36 w).alloc (.cells #[.int .u64 (wd S 0:Int),.int .u64 (wd S 1:Int),.int .u64 (wd S 2:Int),.int .u64 (wd S 3:Int)] 36)=X at *
   refine wp_loop_rounds 1 ?_
   rw[rounds_succ]
   have rs:=XS.out
   have rr:=XR.out
   have hbe:=XB.out
   obtain⟨R,hR⟩:=exzb (S)
   subst hR
   obtain⟨⟨s0,s1,s2,s3⟩,_⟩:=Aq rs
   have xr:=AT rr
   obtain⟨⟨d0,d1,d2,d3⟩,e0,e1,e2,e3⟩:=Aq xr
   have KL:=Lh (Cm (AN (n:=S) xr))
   have BR:=Lh (Bh (v0:=.int .u64 (wd S 0:Int)) (v1:=.int .u64 (wd S 1:Int)) (v2:=.int .u64 (wd S 2:Int)) (v3:=.int .u64 (wd S 3:Int)) hbe (b:=w.heap.size) (by omega))
   clear rs rr hbe xr XS XR XB XN
   go_wp2_with fail
   exact bodyPost_ret (Ap Tryz.results76 (by rfl) KL.out) rfl ⟨rfl,BR.out⟩
  ·have hM:da ns len=IQ ns (len-1):=by
     obtain⟨j,rfl⟩:∃ j,len=j+1:=⟨len-1,by omega⟩
     rfl
   have HM:=Lh hM
   have p4:((len-1:Nat):Int)≤100:=by omega
   clear hM
   go_enter Tryz.func76,Tryz.ntmps76
   go_wp2_with fail
   change Code.wp _ _ _ _ ((Z1 36 w).alloc (.cells #[.int .u64 (wd S 0:Int),.int .u64 (wd S 1:Int),.int .u64 (wd S 2:Int),.int .u64 (wd S 3:Int)] 36))
   generalize (Z1 36 w).alloc (.cells #[.int .u64 (wd S 0:Int),.int .u64 (wd S 1:Int),.int .u64 (wd S 2:Int),.int .u64 (wd S 3:Int)] 36)=X at *
   clear c0 c1 c2 c3
   go_loopw [16] (fun i wr=>∃ k:Nat,k≤len-1∧i=.int .i64 (k:Int)∧IsA wr (w.heap.size+1) (IQ ns k) 36∧IsA wr w.heap.size 0 36∧IsNums wr (some ⟨b,0,none⟩) len ns∧Below w.heap.size w wr) (fun i _=>len-1-(Go.RowKit.intOf i).toNat)
   case atStart=>exact⟨0,by omega,rfl,by rw[HP0.out];exact XS.out,XR.out,XN.out,XB.out⟩
   case round =>
    obtain⟨k,hk,rfl,rs,rr,hn,hbe⟩:=hrel
    clear XS XR XB XN HP0 hXs
    have hs:=hbe.size
    have hls:=AU rs
    have hsP:=Yl ns HLT.out k
    by_cases hlt:k<len-1
    ·have q1:(k:Int)<((len-1:Nat):Int):=by omega
     obtain⟨b',hbb,hb',hc⟩:=hn.at_ (by omega)
     cases hbb
     have c0:wr.cell? ⟨b,4+k*4,none⟩=some (.int .u64 (wd (ns.getD (k+1) 0) 0:Int)):=by have h:=hc (k+1) 0 (by omega) (by omega);rw[show (k+1)*4+0=4+k*4 by omega] at h;exact h
     have c1:wr.cell? ⟨b,4+k*4+1,none⟩=some (.int .u64 (wd (ns.getD (k+1) 0) 1:Int)):=by have h:=hc (k+1) 1 (by omega) (by omega);rw[show (k+1)*4+1=4+k*4+1 by omega] at h;exact h
     have c2:wr.cell? ⟨b,4+k*4+2,none⟩=some (.int .u64 (wd (ns.getD (k+1) 0) 2:Int)):=by have h:=hc (k+1) 2 (by omega) (by omega);rw[show (k+1)*4+2=4+k*4+2 by omega] at h;exact h
     have c3:wr.cell? ⟨b,4+k*4+3,none⟩=some (.int .u64 (wd (ns.getD (k+1) 0) 3:Int)):=by have h:=hc (k+1) 3 (by omega) (by omega);rw[show (k+1)*4+3=4+k*4+3 by omega] at h;exact h
     have hstep:IQ ns (k+1)=IQ ns k*ns.getD (k+1) 0%PN:=rfl
     have hxP:=MK HLT.out (k+1)
     obtain⟨P,hP⟩:=exzb (IQ ns k)
     obtain⟨Y,hY⟩:=exzb (ns.getD (k+1) 0)
     rw[hP] at rs hsP hstep
     rw[hY] at c0 c1 c2 c3 hxP hstep
     have KA:=Lh (fun w=>Lk P Y w (Bv hsP) (Bv hxP))
     have KM:=Lh (fun w=>Wf (P*Y%B64^4) (P*Y/B64^4) w (Nat.mod_lt _ (by decide)) (Nat.div_lt_of_lt_mul (Nat.mul_lt_mul'' (Bv hsP) (Bv hxP))))
     rw[YE P Y] at KM
     obtain⟨R,hR⟩:=exzb (P*Y%PN)
     obtain⟨A,hAA⟩:=exzb (P*Y%B64^4)
     obtain⟨C,hC⟩:=exzb (P*Y/B64^4)
     rw[hAA,hC] at KA
     rw[hAA,hC,hR] at KM
     rw[hR] at hstep
     have HS:=Lh hstep
     simp only[AL] at KA KM
     obtain⟨⟨s0,s1,s2,s3⟩,_⟩:=Aq rs
     have RS:=Lh (rs.alloc (.cells #[.int .u64 (wd Y 0:Int),.int .u64 (wd Y 1:Int),.int .u64 (wd Y 2:Int),.int .u64 (wd Y 3:Int)] 36))
     have RR:=Lh (rr.alloc (.cells #[.int .u64 (wd Y 0:Int),.int .u64 (wd Y 1:Int),.int .u64 (wd Y 2:Int),.int .u64 (wd Y 3:Int)] 36))
     have RB:=Lh (Bi hbe (.cells #[.int .u64 (wd Y 0:Int),.int .u64 (wd Y 1:Int),.int .u64 (wd Y 2:Int),.int .u64 (wd Y 3:Int)] 36))
     have RN:=Lh (hn.below ((Below.refl wr.heap.size wr).alloc (Nat.le_refl _) (.cells #[.int .u64 (wd Y 0:Int),.int .u64 (wd Y 1:Int),.int .u64 (wd Y 2:Int),.int .u64 (wd Y 3:Int)] 36)))
     obtain⟨⟨u0,u1,u2,u3⟩,_⟩:=Aq RS.out
     clear hc hP hY hR hAA hC hstep hxP hsP rs rr hbe hn
     go_wp2_with fail
     refine (KA.out _).mono ?_
     rintro e w2 ⟨rfl,hb2⟩
     have hs2:=hb2.size
     have hs2':wr.heap.size+1≤w2.heap.size:=by rw[Ae] at hs2;exact hs2
     have RS2:=Lh (RS.out.keep hb2)
     have RR2:=Lh (RR.out.keep hb2)
     have RB2:=Lh (B0 hb2 RB.out (by rw[Ae];omega))
     have RN2:=Lh (RN.out.below hb2)
     clear RS RR RB RN hb2 hs2 u0 u1 u2 u3 s0 s1 s2 s3 KA c0 c1 c2 c3
     go_wp2_with fail
     refine (KM.out _).mono ?_
     rintro e w3 ⟨rfl,hb3⟩
     have hs3:=hb3.size
     have rs3:=RS2.out.keep hb3
     obtain⟨⟨d0,d1,d2,d3⟩,e0,e1,e2,e3⟩:=Aq rs3
     have RS3:=Lh (AN (n:=R) rs3)
     have RR3:=Lh ((RR2.out.keep hb3).far (c:=w.heap.size+1) (v0:=.int .u64 (wd R 0:Int)) (v1:=.int .u64 (wd R 1:Int)) (v2:=.int .u64 (wd R 2:Int)) (v3:=.int .u64 (wd R 3:Int)) (by omega))
     have RB3:=Lh (Bh (B0 hb3 RB2.out (by omega)) (v0:=.int .u64 (wd R 0:Int)) (v1:=.int .u64 (wd R 1:Int)) (v2:=.int .u64 (wd R 2:Int)) (v3:=.int .u64 (wd R 3:Int)) (b:=w.heap.size+1) (by omega))
     have RN3:=Lh ((RN2.out.below hb3).far (c:=w.heap.size+1) (v0:=.int .u64 (wd R 0:Int)) (v1:=.int .u64 (wd R 1:Int)) (v2:=.int .u64 (wd R 2:Int)) (v3:=.int .u64 (wd R 3:Int)) (fun q hq=>by cases hq;omega))
     clear RS2 RR2 RB2 RN2 hb3 rs3 KM
     go_wp2_with fail
     go_roundw
     case rel=>exact⟨k+1,by omega,congrArg (Value.int .i64) (by omega),by rw[HS.out];exact RS3.out,RR3.out,RN3.out,RB3.out⟩
     case measure =>
      simp[Go.RowKit.intOf]
      omega
    ·obtain⟨k',hk'⟩:∃ k',len-1=k':=⟨_,rfl⟩
     have HK:=Lh (show k=len-1 by omega)
     have q1:¬ (k:Int)<((len-1:Nat):Int):=by omega
     obtain⟨R,hR⟩:=exzb (IQ ns k)
     rw[hR] at rs
     have HR2:=Lh hR
     obtain⟨⟨s0,s1,s2,s3⟩,_⟩:=Aq rs
     have xr:=AT rr
     obtain⟨⟨d0,d1,d2,d3⟩,e0,e1,e2,e3⟩:=Aq xr
     have KL:=Lh (Cm (AN (n:=R) xr))
     have BR:=Lh (Bh (v0:=.int .u64 (wd R 0:Int)) (v1:=.int .u64 (wd R 1:Int)) (v2:=.int .u64 (wd R 2:Int)) (v3:=.int .u64 (wd R 3:Int)) hbe (b:=w.heap.size) (by omega))
     clear hR hn rs rr xr hbe hk' hsP hlt
     go_wp2_with fail
     exact bodyPost_ret (Ap Tryz.results76 (by rfl) KL.out) rfl ⟨by rw[HM.out,← HK.out,HR2.out],BR.out⟩
theorem XT {W:World} {b p q:Nat} (h:W.heap[b]?=some (.cells #[.int .u64 (wd p 0:Int),.int .u64 (wd p 1:Int),.int .u64 (wd p 2:Int),.int .u64 (wd p 3:Int),.int .u64 (wd q 0:Int),.int .u64 (wd q 1:Int),.int .u64 (wd q 2:Int),.int .u64 (wd q 3:Int)] 36 (0,0))) (hp:p<PN) (hq:q<PN):IsNums W (some ⟨b,0,none⟩) 2 [p,q]:=by
 refine⟨rfl,fun n hn=>?_,fun _=>⟨b,rfl,AU h,fun i k hi hk=>?_⟩⟩
 ·simp at hn
  rcases hn with rfl | rfl <;> assumption
 ·have hi2:i=0∨i=1:=by omega
  have hk4:k=0∨k=1∨k=2∨k=3:=by omega
  rcases hi2 with rfl | rfl <;> rcases hk4 with rfl | rfl | rfl | rfl <;> simp[World.cell?,h]
theorem mul_two (p q:Nat) (hp:p<PN) (hq:q<PN) (b:Nat) (W:World) (h:W.heap[b]?=some (.cells #[.int .u64 (wd p 0:Int),.int .u64 (wd p 1:Int),.int .u64 (wd p 2:Int),.int .u64 (wd p 3:Int),.int .u64 (wd q 0:Int),.int .u64 (wd q 1:Int),.int .u64 (wd q 2:Int),.int .u64 (wd q 3:Int)] 36 (0,0))) :
    Calls Tryz.prog 76 #[.slice (some ⟨b,0,none⟩) 2 2] W fun e w'=>e=.returned (Aa (p*q%PN))∧Below W.heap.size W w' :=
 Rg (some ⟨b,0,none⟩) 2 2 [p,q] W (by omega) (by omega) (XT h hp hq)
theorem bA (p q:Nat) (hp:p<PN) (hq:q<PN) (b:Nat) (W:World) (h:W.heap[b]?=some (.cells #[.int .u64 (wd p 0:Int),.int .u64 (wd p 1:Int),.int .u64 (wd p 2:Int),.int .u64 (wd p 3:Int),.int .u64 (wd q 0:Int),.int .u64 (wd q 1:Int),.int .u64 (wd q 2:Int),.int .u64 (wd q 3:Int)] 36 (0,0))) :
    Calls Tryz.prog 77 #[.slice (some ⟨b,0,none⟩) 2 2] W fun e w'=>e=.returned (Aa ((p+q)%PN))∧Below W.heap.size W w':=by
 have h2:=YL (some ⟨b,0,none⟩) 2 2 [p,q] W (by omega) (XT h hp hq)
 have e:Ob [p,q] 2=(p+q)%PN:=by
  show ((0+p)%PN+q)%PN=_
  rw[Nat.zero_add,Nat.mod_eq_of_lt hp]
 rw[e] at h2
 exact h2
def If (a k j:Nat):Nat:=a^(k/2^j)%PN
theorem bo (a k j:Nat):If a k j<PN:=Nat.mod_lt _ Au
theorem Vv (a k j:Nat):If a k j=if CF k j=1 then If a k (j+1)*If a k (j+1)%PN*a%PN else If a k (j+1)*If a k (j+1)%PN:=by
 have hd:k/2^j=2*(k/2^(j+1))+CF k j:=by
  unfold CF
  rw[Nat.pow_succ,← Nat.div_div_eq_div_mul]
  omega
 have hb:=EK k j
 unfold If
 rw[hd,Nat.pow_add,Nat.two_mul,Nat.pow_add,← Nat.mul_mod]
 split
 ·rename_i h
  rw[h,Nat.pow_one]
  exact (Nat.mul_mod _ a PN).trans (by rw[Nat.mul_mod (_%PN) a PN,Nat.mod_mod])
 ·rename_i h
  have h0:CF k j=0:=by omega
  rw[h0,Nat.pow_zero,Nat.mul_one]
theorem Sm (a k:Nat):If a k (Go.bitLen k)=1:=by
 unfold If
 rw[Nat.div_eq_of_lt (Go.bitLen_spec k).1,Nat.pow_zero]
 decide +kernel
theorem Tr (k:Nat) (h:k<B64^4):Go.bitLen k≤256:=by
 rcases Nat.lt_or_ge 256 (Go.bitLen k) with hl | hl
 ·have h0:k≠0:=fun e=>by subst e;revert hl;decide
  have h1:=(Go.bitLen_spec k).2 h0
  have h2:2^256≤2^(Go.bitLen k-1):=Nat.pow_le_pow_right (by decide) (by omega)
  have h3:(2:Nat)^256=B64^4:=by decide +kernel
  omega
 ·exact hl
def A3p (a k:Nat) (w:World):World:=((w.alloc (.cells #[.int .u64 (wd a 0:Int),.int .u64 (wd a 1:Int),.int .u64 (wd a 2:Int),.int .u64 (wd a 3:Int)] 36)).alloc (.cells #[.int .u64 (wd k 0:Int),.int .u64 (wd k 1:Int),.int .u64 (wd k 2:Int),.int .u64 (wd k 3:Int)] 24)).alloc (.cells #[.int .u64 0,.int .u64 0,.int .u64 0,.int .u64 0] 36)
theorem fI (a k:Nat) (w:World):IsA (A3p a k w) w.heap.size a 36∧IsA (A3p a k w) (w.heap.size+1) k 24∧IsA (A3p a k w) (w.heap.size+1+1) 0 36∧(A3p a k w).heap.size=w.heap.size+3∧Below w.heap.size w (A3p a k w):=by
 unfold A3p
 refine⟨(G4 w a _ _).alloc _,(AP (Cy w _ _) _:_),CE (GU w _ _ _),by simp,Al (Al (Al (Below.refl _ _) _) _) _⟩
theorem Me (a k:Nat) (w:World) (ha:a<PN) (hk:k<B64^4) :
    Calls Tryz.prog 133 #[Aa a,Aa k] w fun e w'=>e=.returned (Aa (a^k%PN))∧Below w.heap.size w w':=by
 have KS:=Lh (fun w=>EZ 1 w (by decide))
 obtain⟨c1,hc1⟩:∃ c1,c1=1:=⟨1,rfl⟩
 have KS:Hid (∀ w,Calls Tryz.prog 34 #[.int .u64 1] w fun e w'=>e=.returned (Aa c1)∧Below w.heap.size w w'):=fun w=>by rw[hc1];exact KS.out w
 have KL:=Lh (fun w=>K9 k w hk)
 have hst:If a k (Go.bitLen k)=c1:=by rw[Sm,hc1]
 have hle:=Tr k hk
 have hend:If a k 0=a^k%PN:=by unfold If;rw[Nat.pow_zero,Nat.div_one]
 obtain⟨L,hL⟩:=exzb (Go.bitLen k)
 rw[hL] at KL hst hle
 rw[← hend]
 have HST:=Lh hst
 have HAK:=Lh (And.intro ha hk)
 obtain⟨xa,xk,xr,xz,xB⟩:=fI a k w
 have KSQ:=Lh mul_two
 have KB:=Lh Ji
 simp only[AL] at KS KL KSQ KB ⊢
 clear hc1 hst hend hL ha hk
 go_enter Tryz.func133,Tryz.ntmps133
 go_wp2_with fail
 change Calls _ _ _ (A3p a k w) _
 generalize A3p a k w=X at *
 refine (KS.out X).mono ?_
 rintro e w1 ⟨rfl,hb1⟩
 have hs1:w.heap.size+3≤w1.heap.size:=by have:=hb1.size;omega
 have XA:=Lh ((xa.keep hb1).alloc (.cells #[.int .u64 (wd c1 0:Int),.int .u64 (wd c1 1:Int),.int .u64 (wd c1 2:Int),.int .u64 (wd c1 3:Int)] 36))
 have xk1:=(xk.keep hb1).alloc (.cells #[.int .u64 (wd c1 0:Int),.int .u64 (wd c1 1:Int),.int .u64 (wd c1 2:Int),.int .u64 (wd c1 3:Int)] 36)
 have XR:=Lh ((xr.keep hb1).alloc (.cells #[.int .u64 (wd c1 0:Int),.int .u64 (wd c1 1:Int),.int .u64 (wd c1 2:Int),.int .u64 (wd c1 3:Int)] 36))
 have XB:=Lh (Bi (B0 hb1 xB (by omega)) (.cells #[.int .u64 (wd c1 0:Int),.int .u64 (wd c1 1:Int),.int .u64 (wd c1 2:Int),.int .u64 (wd c1 3:Int)] 36))
 have XO:Hid (IsA (w1.alloc (.cells #[.int .u64 (wd c1 0:Int),.int .u64 (wd c1 1:Int),.int .u64 (wd c1 2:Int),.int .u64 (wd c1 3:Int)] 36)) w1.heap.size c1 36):=(Aj w1 _ :)
 obtain⟨⟨k0,k1,k2,k3⟩,_⟩:=Aq xk1
 have XK:=Lh xk1
 clear xa xk xr xB xk1 hb1 xz
 go_wp2_with fail
 have hY1:(w1.alloc (.cells #[.int .u64 (wd c1 0:Int),.int .u64 (wd c1 1:Int),.int .u64 (wd c1 2:Int),.int .u64 (wd c1 3:Int)] 36)).heap.size=w1.heap.size+1:=Ae _ _
 have hYs:w1.heap.size+1≤(w1.alloc (.cells #[.int .u64 (wd c1 0:Int),.int .u64 (wd c1 1:Int),.int .u64 (wd c1 2:Int),.int .u64 (wd c1 3:Int)] 36)).heap.size:=by rw[hY1];omega
 clear hY1
 generalize w1.alloc (.cells #[.int .u64 (wd c1 0:Int),.int .u64 (wd c1 1:Int),.int .u64 (wd c1 2:Int),.int .u64 (wd c1 3:Int)] 36)=Y at *
 generalize w1.heap.size=go at *
 refine (KL.out Y).mono ?_
 rintro e w2 ⟨rfl,hb2⟩
 have hs2:=hb2.size
 have XA2:=Lh (XA.out.keep hb2)
 have XK2:=Lh (XK.out.keep hb2)
 have XR2:=Lh (XR.out.keep hb2)
 have XO2:=Lh (XO.out.keep hb2)
 have XB2:=Lh (B0 hb2 XB.out (by omega))
 clear k0 k1 k2 k3 XA XK XR XO XB hb2
 go_wp2_with fail
 go_loopw [6] (fun i wr=>∃ j:Nat,j≤L∧i=.int .i64 ((j:Int)-1)∧IsA wr go (If a k j) 36∧IsA wr w.heap.size a 36∧IsA wr (w.heap.size+1) k 24∧IsA wr (w.heap.size+1+1) 0 36∧Below w.heap.size w wr) (fun i _=>(Go.RowKit.intOf i+1).toNat)
 case atStart=>exact⟨L,Nat.le_refl _,rfl,by rw[HST.out];exact XO2.out,XA2.out,XK2.out,XR2.out,XB2.out⟩
 case round =>
  obtain⟨j,hj,rfl,ro,ra,rk,rr,rb⟩:=hrel
  clear XA2 XK2 XR2 XO2 XB2 HST hs2 hYs
  have hbs:=rb.size
  have hlo:=AU ro
  have hlr:=AU rr
  cases j with
  | zero =>
    have q1:¬ (0:Int)≤((0:Nat):Int)-1:=by omega
    have q2:((0:Nat):Int)-1 = -1:=by omega
    rw[q2] at q1
    rw[q2]
    obtain⟨R,hR⟩:=exzb (If a k 0)
    rw[hR] at ro
    have HR:=Lh hR
    obtain⟨⟨s0,s1,s2,s3⟩,_⟩:=Aq ro
    have xr:=AT rr
    obtain⟨⟨d0,d1,d2,d3⟩,e0,e1,e2,e3⟩:=Aq xr
    have KL:=Lh (Cm (AN (n:=R) xr))
    have BR:=Lh (Bh (v0:=.int .u64 (wd R 0:Int)) (v1:=.int .u64 (wd R 1:Int)) (v2:=.int .u64 (wd R 2:Int)) (v3:=.int .u64 (wd R 3:Int)) rb (b:=w.heap.size+1+1) (by omega))
    clear hR ro ra rk rr xr rb
    go_wp2_with fail
    exact bodyPost_ret (Ap Tryz.results133 (by rfl) KL.out) rfl ⟨by rw[HR.out];rfl,BR.out⟩
  | succ j =>
    have q2:((j+1:Nat):Int)-1=(j:Int):=by omega
    rw[q2]
    have q1:(0:Int)≤(j:Int):=by omega
    have hj2:(j:Int)<256:=by omega
    have hnx:=Vv a k j
    have hvl:=bo a k (j+1)
    obtain⟨V,hV⟩:=exzb (If a k (j+1))
    rw[hV] at ro hnx hvl
    have KQ:=Lh (KSQ.out V V hvl hvl)
    have hql:V*V%PN<PN:=Nat.mod_lt _ Au
    obtain⟨Q,hQ⟩:=exzb (V*V%PN)
    rw[hQ] at KQ hnx hql
    have KMA:=Lh (KSQ.out Q a hql HAK.out.1)
    obtain⟨R,hR⟩:=exzb (Q*a%PN)
    rw[hR] at KMA hnx
    have KBJ:=Lh (KB.out k j)
    obtain⟨⟨s0,s1,s2,s3⟩,_⟩:=Aq ro
    have RO:=Lh (ro.alloc (.cells #[.int .u64 (wd V 0:Int),.int .u64 (wd V 1:Int),.int .u64 (wd V 2:Int),.int .u64 (wd V 3:Int),.int .u64 (wd V 0:Int),.int .u64 (wd V 1:Int),.int .u64 (wd V 2:Int),.int .u64 (wd V 3:Int)] 36))
    have RA:=Lh (ra.alloc (.cells #[.int .u64 (wd V 0:Int),.int .u64 (wd V 1:Int),.int .u64 (wd V 2:Int),.int .u64 (wd V 3:Int),.int .u64 (wd V 0:Int),.int .u64 (wd V 1:Int),.int .u64 (wd V 2:Int),.int .u64 (wd V 3:Int)] 36))
    have RK:=Lh (rk.alloc (.cells #[.int .u64 (wd V 0:Int),.int .u64 (wd V 1:Int),.int .u64 (wd V 2:Int),.int .u64 (wd V 3:Int),.int .u64 (wd V 0:Int),.int .u64 (wd V 1:Int),.int .u64 (wd V 2:Int),.int .u64 (wd V 3:Int)] 36))
    have RR:=Lh (rr.alloc (.cells #[.int .u64 (wd V 0:Int),.int .u64 (wd V 1:Int),.int .u64 (wd V 2:Int),.int .u64 (wd V 3:Int),.int .u64 (wd V 0:Int),.int .u64 (wd V 1:Int),.int .u64 (wd V 2:Int),.int .u64 (wd V 3:Int)] 36))
    have RB:=Lh (Bi rb (.cells #[.int .u64 (wd V 0:Int),.int .u64 (wd V 1:Int),.int .u64 (wd V 2:Int),.int .u64 (wd V 3:Int),.int .u64 (wd V 0:Int),.int .u64 (wd V 1:Int),.int .u64 (wd V 2:Int),.int .u64 (wd V 3:Int)] 36))
    have hjb:(wr.alloc (.cells #[.int .u64 (wd V 0:Int),.int .u64 (wd V 1:Int),.int .u64 (wd V 2:Int),.int .u64 (wd V 3:Int),.int .u64 (wd V 0:Int),.int .u64 (wd V 1:Int),.int .u64 (wd V 2:Int),.int .u64 (wd V 3:Int)] 36)).heap.size=wr.heap.size+1:=Ae _ _
    have HNX:=Lh hnx
    have H256:=Lh (show j<256 by omega)
    have HJL:=Lh (show j≤L by omega)
    clear ro ra rk rr rb hnx hvl hql hV hQ hR hle hj
    have RV:=Lh (Aj wr (.cells #[.int .u64 (wd V 0:Int),.int .u64 (wd V 1:Int),.int .u64 (wd V 2:Int),.int .u64 (wd V 3:Int),.int .u64 (wd V 0:Int),.int .u64 (wd V 1:Int),.int .u64 (wd V 2:Int),.int .u64 (wd V 3:Int)] 36))
    go_wp2_with fail
    refine (KQ.out wr.heap.size _ RV.out).mono ?_
    rintro e w3 ⟨rfl,hb3⟩
    have hs3:wr.heap.size+1≤w3.heap.size:=by have:=hb3.size;omega
    have ro3:=RO.out.keep hb3
    obtain⟨⟨d0,d1,d2,d3⟩,e0,e1,e2,e3⟩:=Aq ro3
    have RO3:=Lh (AN (n:=Q) ro3)
    have RA3:=Lh ((RA.out.keep hb3).far (c:=go) (v0:=.int .u64 (wd Q 0:Int)) (v1:=.int .u64 (wd Q 1:Int)) (v2:=.int .u64 (wd Q 2:Int)) (v3:=.int .u64 (wd Q 3:Int)) (by have:=hs1;omega))
    have rk3:=(RK.out.keep hb3).far (c:=go) (v0:=.int .u64 (wd Q 0:Int)) (v1:=.int .u64 (wd Q 1:Int)) (v2:=.int .u64 (wd Q 2:Int)) (v3:=.int .u64 (wd Q 3:Int)) (by omega)
    have RR3:=Lh ((RR.out.keep hb3).far (c:=go) (v0:=.int .u64 (wd Q 0:Int)) (v1:=.int .u64 (wd Q 1:Int)) (v2:=.int .u64 (wd Q 2:Int)) (v3:=.int .u64 (wd Q 3:Int)) (by omega))
    have RB3:=Lh (Bh (B0 hb3 RB.out (by omega)) (v0:=.int .u64 (wd Q 0:Int)) (v1:=.int .u64 (wd Q 1:Int)) (v2:=.int .u64 (wd Q 2:Int)) (v3:=.int .u64 (wd Q 3:Int)) (b:=go) (by omega))
    obtain⟨⟨k0,k1,k2,k3⟩,_⟩:=Aq rk3
    have RK3:=Lh rk3
    clear RO RA RK RR RB RV hb3 ro3 rk3 s0 s1 s2 s3 hjb
    have hzs:((((w3.setCell ⟨go,0,none⟩ (.int .u64 (wd Q 0:Int))).setCell ⟨go,1,none⟩ (.int .u64 (wd Q 1:Int))).setCell ⟨go,2,none⟩ (.int .u64 (wd Q 2:Int))).setCell ⟨go,3,none⟩ (.int .u64 (wd Q 3:Int))).heap.size=w3.heap.size:=by simp only[Hz]
    go_wp2_with fail
    generalize (((w3.setCell ⟨go,0,none⟩ (.int .u64 (wd Q 0:Int))).setCell ⟨go,1,none⟩ (.int .u64 (wd Q 1:Int))).setCell ⟨go,2,none⟩ (.int .u64 (wd Q 2:Int))).setCell ⟨go,3,none⟩ (.int .u64 (wd Q 3:Int))=Z at *
    refine (KBJ.out Z H256.out).mono ?_
    rintro e w4 ⟨rfl,hb4⟩
    have hs4:=hb4.size
    have RO4:=Lh (RO3.out.keep hb4)
    have RA4:=Lh (RA3.out.keep hb4)
    have RK4:=Lh (RK3.out.keep hb4)
    have RR4:=Lh (RR3.out.keep hb4)
    have RB4:=Lh (B0 hb4 RB3.out (by omega))
    have hbj:=EK k j
    clear RO3 RA3 RK3 RR3 RB3 hb4 k0 k1 k2 k3 KBJ KB
    by_cases h1:CF k j=1
    ·have hN:If a k j=R:=by rw[HNX.out,if_pos h1]
     have b1:(CF k j:Int)=1:=by omega
     rw[b1]
     have HN:=Lh hN
     clear hbj h1 b1 hN HNX
     obtain⟨⟨s0,s1,s2,s3⟩,_⟩:=Aq RO4.out
     obtain⟨⟨t0,t1,t2,t3⟩,_⟩:=Aq RA4.out
     have RV:=Lh (Aj w4 (.cells #[.int .u64 (wd Q 0:Int),.int .u64 (wd Q 1:Int),.int .u64 (wd Q 2:Int),.int .u64 (wd Q 3:Int),.int .u64 (wd a 0:Int),.int .u64 (wd a 1:Int),.int .u64 (wd a 2:Int),.int .u64 (wd a 3:Int)] 36))
     have hjb:(w4.alloc (.cells #[.int .u64 (wd Q 0:Int),.int .u64 (wd Q 1:Int),.int .u64 (wd Q 2:Int),.int .u64 (wd Q 3:Int),.int .u64 (wd a 0:Int),.int .u64 (wd a 1:Int),.int .u64 (wd a 2:Int),.int .u64 (wd a 3:Int)] 36)).heap.size=w4.heap.size+1:=Ae _ _
     go_wp2_with fail
     refine (KMA.out w4.heap.size _ RV.out).mono ?_
     rintro e w5 ⟨rfl,hb5⟩
     have hs5:w4.heap.size+1≤w5.heap.size:=by have:=hb5.size;omega
     have ro5:=(RO4.out.alloc (.cells #[.int .u64 (wd Q 0:Int),.int .u64 (wd Q 1:Int),.int .u64 (wd Q 2:Int),.int .u64 (wd Q 3:Int),.int .u64 (wd a 0:Int),.int .u64 (wd a 1:Int),.int .u64 (wd a 2:Int),.int .u64 (wd a 3:Int)] 36)).keep hb5
     obtain⟨⟨d0,d1,d2,d3⟩,e0,e1,e2,e3⟩:=Aq ro5
     have RO5:=Lh (AN (n:=R) ro5)
     have RA5:=Lh (((RA4.out.alloc (.cells #[.int .u64 (wd Q 0:Int),.int .u64 (wd Q 1:Int),.int .u64 (wd Q 2:Int),.int .u64 (wd Q 3:Int),.int .u64 (wd a 0:Int),.int .u64 (wd a 1:Int),.int .u64 (wd a 2:Int),.int .u64 (wd a 3:Int)] 36)).keep hb5).far (c:=go) (v0:=.int .u64 (wd R 0:Int)) (v1:=.int .u64 (wd R 1:Int)) (v2:=.int .u64 (wd R 2:Int)) (v3:=.int .u64 (wd R 3:Int)) (by omega))
     have RK5:=Lh (((RK4.out.alloc (.cells #[.int .u64 (wd Q 0:Int),.int .u64 (wd Q 1:Int),.int .u64 (wd Q 2:Int),.int .u64 (wd Q 3:Int),.int .u64 (wd a 0:Int),.int .u64 (wd a 1:Int),.int .u64 (wd a 2:Int),.int .u64 (wd a 3:Int)] 36)).keep hb5).far (c:=go) (v0:=.int .u64 (wd R 0:Int)) (v1:=.int .u64 (wd R 1:Int)) (v2:=.int .u64 (wd R 2:Int)) (v3:=.int .u64 (wd R 3:Int)) (by omega))
     have RR5:=Lh (((RR4.out.alloc (.cells #[.int .u64 (wd Q 0:Int),.int .u64 (wd Q 1:Int),.int .u64 (wd Q 2:Int),.int .u64 (wd Q 3:Int),.int .u64 (wd a 0:Int),.int .u64 (wd a 1:Int),.int .u64 (wd a 2:Int),.int .u64 (wd a 3:Int)] 36)).keep hb5).far (c:=go) (v0:=.int .u64 (wd R 0:Int)) (v1:=.int .u64 (wd R 1:Int)) (v2:=.int .u64 (wd R 2:Int)) (v3:=.int .u64 (wd R 3:Int)) (by omega))
     have RB5:=Lh (Bh (B0 hb5 (Bi RB4.out (.cells #[.int .u64 (wd Q 0:Int),.int .u64 (wd Q 1:Int),.int .u64 (wd Q 2:Int),.int .u64 (wd Q 3:Int),.int .u64 (wd a 0:Int),.int .u64 (wd a 1:Int),.int .u64 (wd a 2:Int),.int .u64 (wd a 3:Int)] 36)) (by omega)) (v0:=.int .u64 (wd R 0:Int)) (v1:=.int .u64 (wd R 1:Int)) (v2:=.int .u64 (wd R 2:Int)) (v3:=.int .u64 (wd R 3:Int)) (b:=go) (by omega))
     clear RO4 RA4 RK4 RR4 RB4 hb5 ro5 s0 s1 s2 s3 t0 t1 t2 t3 hjb RV
     go_wp2_with fail
     go_roundw
     case rel=>exact⟨j,HJL.out,rfl,by rw[HN.out];exact RO5.out,RA5.out,RK5.out,RR5.out,RB5.out⟩
     case measure =>
      simp[Go.RowKit.intOf]
      try omega
    ·have hN:If a k j=Q:=by rw[HNX.out,if_neg h1]
     have b1:(CF k j:Int)=0:=by omega
     rw[b1]
     have HN:=Lh hN
     clear hbj h1 b1 hN HNX
     go_wp2_with fail
     go_roundw
     case rel=>exact⟨j,HJL.out,rfl,by rw[HN.out];exact RO4.out,RA4.out,RK4.out,RR4.out,RB4.out⟩
     case measure =>
      simp[Go.RowKit.intOf]
      try omega
theorem MN (f:Nat) (w:World) (x0 x1 x2 x3 y0 y1 y2 y3:Int):(Op.equalIn (f+2) 24 (.agg #[.int .u64 x0,.int .u64 x1,.int .u64 x2,.int .u64 x3]) (.agg #[.int .u64 y0,.int .u64 y1,.int .u64 y2,.int .u64 y3])).run Tryz.prog w=.ok (x0 == y0 && (x1 == y1 && (x2 == y2 && x3 == y3))) w:=by
 have he:∀ (a b:Int) (w:World),(Op.equalIn (f+1) 22 (.int .u64 a) (.int .u64 b)).run Tryz.prog w=.ok (a == b) w:=fun a b w=>run_equalIn_int w f 22 .u64 .u64 a b Tryz.underlying22
 rw[Op.equalIn]
 simp only[Sem.run_bind,run_underlying Tryz.underlying24,Result.andThen_ok]
 have hp:∀ (v:Value) (k:Nat) (xs:Array Value) (w:World),xs[k]?=some v→(part 22 xs k).run Tryz.prog w=.ok v w:=fun v k xs w h=>by
  simp only[part]
  go_simp
 have hz:∀ w,(sizeOf 22).run Tryz.prog w=.ok 1 w:=Tryz.sizeOf22
 rw[hz]
 simp only[Result.andThen_ok]
 rw[Std.Legacy.Range.forIn_eq_forIn_range']
 simp[Std.Legacy.Range.size,List.range']
 have a0:=fun w=>hp (.int .u64 x0) 0 #[.int .u64 x0,.int .u64 x1,.int .u64 x2,.int .u64 x3] w rfl
 have b0:=fun w=>hp (.int .u64 y0) 0 #[.int .u64 y0,.int .u64 y1,.int .u64 y2,.int .u64 y3] w rfl
 have a1:=fun w=>hp (.int .u64 x1) 1 #[.int .u64 x0,.int .u64 x1,.int .u64 x2,.int .u64 x3] w rfl
 have b1:=fun w=>hp (.int .u64 y1) 1 #[.int .u64 y0,.int .u64 y1,.int .u64 y2,.int .u64 y3] w rfl
 have a2:=fun w=>hp (.int .u64 x2) 2 #[.int .u64 x0,.int .u64 x1,.int .u64 x2,.int .u64 x3] w rfl
 have b2:=fun w=>hp (.int .u64 y2) 2 #[.int .u64 y0,.int .u64 y1,.int .u64 y2,.int .u64 y3] w rfl
 have a3:=fun w=>hp (.int .u64 x3) 3 #[.int .u64 x0,.int .u64 x1,.int .u64 x2,.int .u64 x3] w rfl
 have b3:=fun w=>hp (.int .u64 y3) 3 #[.int .u64 y0,.int .u64 y1,.int .u64 y2,.int .u64 y3] w rfl
 simp only[a0,b0,a1,b1,a2,b2,a3,b3,he,Result.andThen_ok]
 generalize (x0 == y0)=c0
 generalize (x1 == y1)=c1
 generalize (x2 == y2)=c2
 generalize (x3 == y3)=c3
 cases c0 <;> cases c1 <;> cases c2 <;> cases c3 <;> simp
theorem aZ (w:World) (x0 x1 x2 x3 y0 y1 y2 y3:Int):(Op.equalIn 10000 36 (.agg #[.int .u64 x0,.int .u64 x1,.int .u64 x2,.int .u64 x3]) (.agg #[.int .u64 y0,.int .u64 y1,.int .u64 y2,.int .u64 y3])).run Tryz.prog w=.ok (x0 == y0 && (x1 == y1 && (x2 == y2 && x3 == y3))) w:=by
 have hn:=fun w=>MN 9997 w x0 x1 x2 x3 y0 y1 y2 y3
 rw[show (10000:Nat)=9999+1 from rfl,run_equalIn_struct w 9999 36 _ _ (by kernel_rfl) (by kernel_rfl)]
 have hp:∀ (a0 a1 a2 a3:Int) (w:World),(part 24 #[.int .u64 a0,.int .u64 a1,.int .u64 a2,.int .u64 a3] 0).run Tryz.prog w=.ok (.agg #[.int .u64 a0,.int .u64 a1,.int .u64 a2,.int .u64 a3]) w:=fun a0 a1 a2 a3 w=>by
  simp only[part]
  go_simp
 simp only[Program.fieldsOf,Tryz.underlying36]
 simp[Op.eqFields,hp,hn]
 by_cases h0:x0=y0 <;> by_cases h1:x1=y1 <;> by_cases h2:x2=y2 <;> by_cases h3:x3=y3 <;> simp[h0,h1,h2,h3]
theorem Ld (a b:Nat) (ha:a<B64^4) (hb:b<B64^4):((wd a 0:Int) == (wd b 0:Int) && ((wd a 1:Int) == (wd b 1:Int) && ((wd a 2:Int) == (wd b 2:Int) && (wd a 3:Int) == (wd b 3:Int))))=decide (a=b):=by
 by_cases h:a=b
 ·subst h
  simp
 ·rw[decide_eq_false h,Bool.eq_false_iff]
  intro hh
  simp only[Bool.and_eq_true,beq_iff_eq] at hh
  obtain⟨h0,h1,h2,h3⟩:=hh
  have e:=JE a b ha hb 4 0 rfl (fun j _ hj=>by
   have hj4:j=0∨j=1∨j=2∨j=3:=by omega
   rcases hj4 with rfl | rfl | rfl | rfl <;> omega)
  rw[Nat.pow_zero,Nat.div_one,Nat.div_one] at e
  exact h e
theorem Ly (a b:Nat) (w:World) (ha:a<B64^4) (hb:b<B64^4):(Op.equalIn 10000 36 (.agg #[.int .u64 (wd a 0:Int),.int .u64 (wd a 1:Int),.int .u64 (wd a 2:Int),.int .u64 (wd a 3:Int)]) (.agg #[.int .u64 (wd b 0:Int),.int .u64 (wd b 1:Int),.int .u64 (wd b 2:Int),.int .u64 (wd b 3:Int)])).run Tryz.prog w=.ok (decide (a=b)) w:=by
 rw[aZ,Ld a b ha hb]
def P2:Nat:=PN-2
theorem iS:P2<B64^4:=by decide +kernel
theorem gD:Aa P2=.agg #[.int .u64 18446744073709551595,.int .u64 18446744073709551615,.int .u64 18446744073709551615,.int .u64 9223372036854775807]:=by
 unfold Aa
 rw[show wd P2 0=18446744073709551595 by decide +kernel,show wd P2 1=18446744073709551615 by decide +kernel,show wd P2 2=18446744073709551615 by decide +kernel,show wd P2 3=9223372036854775807 by decide +kernel]
 rfl
theorem Rm (a:Nat) (w:World) (ha:a<PN):Calls Tryz.prog 81 #[Aa a] w fun e w'=>e=.returned (Aa (a^(PN-2)%PN))∧Below w.heap.size w w':=by
 have K:=Lh (fun w=>Me a P2 w ha iS)
 rw[gD] at K
 have hP2:a^P2%PN=a^(PN-2)%PN:=rfl
 rw[hP2] at K
 obtain⟨R,hR⟩:=exzb (a^(PN-2)%PN)
 rw[hR] at K
 rw[hR]
 obtain⟨xa,xr,xz,xB⟩:=MT a 36 36 w
 simp only[AL] at K ⊢
 obtain⟨⟨p0,p1,p2,p3⟩,_⟩:=Aq xa
 clear hR hP2
 go_enter Tryz.func81,Tryz.ntmps81
 go_wp2_with fail
 change Calls _ _ _ (A2 a 36 36 w) _
 generalize A2 a 36 36 w=X at *
 refine (K.out X).mono ?_
 rintro e w1 ⟨rfl,hb1⟩
 have xr1:=AT (xr.keep hb1)
 obtain⟨⟨d0,d1,d2,d3⟩,e0,e1,e2,e3⟩:=Aq xr1
 have KL:=Lh (Cm (AN (n:=R) xr1))
 have BR:=Lh (Bg (v0:=.int .u64 (wd R 0:Int)) (v1:=.int .u64 (wd R 1:Int)) (v2:=.int .u64 (wd R 2:Int)) (v3:=.int .u64 (wd R 3:Int)) (xB.trans (hb1.mono (by omega))) (b:=w.heap.size+1) (by omega))
 clear xa xr xr1 xB hb1
 go_wp2_with fail
 exact bodyPost_ret (Ap Tryz.results81 (by rfl) KL.out) rfl ⟨rfl,BR.out⟩
open Go
theorem nm0 (a:Act) (t:Tmp) (v:Value):a.put (some t) v={ tmps:=a.tmps.setIfInBounds t v,defers:=a.defers }:=rfl
theorem nm1 {α:Type} (l:List α) (i:Nat) (a:α):l.toArray.setIfInBounds i a=(l.set i a).toArray:=List.setIfInBounds_toArray l i a
theorem nm2 {α:Type} (x:α) (l:List α) (a:α):(x::l).set 0 a=a::l:=rfl
theorem nm3 {α:Type} (x:α) (l:List α) (i:Nat) (a:α):(x::l).set (i+1) a=x::l.set i a:=rfl
theorem nmA:(∀ (a:Act) (t:Tmp) (v:Value),a.put (some t) v={ tmps:=a.tmps.setIfInBounds t v,defers:=a.defers })∧(∀ (l:List Value) (i:Nat) (a:Value),l.toArray.setIfInBounds i a=(l.set i a).toArray)∧(∀ (α:Type) (x:α) (l:List α) (a:α),(x::l).set 0 a=a::l)∧(∀ (α:Type) (x:α) (l:List α) (i:Nat) (a:α),(x::l).set (i+1) a=x::l.set i a):=⟨fun _ _ _=>rfl,fun l i a=>List.setIfInBounds_toArray l i a,fun _ _ _ _=>rfl,fun _ _ _ _ _=>rfl⟩
end Go.Proofs.YtnaldciakclccaaGreat
