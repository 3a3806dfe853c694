/- prime.rest (layer 19): its contract. prime.Add, prime.Mul (layer 19): contracts. prime.Mul (layer 19): its contract. prime.Pow, prime.Inv (layer 19): contracts. Numbers below p that are compared; prime.Inv (layer 19): its contract. Short names for what an act's slots are rewritten by. No program in it. -/
import Derived.Lib.QuietBelow
import Derived.Test.YtnaldciakclccaaGreatEk04
namespace Go.Proofs.YtnaldciakclccaaGreat
set_option maxRecDepth 20000
set_option linter.unusedSimpArgs false
set_option linter.unusedVariables false
open Go.RowKit
set_option maxHeartbeats 8000000 in
theorem prest_any (lo hi:Nat) (w:World) (hl:lo<B64^4) (hh:hi<B64^4):Calls Tryz.prog 130 #[numV lo,numV hi] w fun e w'=>e=.returned (numV ((hi*B64^4+lo)%PN))∧Below w.heap.size w w':=by
 have KS:=Lib.hid (fun w=>small_any 38 w (by decide))
 have KM:=Lib.hid (fun w=>mul_any hi 38 w hh (by decide +kernel))
 have hm:hi*38%B64^4<B64^4:=Nat.mod_lt _ (by decide)
 have hr:=rise_lt hi hh
 have KA:=Lib.hid (fun w=>add_any lo (hi*38%B64^4) w hl hm)
 have hst:=rest_start lo hi
 have hov:=over_le lo _ hl hm
 have hn:addN lo (hi*38%B64^4)<B64^4:=Nat.mod_lt _ (by decide)
 obtain⟨M,hM⟩:∃ M,hi*38%B64^4=M:=⟨_,rfl⟩
 obtain⟨H,hH⟩:∃ H,hi*38/B64^4=H:=⟨_,rfl⟩
 obtain⟨T,hT⟩:∃ T,(hi*B64^4+lo)%PN=T:=⟨_,rfl⟩
 rw[hM] at hst hov hn KA
 rw[hH] at hst hr
 rw[hM,hH] at KM
 rw[hT] at hst ⊢
 obtain⟨n,hn'⟩:∃ n,addN lo M=n:=⟨_,rfl⟩
 obtain⟨v,hv⟩:∃ v,addK lo M=v:=⟨_,rfl⟩
 rw[hn',hv] at KA hst
 rw[hn'] at hn
 rw[hv] at hov
 have hw0:wd H 0=H:=wd_small H (by omega)
 obtain⟨xa,xb,xr,xz,xB⟩:=a3_at lo hi 24 w
 obtain⟨c38,hc38⟩:∃ c38,c38=38:=⟨38,rfl⟩
 rw[← hc38] at KM
 have KS:Hid (∀ w,Calls Tryz.prog 38 #[.int .u64 38] w fun e w'=>e=.returned (numV c38)∧Below w.heap.size w w'):=fun w=>by rw[hc38];exact KS.out w
 simp only[numV_agg] at KS KM KA ⊢
 have HW0:=Lib.hid hw0
 clear hw0
 have HST:=Lib.hid (And.intro hst (And.intro hr (And.intro hov hn)))
 clear hM hH hT hn' hv hst hr hov hn hm hl hh hc38
 go_enter Tryz.func130,Tryz.ntmps130
 go_wp2_with fail
 change Code.wp _ _ _ _ (A3 lo hi 24 w)
 generalize A3 lo hi 24 w=X at *
 obtain⟨⟨q0,q1,q2,q3⟩,_⟩:=fourV xb
 have XA:=Lib.hid xa
 have XB:=Lib.hid xb
 have XR:=Lib.hid xr
 have XW:=Lib.hid xB
 clear xa xb xr xB
 go_cut [5,6] (fun s5 s6 wc=>∃ b5 b6,s5=.pointer (some ⟨b5,0,none⟩)∧s6=.pointer (some ⟨b6,0,none⟩)∧IsA wc b5 M 24∧IsA wc b6 H 24∧IsA wc w.heap.size lo 24∧IsA wc (w.heap.size+1+1) 0 36∧Below w.heap.size w wc)
 case rest =>
  obtain⟨b5,b6,rfl,rfl,r5,r6,rl,rr,rb⟩:=hcut
  clear XA XB XR XW q0 q1 q2 q3 xz KS KM
  have hw0:=HW0.out
  have hsz:=rb.size
  have l5:=lt_blk r5
  have l6:=lt_blk r6
  obtain⟨⟨p0,p1,p2,p3⟩,_⟩:=fourV rl
  obtain⟨⟨m0,m1,m2,m3⟩,_⟩:=fourV r5
  obtain⟨⟨h0,h1,h2,h3⟩,_⟩:=fourV r6
  have R6:=Lib.hid r6
  have RR:=Lib.hid rr
  have RB:=Lib.hid rb
  clear r5 r6 rl rr rb
  go_wp2_with fail
  refine (KA.out wc).mono ?_
  rintro e w1 ⟨rfl,hb1⟩
  have hs1:=hb1.size
  have R7:Hid (IsA (w1.alloc (.cells #[.int .u64 (wd n 0:Int),.int .u64 (wd n 1:Int),.int .u64 (wd n 2:Int),.int .u64 (wd n 3:Int)] 24)) w1.heap.size n 24):=(alloc_new w1 _ :)
  have r6':=(R6.out.keep hb1).alloc (.cells #[.int .u64 (wd n 0:Int),.int .u64 (wd n 1:Int),.int .u64 (wd n 2:Int),.int .u64 (wd n 3:Int)] 24)
  have RR7:=Lib.hid ((RR.out.keep hb1).alloc (.cells #[.int .u64 (wd n 0:Int),.int .u64 (wd n 1:Int),.int .u64 (wd n 2:Int),.int .u64 (wd n 3:Int)] 24))
  have RB7:=Lib.hid (b_alloc (b_calls hb1 RB.out hsz) (.cells #[.int .u64 (wd n 0:Int),.int .u64 (wd n 1:Int),.int .u64 (wd n 2:Int),.int .u64 (wd n 3:Int)] 24))
  obtain⟨⟨h0,h1,h2,h3⟩,_⟩:=fourV r6'
  rw[hw0] at h0
  have hst:=HST.out
  have hv0:(0:Int)≤(H:Int)+(v:Int):=by omega
  have hv1:(H:Int)+(v:Int)<18446744073709551616:=by omega
  have hvn:(H:Int)+(v:Int)=((H+v:Nat):Int):=by omega
  have HVN:=Lib.hid hvn
  have ha38:H+v≤38:=by omega
  have HA38:=Lib.hid ha38
  have hs7:w.heap.size+3≤w1.heap.size:=by have:=lt_blk RR.out;omega
  have l6':b6<w1.heap.size:=by omega
  clear p0 p1 p2 p3 m0 m1 m2 m3 r6' hb1 hs1 l5 l6 hst hvn ha38 R6 RR RB KA hw0
  go_wp2_with fail
  have hE:(H+v)*B64^4+n=(H+v)*B64^4+n:=rfl
  have hlR:w.heap.size+1+1<w1.heap.size:=by omega
  generalize w1.alloc (.cells #[.int .u64 (wd n 0:Int),.int .u64 (wd n 1:Int),.int .u64 (wd n 2:Int),.int .u64 (wd n 3:Int)] 24)=Y at *
  clear h0 h1 h2 h3 l6' hE
  generalize w1.heap.size=g7 at *
  have HM:=Lib.hid (fun m (hm:m<B64^4) w=>pmod_any m w hm)
  go_loopg [9] ((H+v)*B64^4+n) (fun gk s9 wr=>∃ k m:Nat,s9=.int .u64 (k:Int)∧k≤38∧m<B64^4∧gk=k*B64^4+m∧gk%PN=T∧IsA wr g7 m 24∧IsA wr (w.heap.size+1+1) 0 36∧Below w.heap.size w wr)
  case atStart=>exact⟨H+v,n,by rw[HVN.out],HA38.out,HST.out.2.2.2,rfl,HST.out.1,R7.out,RR7.out,RB7.out⟩
  case round =>
   obtain⟨k,m,rfl,hk,hm,hg,ht,r7,rr,rb⟩:=hrel
   clear HST HVN HA38 R7 RR7 RB7 HW0 hv0 hv1
   have hl7:=lt_blk r7
   have hlr:=lt_blk rr
   have hbs:=rb.size
   obtain⟨⟨p0,p1,p2,p3⟩,g0,g1,g2,g3⟩:=fourV r7
   have X7:=Lib.hid r7
   have XR:=Lib.hid rr
   have XB:=Lib.hid rb
   have HG:=Lib.hid (And.intro hg ht)
   clear r7 rr rb hg ht
   by_cases h0:k=0
   ·have q1:¬ (0:Int)<(k:Int):=by omega
    have KM:=Lib.hid (fun w=>HM.out m hm w)
    have hT:m%PN=T:=by rw[← HG.out.2,HG.out.1,h0,Nat.zero_mul,Nat.zero_add]
    rw[hT] at KM
    simp only[numV_agg] at KM
    clear h0 HM hT HG hk hm
    go_wp2_with fail
    refine (KM.out wr).mono ?_
    rintro e w2 ⟨rfl,hb2⟩
    have xr:=isA_zero' (XR.out.keep hb2)
    obtain⟨⟨d0,d1,d2,d3⟩,e0,e1,e2,e3⟩:=fourV xr
    have KL:=Lib.hid (load_el (isA_set (n:=T) xr))
    have BR:=Lib.hid (b_set4 (v0:=.int .u64 (wd T 0:Int)) (v1:=.int .u64 (wd T 1:Int)) (v2:=.int .u64 (wd T 2:Int)) (v3:=.int .u64 (wd T 3:Int)) (b_calls hb2 XB.out hbs) (b:=w.heap.size+1+1) (by omega))
    clear xr XR XB X7 hb2 g0 g1 g2 g3 KM p0 p1 p2 p3
    go_wp2_with fail
    exact bodyPost_ret (results_arr Tryz.results130 (by rfl) KL.out) rfl ⟨rfl,BR.out⟩
   ·have q1:(0:Int)<(k:Int):=by omega
    have hwr:IntKind.u64.wrap (38*(k:Int))=38*(k:Int):=IntWalk.u64_in _ (by omega)
    have KS:Hid (∀ w,Calls Tryz.prog 38 #[.int .u64 (38*(k:Int))] w fun e w'=>e=.returned (numV (38*k))∧Below w.heap.size w w'):=fun w=>by
     have h:=small_any (38*k) w (by omega)
     push_cast at h
     exact h
    have KA:=Lib.hid (fun w=>add_any m (38*k) w hm (Nat.lt_of_lt_of_le (show 38*k<2000 by omega) (by decide +kernel)))
    have hrr:=rest_round m k
    have hnk:addK m (38*k)≤1:=over_le m (38*k) hm (Nat.lt_of_lt_of_le (show 38*k<2000 by omega) (by decide +kernel))
    have hnm:addN m (38*k)<B64^4:=Nat.mod_lt _ (by decide)
    obtain⟨c,hc⟩:∃ c,38*k=c:=⟨_,rfl⟩
    rw[hc] at KS KA hrr hnk hnm
    obtain⟨m',hm'⟩:∃ m',addN m c=m':=⟨_,rfl⟩
    obtain⟨k',hk'⟩:∃ k',addK m c=k':=⟨_,rfl⟩
    rw[hm',hk'] at KA hrr
    rw[hm'] at hnm
    rw[hk'] at hnk
    have HR:=Lib.hid (And.intro hrr (And.intro hnk (And.intro hnm hc)))
    have HK:=Lib.hid (And.intro h0 hk)
    simp only[numV_agg] at KS KA
    clear HM hrr hnk hnm hc hm' hk' h0 hk hm
    go_wp2_with fail
    go_region_law (first
     | (go_simp;go_at_call 38;go_must (refine (KS.out _).mono ?_);rintro e w3 ⟨rfl,hb3⟩
        have r3:=(show IsA wr.drew _ _ _ from X7.out).keep hb3
        have x3:=(show IsA wr.drew _ _ _ from XR.out).keep hb3
        have B3:=XB.out.drew.trans (hb3.mono XB.out.size)
        obtain⟨⟨k0,k1,k2,k3⟩,f0,f1,f2,f3⟩:=fourV r3)
     | (go_simp;go_at_call 102;go_must (refine (KA.out _).mono ?_);rintro e w4 ⟨rfl,hb4⟩
        have r4:=r3.keep hb4
        have x4:=x3.keep hb4
        have B4:=B3.trans (hb4.mono B3.size)
        obtain⟨⟨m0,m1,m2,m3⟩,h0,h1,h2,h3⟩:=fourV r4))
    all_goals
     have RA:=Lib.hid (isA_set (n:=m') r4)
     have RR:=Lib.hid (x4.far (c:=g7) (v0:=.int .u64 (wd m' 0:Int)) (v1:=.int .u64 (wd m' 1:Int)) (v2:=.int .u64 (wd m' 2:Int)) (v3:=.int .u64 (wd m' 3:Int)) (by omega))
     have BR:=Lib.hid (b_set4 (v0:=.int .u64 (wd m' 0:Int)) (v1:=.int .u64 (wd m' 1:Int)) (v2:=.int .u64 (wd m' 2:Int)) (v3:=.int .u64 (wd m' 3:Int)) B4 (b:=g7) (by omega))
     clear r3 r4 x3 x4 B3 B4
     go_wp2_with fail
     go_roundg (k'*B64^4+m')
     case rel =>
      have h1:=HR.out
      have h2:=HG.out
      refine⟨k',m',rfl,by omega,h1.2.2.1,rfl,?_,RA.out,RR.out,BR.out⟩
      rw[h1.1,← h2.2,h2.1,fold_mod,← h1.2.2.2,Nat.add_comm]
     case measure =>
      have h1:=HR.out
      have h2:=HG.out
      have h3:=HK.out
      have hB:=B4_is
      rw[h1.1,h2.1,hB,← h1.2.2.2]
      omega
 case first =>
  have hxz:w.heap.size+3≤X.heap.size:=by omega
  clear xz
  have hC0:C4 X (w.heap.size+1) hi:=⟨q0,q1,q2,q3⟩
  have hC:C4 X.drew (w.heap.size+1) hi:=⟨q0,q1,q2,q3⟩
  go_region_held3 (fun w'=>w'.cell? ⟨w.heap.size+1,0,none⟩=some (.int .u64 (wd hi 0:Int))∧w'.cell? ⟨w.heap.size+1,1,none⟩=some (.int .u64 (wd hi 1:Int))∧w'.cell? ⟨w.heap.size+1,2,none⟩=some (.int .u64 (wd hi 2:Int))∧w'.cell? ⟨w.heap.size+1,3,none⟩=some (.int .u64 (wd hi 3:Int))) (first | (with_reducible exact hC) | (focus ((repeat (first | (with_reducible assumption) | (with_reducible apply C4.alloc) | (with_reducible apply C4.drew) | (with_reducible apply C4.far) | (with_reducible apply C4.calls) | exact Nat.le_refl _ | omega | (simp;done)));done))) (first
   | (go_at_call 38;go_must (refine (KS.out _).mono ?_);rintro e w3 ⟨rfl,hb3⟩
      have hs3:=hb3.size
      (try simp at hs3)
      try (have N3:w3.heap[X.heap.size]?=some (.cells #[.int .u64 0,.int .u64 0,.int .u64 0,.int .u64 0] 24 (0,0)):=by
             refine keep ?_ hb3
             first
              | exact alloc_new X _
              | exact alloc_keep (alloc_new X _) _
           obtain⟨⟨c0,c1,c2,c3⟩,cf0,cf1,cf2,cf3⟩:=fourV N3)
      try (have M3:w3.heap[X.heap.size+1]?=some (.cells #[.int .u64 0,.int .u64 0,.int .u64 0,.int .u64 0] 24 (0,0)):=by
             refine keep ?_ hb3
             exact alloc_new1 X _ _
           obtain⟨⟨d0,d1,d2,d3⟩,df0,df1,df2,df3⟩:=fourV M3))
   | (go_at_call 99;go_must (refine (KM.out _).mono ?_);rintro e w4 ⟨rfl,hb4⟩
      have hs4:=hb4.size
      (try simp at hs4)
      try (have N4:w4.heap[X.heap.size]?=some (.cells #[.int .u64 0,.int .u64 0,.int .u64 0,.int .u64 0] 24 (0,0)):=by
             refine keep ?_ hb4
             first
              | exact N3
              | exact alloc_keep N3 _
           obtain⟨⟨g0,g1,g2,g3⟩,gf0,gf1,gf2,gf3⟩:=fourV N4
           have ga0:=fun o=>(fourV (alloc_keep N4 o)).1.1
           have ga1:=fun o=>(fourV (alloc_keep N4 o)).1.2.1
           have ga2:=fun o=>(fourV (alloc_keep N4 o)).1.2.2.1
           have ga3:=fun o=>(fourV (alloc_keep N4 o)).1.2.2.2
           have gz0:=fun o=>(fourV (alloc_keep N4 o)).2.1
           have gz1:=fun o=>(fourV (alloc_keep N4 o)).2.2.1
           have gz2:=fun o=>(fourV (alloc_keep N4 o)).2.2.2.1
           have gz3:=fun o=>(fourV (alloc_keep N4 o)).2.2.2.2)
      try (have M4:w4.heap[X.heap.size+1]?=some (.cells #[.int .u64 0,.int .u64 0,.int .u64 0,.int .u64 0] 24 (0,0)):=keep M3 hb4
           obtain⟨⟨h0,h1,h2,h3⟩,hf0,hf1,hf2,hf3⟩:=fourV M4)
      try (have O4:w4.heap[w3.heap.size]?=some (.cells #[.int .u64 0,.int .u64 0,.int .u64 0,.int .u64 0] 24 (0,0)):=by
             refine keep ?_ hb4
             first
              | exact alloc_new w3 _
              | exact alloc_keep (alloc_new w3 _) _
           obtain⟨⟨k0,k1,k2,k3⟩,kf0,kf1,kf2,kf3⟩:=fourV O4
           have ka0:=fun o=>(fourV (alloc_keep O4 o)).1.1
           have ka1:=fun o=>(fourV (alloc_keep O4 o)).1.2.1
           have ka2:=fun o=>(fourV (alloc_keep O4 o)).1.2.2.1
           have ka3:=fun o=>(fourV (alloc_keep O4 o)).1.2.2.2
           have kz0:=fun o=>(fourV (alloc_keep O4 o)).2.1
           have kz1:=fun o=>(fourV (alloc_keep O4 o)).2.2.1
           have kz2:=fun o=>(fourV (alloc_keep O4 o)).2.2.2.1
           have kz3:=fun o=>(fourV (alloc_keep O4 o)).2.2.2.2)
      try (have P4:w4.heap[w3.heap.size+1]?=some (.cells #[.int .u64 0,.int .u64 0,.int .u64 0,.int .u64 0] 24 (0,0)):=by
             refine keep ?_ hb4
             exact alloc_new1 w3 _ _
           obtain⟨⟨m0,m1,m2,m3⟩,mf0,mf1,mf2,mf3⟩:=fourV P4)
      try (have l1:X.heap.size≠w3.heap.size:=by omega
           have l2:w3.heap.size≠X.heap.size:=by omega)
      try (have l3:X.heap.size≠w4.heap.size:=by omega
           have l4:w4.heap.size≠X.heap.size:=by omega)
      try (have l5:w3.heap.size≠w4.heap.size:=by omega
           have l6:w4.heap.size≠w3.heap.size:=by omega)))
  all_goals
   rename_i hH
   clear hH
   have xA:=XA.out
   have xR:=XR.out
   have xW:=XW.out
   go_wp2_with fail
   go_meet
   case rel =>
    refine⟨_,_,rfl,rfl,?_,?_,?_,?_,?_⟩
    all_goals
     (focus ((repeat (first | (with_reducible assumption) | (with_reducible apply isA_set) | (with_reducible exact isA_new _ _ _) | (with_reducible exact isA_a4 _ _ _ _) | (with_reducible exact isA_a2 _ _ _ _) | (with_reducible exact isA_a1 _ _ _ _) | (with_reducible apply IsA.far) | (with_reducible apply IsA.alloc) | (with_reducible apply IsA.drew) | (with_reducible apply isA_calls) | (with_reducible apply b_set4) | (with_reducible apply b_alloc) | (with_reducible apply b_drew) | (with_reducible apply b_calls) | (with_reducible exact alloc_new _ _) | (with_reducible apply alloc_keep) | (with_reducible apply far_keep) | exact Nat.le_refl _ | omega | (simp;done) | (simp;omega)));done))
/-- A slice of numbers below p, four words each. -/
structure IsNums (w:World) (a:Option Addr) (len:Nat) (ns:List Nat):Prop where
 ln:ns.length=len
 lt:∀ n ∈ ns,n<PN
 at_:0<len→∃ b,a=some ⟨b,0,none⟩∧b<w.heap.size∧∀ i k,i<len→k<4→w.cell? ⟨b,i*4+k,none⟩=some (.int .u64 (wd (ns.getD i 0) k:Int))
theorem IsNums.calls {w w':World} {a:Option Addr} {len N:Nat} {ns:List Nat} (hb:Below N w w') (h:IsNums w a len ns) (hN:w.heap.size≤N):IsNums w' a len ns :=
 ⟨h.ln,h.lt,fun h0=>by
  obtain⟨b,rfl,hlt,hc⟩:=h.at_ h0
  exact⟨b,rfl,Nat.lt_of_lt_of_le hlt hb.size,fun i k hi hk=>(hb.cell (p:=⟨b,i*4+k,none⟩) (Nat.lt_of_lt_of_le hlt hN)).trans (hc i k hi hk)⟩⟩
theorem IsNums.below {w w':World} {a:Option Addr} {len:Nat} {ns:List Nat} (h:IsNums w a len ns) (hb:Below w.heap.size w w'):IsNums w' a len ns:=h.calls hb (Nat.le_refl _)
theorem IsNums.far {w:World} {a:Option Addr} {c len:Nat} {ns:List Nat} {v0 v1 v2 v3:Value} (h:IsNums w a len ns) (hne:∀ b,a=some ⟨b,0,none⟩→b≠c):IsNums ((((w.setCell ⟨c,0,none⟩ v0).setCell ⟨c,1,none⟩ v1).setCell ⟨c,2,none⟩ v2).setCell ⟨c,3,none⟩ v3) a len ns :=
 ⟨h.ln,h.lt,fun h0=>by
  obtain⟨b,e,hlt,hc⟩:=h.at_ h0
  refine⟨b,e,by simp only[set_size];exact hlt,fun i k hi hk=>?_⟩
  rw[← hc i k hi hk]
  simp only[World.cell?,set4_far (hne b e)]⟩
theorem getD_ltP {ns:List Nat} (h:∀ n ∈ ns,n<PN) (i:Nat):ns.getD i 0<PN:=by
 by_cases hi:i<ns.length
 ·rw[List.getD_eq_getElem?_getD,List.getElem?_eq_getElem hi]
  exact h _ (List.getElem_mem hi)
 ·rw[List.getD_eq_getElem?_getD,List.getElem?_eq_none (by omega)]
  exact PN_pos
/-- The first k numbers' sum. -/
def sumP (ns:List Nat):Nat→Nat
 | 0=>0
 | k+1=>(sumP ns k+ns.getD k 0)%PN
theorem sumP_lt (ns:List Nat):∀ k,sumP ns k<PN
 | 0=>PN_pos
 | _+1=>Nat.mod_lt _ PN_pos
def A0 (t u:TypeId) (w:World):World:=(w.alloc (.cells #[.int .u64 0,.int .u64 0,.int .u64 0,.int .u64 0] t)).alloc (.cells #[.int .u64 0,.int .u64 0,.int .u64 0,.int .u64 0] u)
theorem a0_at (t u:TypeId) (w:World):IsA (A0 t u w) w.heap.size 0 t∧IsA (A0 t u w) (w.heap.size+1) 0 u∧(A0 t u w).heap.size=w.heap.size+2∧Below w.heap.size w (A0 t u w) :=
 ⟨isA_zero (alloc_keep (alloc_new w _) _),isA_zero (alloc_new1 w _ _),by unfold A0;simp,gr_alloc (gr_alloc (Below.refl _ _) _) _⟩
theorem add_fits (a b:Nat) (ha:a<PN) (hb:b<PN):addN a b%PN=(a+b)%PN:=by
 unfold addN
 rw[Nat.mod_eq_of_lt (show a+b<B64^4 by have:=B4_gt;omega)]
set_option maxHeartbeats 8000000 in
theorem padd_any (a:Option Addr) (len cap:Nat) (ns:List Nat) (w:World) (hl:len≤100) (hn:IsNums w a len ns) :
    Calls Tryz.prog 77 #[.slice a len cap] w fun e w'=>e=.returned (numV (sumP ns len))∧Below w.heap.size w w':=by
 have HA0:Hid (∀ b,a=some ⟨b,0,none⟩→0<len→b<w.heap.size):=fun b e h0=>by
  obtain⟨b',e',hlt,_⟩:=hn.at_ h0
  rw[e] at e'
  cases e'
  exact hlt
 obtain⟨xr,xs,xz,xB⟩:=a0_at 36 36 w
 have HN:=Lib.hid (hn.below xB)
 clear hn
 go_enter Tryz.func77,Tryz.ntmps77
 go_wp2_with fail
 change Code.wp _ _ _ _ (A0 36 36 w)
 generalize A0 36 36 w=X at *
 have HX:=Lib.hid (And.intro xr (And.intro xs xB))
 clear xr xs xB xz
 go_loopw [10] (fun i wr=>∃ k:Nat,k≤len∧i=.int .i64 (k:Int)∧IsA wr (w.heap.size+1) (sumP ns k) 36∧IsA wr w.heap.size 0 36∧IsNums wr a len ns∧Below w.heap.size w wr) (fun i _=>len-(Go.RowKit.intOf i).toNat)
 case atStart=>exact⟨0,by omega,rfl,HX.out.2.1,HX.out.1,HN.out,HX.out.2.2⟩
 case round =>
  obtain⟨k,hk,rfl,rs,rr,hn,hbe⟩:=hrel
  clear HX HN
  have hs:=hbe.size
  have hls:=lt_blk rs
  by_cases hlt:k<len
  ·have p1:(k:Int)<(len:Int):=by omega
   obtain⟨b,rfl,hb,hc⟩:=hn.at_ (by omega)
   have hne:=HA0.out b rfl (by omega)
   have c0:wr.cell? ⟨b,k*4,none⟩=_:=hc k 0 hlt (by omega)
   have c1:=hc k 1 hlt (by omega)
   have c2:=hc k 2 hlt (by omega)
   have c3:=hc k 3 hlt (by omega)
   have hstep:sumP ns (k+1)=(sumP ns k+ns.getD k 0)%PN:=rfl
   have hxP:=getD_ltP hn.lt k
   have hsP:=sumP_lt ns k
   obtain⟨S,hS⟩:∃ S,sumP ns k=S:=⟨_,rfl⟩
   obtain⟨Y,hY⟩:∃ Y,ns.getD k 0=Y:=⟨_,rfl⟩
   rw[hS] at rs hsP hstep
   rw[hY] at c0 c1 c2 c3 hxP hstep
   have KA:=Lib.hid (fun w=>add_any S Y w (of_PN hsP) (of_PN hxP))
   have KM:=Lib.hid (fun w=>pmod_any (addN S Y) w (Nat.mod_lt _ (by decide)))
   rw[add_fits S Y hsP hxP] at KM
   obtain⟨R,hR⟩:∃ R,(S+Y)%PN=R:=⟨_,rfl⟩
   obtain⟨A,hAA⟩:∃ A,addN S Y=A:=⟨_,rfl⟩
   obtain⟨C,hC⟩:∃ C,addK S Y=C:=⟨_,rfl⟩
   rw[hAA,hC] at KA
   rw[hAA,hR] at KM
   rw[hR] at hstep
   have HS:=Lib.hid hstep
   simp only[numV_agg] at KA KM
   obtain⟨⟨s0,s1,s2,s3⟩,_⟩:=fourV rs
   have RS:=Lib.hid (rs.alloc (.cells #[.int .u64 (wd Y 0:Int),.int .u64 (wd Y 1:Int),.int .u64 (wd Y 2:Int),.int .u64 (wd Y 3:Int)] 36))
   have RR:=Lib.hid (rr.alloc (.cells #[.int .u64 (wd Y 0:Int),.int .u64 (wd Y 1:Int),.int .u64 (wd Y 2:Int),.int .u64 (wd Y 3:Int)] 36))
   have RB:=Lib.hid (b_alloc hbe (.cells #[.int .u64 (wd Y 0:Int),.int .u64 (wd Y 1:Int),.int .u64 (wd Y 2:Int),.int .u64 (wd Y 3:Int)] 36))
   have RN:=Lib.hid (hn.below ((Below.refl wr.heap.size wr).alloc (Nat.le_refl _) (.cells #[.int .u64 (wd Y 0:Int),.int .u64 (wd Y 1:Int),.int .u64 (wd Y 2:Int),.int .u64 (wd Y 3:Int)] 36)))
   obtain⟨⟨u0,u1,u2,u3⟩,_⟩:=fourV RS.out
   clear hc hS hY hR hAA hC hstep hxP hsP rs rr hbe hn
   go_wp2_with fail
   refine (KA.out _).mono ?_
   rintro e w2 ⟨rfl,hb2⟩
   have hs2:=hb2.size
   have hs2':wr.heap.size+1≤w2.heap.size:=by rw[alloc_size1] at hs2;exact hs2
   have RS2:=Lib.hid ((RS.out.keep hb2).alloc (.cells #[.int .u64 (wd A 0:Int),.int .u64 (wd A 1:Int),.int .u64 (wd A 2:Int),.int .u64 (wd A 3:Int)] 24))
   have RR2:=Lib.hid ((RR.out.keep hb2).alloc (.cells #[.int .u64 (wd A 0:Int),.int .u64 (wd A 1:Int),.int .u64 (wd A 2:Int),.int .u64 (wd A 3:Int)] 24))
   have RB2:=Lib.hid (b_alloc (b_calls hb2 RB.out (by rw[alloc_size1];omega)) (.cells #[.int .u64 (wd A 0:Int),.int .u64 (wd A 1:Int),.int .u64 (wd A 2:Int),.int .u64 (wd A 3:Int)] 24))
   have RN2:=Lib.hid ((RN.out.below hb2).below ((Below.refl w2.heap.size w2).alloc (Nat.le_refl _) (.cells #[.int .u64 (wd A 0:Int),.int .u64 (wd A 1:Int),.int .u64 (wd A 2:Int),.int .u64 (wd A 3:Int)] 24)))
   clear RS RR RB RN hb2 hs2 u0 u1 u2 u3 s0 s1 s2 s3 KA c0 c1 c2 c3
   go_wp2_with fail
   refine (KM.out _).mono ?_
   rintro e w3 ⟨rfl,hb3⟩
   have hs3:=hb3.size
   have hs3':w2.heap.size+1≤w3.heap.size:=by rw[alloc_size1] at hs3;exact hs3
   have rs3:=RS2.out.keep hb3
   obtain⟨⟨d0,d1,d2,d3⟩,e0,e1,e2,e3⟩:=fourV rs3
   have RS3:=Lib.hid (isA_set (n:=R) rs3)
   have RR3:=Lib.hid ((RR2.out.keep hb3).far (c:=w.heap.size+1) (v0:=.int .u64 (wd R 0:Int)) (v1:=.int .u64 (wd R 1:Int)) (v2:=.int .u64 (wd R 2:Int)) (v3:=.int .u64 (wd R 3:Int)) (by omega))
   have RB3:=Lib.hid (b_set4 (b_calls hb3 RB2.out (by rw[alloc_size1];omega)) (v0:=.int .u64 (wd R 0:Int)) (v1:=.int .u64 (wd R 1:Int)) (v2:=.int .u64 (wd R 2:Int)) (v3:=.int .u64 (wd R 3:Int)) (b:=w.heap.size+1) (by omega))
   have RN3:=Lib.hid ((RN2.out.below hb3).far (c:=w.heap.size+1) (v0:=.int .u64 (wd R 0:Int)) (v1:=.int .u64 (wd R 1:Int)) (v2:=.int .u64 (wd R 2:Int)) (v3:=.int .u64 (wd R 3:Int)) (fun q hq=>by cases hq;omega))
   clear RS2 RR2 RB2 RN2 hb3 hs3 rs3 KM
   go_wp2_with fail
   go_roundw
   case rel=>exact⟨k+1,by omega,congrArg (Value.int .i64) (by omega),by rw[HS.out];exact RS3.out,RR3.out,RN3.out,RB3.out⟩
   case measure =>
    simp[Go.RowKit.intOf]
    omega
  ·obtain rfl:k=len:=by omega
   have p1:¬ (k:Int)<(k:Int):=by omega
   obtain⟨R,hR⟩:∃ R,sumP ns k=R:=⟨_,rfl⟩
   rw[hR] at rs
   have HR2:=Lib.hid hR
   obtain⟨⟨s0,s1,s2,s3⟩,_⟩:=fourV rs
   have xr:=isA_zero' rr
   obtain⟨⟨d0,d1,d2,d3⟩,e0,e1,e2,e3⟩:=fourV xr
   have KL:=Lib.hid (load_el (isA_set (n:=R) xr))
   have BR:=Lib.hid (b_set4 (v0:=.int .u64 (wd R 0:Int)) (v1:=.int .u64 (wd R 1:Int)) (v2:=.int .u64 (wd R 2:Int)) (v3:=.int .u64 (wd R 3:Int)) hbe (b:=w.heap.size) (by omega))
   clear hR hn rs rr xr hbe
   go_wp2_with fail
   exact bodyPost_ret (results_arr Tryz.results77 (by rfl) KL.out) rfl ⟨by rw[HR2.out],BR.out⟩
/-- The product of the first number and the k behind it. -/
def prodP (ns:List Nat):Nat→Nat
 | 0=>ns.getD 0 0
 | k+1=>prodP ns k*ns.getD (k+1) 0%PN
theorem prodP_lt (ns:List Nat) (h:∀ n ∈ ns,n<PN):∀ k,prodP ns k<PN
 | 0=>getD_ltP h 0
 | _+1=>Nat.mod_lt _ PN_pos
/-- What Mul answers. -/
def mulP (ns:List Nat):Nat→Nat
 | 0=>1
 | k+1=>prodP ns k
theorem mul_rest (a b:Nat):(a*b/B64^4*B64^4+a*b%B64^4)%PN=a*b%PN:=by
 rw[Nat.mul_comm (a*b/B64^4),Nat.div_add_mod]
set_option maxHeartbeats 8000000 in
theorem pmul_any (a:Option Addr) (len cap:Nat) (ns:List Nat) (w:World) (hl:len≤100) (hcap:len≤cap) (hn:IsNums w a len ns) :
    Calls Tryz.prog 76 #[.slice a len cap] w fun e w'=>e=.returned (numV (mulP ns len))∧Below w.heap.size w w':=by
 by_cases hl0:len=0
 ·subst hl0
  have K1:=Lib.hid (fun w=>psmall_any 1 w (by decide))
  obtain⟨xr,xz,xB⟩:=z1_at 36 w
  have m1:mulP ns 0=1:=rfl
  rw[m1]
  obtain⟨c1,hc1⟩:∃ c1,c1=1:=⟨1,rfl⟩
  have K1:Hid (∀ w,Calls Tryz.prog 34 #[.int .u64 1] w fun e w'=>e=.returned (numV c1)∧Below w.heap.size w w'):=fun w=>by rw[hc1];exact K1.out w
  rw[← hc1]
  simp only[numV_agg] at K1 ⊢
  clear hc1 m1
  go_enter Tryz.func76,Tryz.ntmps76
  go_wp2_with fail
  change Calls _ _ _ (Z1 36 w) _
  generalize Z1 36 w=X at *
  refine (K1.out X).mono ?_
  rintro e w1 ⟨rfl,hb1⟩
  have xr1:=isA_zero' (xr.keep hb1)
  obtain⟨⟨d0,d1,d2,d3⟩,e0,e1,e2,e3⟩:=fourV xr1
  have KL:=Lib.hid (load_el (isA_set (n:=c1) xr1))
  have BR:=Lib.hid (b_set4 (v0:=.int .u64 (wd c1 0:Int)) (v1:=.int .u64 (wd c1 1:Int)) (v2:=.int .u64 (wd c1 2:Int)) (v3:=.int .u64 (wd c1 3:Int)) (b_calls hb1 xB (by omega)) (b:=w.heap.size) (Nat.le_refl _))
  clear xr xr1 xB hb1
  go_wp2_with fail
  exact bodyPost_ret (results_arr Tryz.results76 (by rfl) KL.out) rfl ⟨rfl,BR.out⟩
 ·obtain⟨b,rfl,hb,hc⟩:=hn.at_ (by omega)
  obtain⟨xr,xz,xB⟩:=z1_at 36 w
  have HN:=Lib.hid (hn.below xB)
  have HLT:=Lib.hid hn.lt
  have c0:w.cell? ⟨b,0,none⟩=_:=hc 0 0 (by omega) (by omega)
  have c1:w.cell? ⟨b,1,none⟩=_:=hc 0 1 (by omega) (by omega)
  have c2:w.cell? ⟨b,2,none⟩=_:=hc 0 2 (by omega) (by omega)
  have c3:w.cell? ⟨b,3,none⟩=_:=hc 0 3 (by omega) (by omega)
  have p0:((len:Int) == 0)=false:=by simp;omega
  have p1:(0:Int)<(len:Int):=by omega
  have p2:(1:Int)≤(len:Int):=by omega
  have p3:(len:Int)≤(cap:Int):=by omega
  have hP0:prodP ns 0=ns.getD 0 0:=rfl
  obtain⟨S,hS⟩:∃ S,ns.getD 0 0=S:=⟨_,rfl⟩
  rw[hS] at c0 c1 c2 c3 hP0
  have HP0:=Lib.hid hP0
  have HXR:=Lib.hid xr
  have HXB:=Lib.hid xB
  have HL0:=Lib.hid hl0
  clear hn hc hS hP0 xr xB hl0
  have XS:=Lib.hid (show IsA ((Z1 36 w).alloc (.cells #[.int .u64 (wd S 0:Int),.int .u64 (wd S 1:Int),.int .u64 (wd S 2:Int),.int .u64 (wd S 3:Int)] 36)) (Z1 36 w).heap.size S 36 from alloc_new _ _)
  rw[xz] at XS
  have XR:=Lib.hid (HXR.out.alloc (.cells #[.int .u64 (wd S 0:Int),.int .u64 (wd S 1:Int),.int .u64 (wd S 2:Int),.int .u64 (wd S 3:Int)] 36))
  have XB:=Lib.hid (b_alloc HXB.out (.cells #[.int .u64 (wd S 0:Int),.int .u64 (wd S 1:Int),.int .u64 (wd S 2:Int),.int .u64 (wd S 3:Int)] 36))
  have XN:=Lib.hid (HN.out.below ((Below.refl (Z1 36 w).heap.size _).alloc (Nat.le_refl _) (.cells #[.int .u64 (wd S 0:Int),.int .u64 (wd S 1:Int),.int .u64 (wd S 2:Int),.int .u64 (wd S 3:Int)] 36)))
  have hXs:((Z1 36 w).alloc (.cells #[.int .u64 (wd S 0:Int),.int .u64 (wd S 1:Int),.int .u64 (wd S 2:Int),.int .u64 (wd S 3:Int)] 36)).heap.size=w.heap.size+2:=by rw[alloc_size1,xz]
  clear HXR HXB HN xz
  by_cases hc1:cap=1
  ·obtain rfl:len=1:=by omega
   subst hc1
   have hM:mulP ns 1=S:=HP0.out
   rw[hM]
   clear hM HP0
   go_enter Tryz.func76,Tryz.ntmps76
   go_wp2_with fail
   change Code.wp _ _ _ _ ((Z1 36 w).alloc (.cells #[.int .u64 (wd S 0:Int),.int .u64 (wd S 1:Int),.int .u64 (wd S 2:Int),.int .u64 (wd S 3:Int)] 36))
   generalize (Z1 36 w).alloc (.cells #[.int .u64 (wd S 0:Int),.int .u64 (wd S 1:Int),.int .u64 (wd S 2:Int),.int .u64 (wd S 3:Int)] 36)=X at *
   refine wp_loop_rounds 1 ?_
   rw[rounds_succ]
   have rs:=XS.out
   have rr:=XR.out
   have hbe:=XB.out
   obtain⟨R,hR⟩:∃ R,S=R:=⟨_,rfl⟩
   subst hR
   obtain⟨⟨s0,s1,s2,s3⟩,_⟩:=fourV rs
   have xr:=isA_zero' rr
   obtain⟨⟨d0,d1,d2,d3⟩,e0,e1,e2,e3⟩:=fourV xr
   have KL:=Lib.hid (load_el (isA_set (n:=S) xr))
   have BR:=Lib.hid (b_set4 (v0:=.int .u64 (wd S 0:Int)) (v1:=.int .u64 (wd S 1:Int)) (v2:=.int .u64 (wd S 2:Int)) (v3:=.int .u64 (wd S 3:Int)) hbe (b:=w.heap.size) (by omega))
   clear rs rr hbe xr XS XR XB XN
   go_wp2_with fail
   exact bodyPost_ret (results_arr Tryz.results76 (by rfl) KL.out) rfl ⟨rfl,BR.out⟩
  ·have hM:mulP ns len=prodP ns (len-1):=by
     obtain⟨j,rfl⟩:∃ j,len=j+1:=⟨len-1,by omega⟩
     rfl
   have HM:=Lib.hid hM
   have p4:((len-1:Nat):Int)≤100:=by omega
   clear hM
   go_enter Tryz.func76,Tryz.ntmps76
   go_wp2_with fail
   change Code.wp _ _ _ _ ((Z1 36 w).alloc (.cells #[.int .u64 (wd S 0:Int),.int .u64 (wd S 1:Int),.int .u64 (wd S 2:Int),.int .u64 (wd S 3:Int)] 36))
   generalize (Z1 36 w).alloc (.cells #[.int .u64 (wd S 0:Int),.int .u64 (wd S 1:Int),.int .u64 (wd S 2:Int),.int .u64 (wd S 3:Int)] 36)=X at *
   clear c0 c1 c2 c3
   go_loopw [16] (fun i wr=>∃ k:Nat,k≤len-1∧i=.int .i64 (k:Int)∧IsA wr (w.heap.size+1) (prodP ns k) 36∧IsA wr w.heap.size 0 36∧IsNums wr (some ⟨b,0,none⟩) len ns∧Below w.heap.size w wr) (fun i _=>len-1-(Go.RowKit.intOf i).toNat)
   case atStart=>exact⟨0,by omega,rfl,by rw[HP0.out];exact XS.out,XR.out,XN.out,XB.out⟩
   case round =>
    obtain⟨k,hk,rfl,rs,rr,hn,hbe⟩:=hrel
    clear XS XR XB XN HP0 hXs
    have hs:=hbe.size
    have hls:=lt_blk rs
    have hsP:=prodP_lt ns HLT.out k
    by_cases hlt:k<len-1
    ·have q1:(k:Int)<((len-1:Nat):Int):=by omega
     obtain⟨b',hbb,hb',hc⟩:=hn.at_ (by omega)
     cases hbb
     have c0:wr.cell? ⟨b,4+k*4,none⟩=some (.int .u64 (wd (ns.getD (k+1) 0) 0:Int)):=by have h:=hc (k+1) 0 (by omega) (by omega);rw[show (k+1)*4+0=4+k*4 by omega] at h;exact h
     have c1:wr.cell? ⟨b,4+k*4+1,none⟩=some (.int .u64 (wd (ns.getD (k+1) 0) 1:Int)):=by have h:=hc (k+1) 1 (by omega) (by omega);rw[show (k+1)*4+1=4+k*4+1 by omega] at h;exact h
     have c2:wr.cell? ⟨b,4+k*4+2,none⟩=some (.int .u64 (wd (ns.getD (k+1) 0) 2:Int)):=by have h:=hc (k+1) 2 (by omega) (by omega);rw[show (k+1)*4+2=4+k*4+2 by omega] at h;exact h
     have c3:wr.cell? ⟨b,4+k*4+3,none⟩=some (.int .u64 (wd (ns.getD (k+1) 0) 3:Int)):=by have h:=hc (k+1) 3 (by omega) (by omega);rw[show (k+1)*4+3=4+k*4+3 by omega] at h;exact h
     have hstep:prodP ns (k+1)=prodP ns k*ns.getD (k+1) 0%PN:=rfl
     have hxP:=getD_ltP HLT.out (k+1)
     obtain⟨P,hP⟩:∃ P,prodP ns k=P:=⟨_,rfl⟩
     obtain⟨Y,hY⟩:∃ Y,ns.getD (k+1) 0=Y:=⟨_,rfl⟩
     rw[hP] at rs hsP hstep
     rw[hY] at c0 c1 c2 c3 hxP hstep
     have KA:=Lib.hid (fun w=>mul_any P Y w (of_PN hsP) (of_PN hxP))
     have KM:=Lib.hid (fun w=>prest_any (P*Y%B64^4) (P*Y/B64^4) w (Nat.mod_lt _ (by decide)) (Nat.div_lt_of_lt_mul (Nat.mul_lt_mul'' (of_PN hsP) (of_PN hxP))))
     rw[mul_rest P Y] at KM
     obtain⟨R,hR⟩:∃ R,P*Y%PN=R:=⟨_,rfl⟩
     obtain⟨A,hAA⟩:∃ A,P*Y%B64^4=A:=⟨_,rfl⟩
     obtain⟨C,hC⟩:∃ C,P*Y/B64^4=C:=⟨_,rfl⟩
     rw[hAA,hC] at KA
     rw[hAA,hC,hR] at KM
     rw[hR] at hstep
     have HS:=Lib.hid hstep
     simp only[numV_agg] at KA KM
     obtain⟨⟨s0,s1,s2,s3⟩,_⟩:=fourV rs
     have RS:=Lib.hid (rs.alloc (.cells #[.int .u64 (wd Y 0:Int),.int .u64 (wd Y 1:Int),.int .u64 (wd Y 2:Int),.int .u64 (wd Y 3:Int)] 36))
     have RR:=Lib.hid (rr.alloc (.cells #[.int .u64 (wd Y 0:Int),.int .u64 (wd Y 1:Int),.int .u64 (wd Y 2:Int),.int .u64 (wd Y 3:Int)] 36))
     have RB:=Lib.hid (b_alloc hbe (.cells #[.int .u64 (wd Y 0:Int),.int .u64 (wd Y 1:Int),.int .u64 (wd Y 2:Int),.int .u64 (wd Y 3:Int)] 36))
     have RN:=Lib.hid (hn.below ((Below.refl wr.heap.size wr).alloc (Nat.le_refl _) (.cells #[.int .u64 (wd Y 0:Int),.int .u64 (wd Y 1:Int),.int .u64 (wd Y 2:Int),.int .u64 (wd Y 3:Int)] 36)))
     obtain⟨⟨u0,u1,u2,u3⟩,_⟩:=fourV RS.out
     clear hc hP hY hR hAA hC hstep hxP hsP rs rr hbe hn
     go_wp2_with fail
     refine (KA.out _).mono ?_
     rintro e w2 ⟨rfl,hb2⟩
     have hs2:=hb2.size
     have hs2':wr.heap.size+1≤w2.heap.size:=by rw[alloc_size1] at hs2;exact hs2
     have RS2:=Lib.hid (RS.out.keep hb2)
     have RR2:=Lib.hid (RR.out.keep hb2)
     have RB2:=Lib.hid (b_calls hb2 RB.out (by rw[alloc_size1];omega))
     have RN2:=Lib.hid (RN.out.below hb2)
     clear RS RR RB RN hb2 hs2 u0 u1 u2 u3 s0 s1 s2 s3 KA c0 c1 c2 c3
     go_wp2_with fail
     refine (KM.out _).mono ?_
     rintro e w3 ⟨rfl,hb3⟩
     have hs3:=hb3.size
     have rs3:=RS2.out.keep hb3
     obtain⟨⟨d0,d1,d2,d3⟩,e0,e1,e2,e3⟩:=fourV rs3
     have RS3:=Lib.hid (isA_set (n:=R) rs3)
     have RR3:=Lib.hid ((RR2.out.keep hb3).far (c:=w.heap.size+1) (v0:=.int .u64 (wd R 0:Int)) (v1:=.int .u64 (wd R 1:Int)) (v2:=.int .u64 (wd R 2:Int)) (v3:=.int .u64 (wd R 3:Int)) (by omega))
     have RB3:=Lib.hid (b_set4 (b_calls hb3 RB2.out (by omega)) (v0:=.int .u64 (wd R 0:Int)) (v1:=.int .u64 (wd R 1:Int)) (v2:=.int .u64 (wd R 2:Int)) (v3:=.int .u64 (wd R 3:Int)) (b:=w.heap.size+1) (by omega))
     have RN3:=Lib.hid ((RN2.out.below hb3).far (c:=w.heap.size+1) (v0:=.int .u64 (wd R 0:Int)) (v1:=.int .u64 (wd R 1:Int)) (v2:=.int .u64 (wd R 2:Int)) (v3:=.int .u64 (wd R 3:Int)) (fun q hq=>by cases hq;omega))
     clear RS2 RR2 RB2 RN2 hb3 rs3 KM
     go_wp2_with fail
     go_roundw
     case rel=>exact⟨k+1,by omega,congrArg (Value.int .i64) (by omega),by rw[HS.out];exact RS3.out,RR3.out,RN3.out,RB3.out⟩
     case measure =>
      simp[Go.RowKit.intOf]
      omega
    ·obtain⟨k',hk'⟩:∃ k',len-1=k':=⟨_,rfl⟩
     have HK:=Lib.hid (show k=len-1 by omega)
     have q1:¬ (k:Int)<((len-1:Nat):Int):=by omega
     obtain⟨R,hR⟩:∃ R,prodP ns k=R:=⟨_,rfl⟩
     rw[hR] at rs
     have HR2:=Lib.hid hR
     obtain⟨⟨s0,s1,s2,s3⟩,_⟩:=fourV rs
     have xr:=isA_zero' rr
     obtain⟨⟨d0,d1,d2,d3⟩,e0,e1,e2,e3⟩:=fourV xr
     have KL:=Lib.hid (load_el (isA_set (n:=R) xr))
     have BR:=Lib.hid (b_set4 (v0:=.int .u64 (wd R 0:Int)) (v1:=.int .u64 (wd R 1:Int)) (v2:=.int .u64 (wd R 2:Int)) (v3:=.int .u64 (wd R 3:Int)) hbe (b:=w.heap.size) (by omega))
     clear hR hn rs rr xr hbe hk' hsP hlt
     go_wp2_with fail
     exact bodyPost_ret (results_arr Tryz.results76 (by rfl) KL.out) rfl ⟨by rw[HM.out,← HK.out,HR2.out],BR.out⟩
theorem two_of {W:World} {b p q:Nat} (h:W.heap[b]?=some (.cells #[.int .u64 (wd p 0:Int),.int .u64 (wd p 1:Int),.int .u64 (wd p 2:Int),.int .u64 (wd p 3:Int),.int .u64 (wd q 0:Int),.int .u64 (wd q 1:Int),.int .u64 (wd q 2:Int),.int .u64 (wd q 3:Int)] 36 (0,0))) (hp:p<PN) (hq:q<PN):IsNums W (some ⟨b,0,none⟩) 2 [p,q]:=by
 refine⟨rfl,fun n hn=>?_,fun _=>⟨b,rfl,lt_blk h,fun i k hi hk=>?_⟩⟩
 ·simp at hn
  rcases hn with rfl | rfl <;> assumption
 ·have hi2:i=0∨i=1:=by omega
  have hk4:k=0∨k=1∨k=2∨k=3:=by omega
  rcases hi2 with rfl | rfl <;> rcases hk4 with rfl | rfl | rfl | rfl <;> simp[World.cell?,h]
theorem mul_two (p q:Nat) (hp:p<PN) (hq:q<PN) (b:Nat) (W:World) (h:W.heap[b]?=some (.cells #[.int .u64 (wd p 0:Int),.int .u64 (wd p 1:Int),.int .u64 (wd p 2:Int),.int .u64 (wd p 3:Int),.int .u64 (wd q 0:Int),.int .u64 (wd q 1:Int),.int .u64 (wd q 2:Int),.int .u64 (wd q 3:Int)] 36 (0,0))) :
    Calls Tryz.prog 76 #[.slice (some ⟨b,0,none⟩) 2 2] W fun e w'=>e=.returned (numV (p*q%PN))∧Below W.heap.size W w' :=
 pmul_any (some ⟨b,0,none⟩) 2 2 [p,q] W (by omega) (by omega) (two_of h hp hq)
theorem add_two (p q:Nat) (hp:p<PN) (hq:q<PN) (b:Nat) (W:World) (h:W.heap[b]?=some (.cells #[.int .u64 (wd p 0:Int),.int .u64 (wd p 1:Int),.int .u64 (wd p 2:Int),.int .u64 (wd p 3:Int),.int .u64 (wd q 0:Int),.int .u64 (wd q 1:Int),.int .u64 (wd q 2:Int),.int .u64 (wd q 3:Int)] 36 (0,0))) :
    Calls Tryz.prog 77 #[.slice (some ⟨b,0,none⟩) 2 2] W fun e w'=>e=.returned (numV ((p+q)%PN))∧Below W.heap.size W w':=by
 have h2:=padd_any (some ⟨b,0,none⟩) 2 2 [p,q] W (by omega) (two_of h hp hq)
 have e:sumP [p,q] 2=(p+q)%PN:=by
  show ((0+p)%PN+q)%PN=_
  rw[Nat.zero_add,Nat.mod_eq_of_lt hp]
 rw[e] at h2
 exact h2
/-- What the first steps come to. -/
def powN (a k j:Nat):Nat:=a^(k/2^j)%PN
theorem powN_lt (a k j:Nat):powN a k j<PN:=Nat.mod_lt _ PN_pos
theorem powN_next (a k j:Nat):powN a k j=if bitN k j=1 then powN a k (j+1)*powN a k (j+1)%PN*a%PN else powN a k (j+1)*powN a k (j+1)%PN:=by
 have hd:k/2^j=2*(k/2^(j+1))+bitN k j:=by
  unfold bitN
  rw[Nat.pow_succ,← Nat.div_div_eq_div_mul]
  omega
 have hb:=bitN_lt k j
 unfold powN
 rw[hd,Nat.pow_add,Nat.two_mul,Nat.pow_add,← Nat.mul_mod]
 split
 ·rename_i h
  rw[h,Nat.pow_one]
  exact (Nat.mul_mod _ a PN).trans (by rw[Nat.mul_mod (_%PN) a PN,Nat.mod_mod])
 ·rename_i h
  have h0:bitN k j=0:=by omega
  rw[h0,Nat.pow_zero,Nat.mul_one]
theorem powN_start (a k:Nat):powN a k (Go.bitLen k)=1:=by
 unfold powN
 rw[Nat.div_eq_of_lt (Go.bitLen_spec k).1,Nat.pow_zero]
 decide +kernel
theorem bitLen_256 (k:Nat) (h:k<B64^4):Go.bitLen k≤256:=by
 rcases Nat.lt_or_ge 256 (Go.bitLen k) with hl | hl
 ·have h0:k≠0:=fun e=>by subst e;revert hl;decide
  have h1:=(Go.bitLen_spec k).2 h0
  have h2:2^256≤2^(Go.bitLen k-1):=Nat.pow_le_pow_right (by decide) (by omega)
  have h3:(2:Nat)^256=B64^4:=by decide +kernel
  omega
 ·exact hl
def A3p (a k:Nat) (w:World):World:=((w.alloc (.cells #[.int .u64 (wd a 0:Int),.int .u64 (wd a 1:Int),.int .u64 (wd a 2:Int),.int .u64 (wd a 3:Int)] 36)).alloc (.cells #[.int .u64 (wd k 0:Int),.int .u64 (wd k 1:Int),.int .u64 (wd k 2:Int),.int .u64 (wd k 3:Int)] 24)).alloc (.cells #[.int .u64 0,.int .u64 0,.int .u64 0,.int .u64 0] 36)
theorem a3p_at (a k:Nat) (w:World):IsA (A3p a k w) w.heap.size a 36∧IsA (A3p a k w) (w.heap.size+1) k 24∧IsA (A3p a k w) (w.heap.size+1+1) 0 36∧(A3p a k w).heap.size=w.heap.size+3∧Below w.heap.size w (A3p a k w):=by
 unfold A3p
 refine⟨(isA_a1 w a _ _).alloc _,(alloc_keep (alloc_new1 w _ _) _:_),isA_zero (alloc_new2 w _ _ _),by simp,gr_alloc (gr_alloc (gr_alloc (Below.refl _ _) _) _) _⟩
set_option maxHeartbeats 8000000 in
theorem ppow_any (a k:Nat) (w:World) (ha:a<PN) (hk:k<B64^4) :
    Calls Tryz.prog 133 #[numV a,numV k] w fun e w'=>e=.returned (numV (a^k%PN))∧Below w.heap.size w w':=by
 have KS:=Lib.hid (fun w=>psmall_any 1 w (by decide))
 obtain⟨c1,hc1⟩:∃ c1,c1=1:=⟨1,rfl⟩
 have KS:Hid (∀ w,Calls Tryz.prog 34 #[.int .u64 1] w fun e w'=>e=.returned (numV c1)∧Below w.heap.size w w'):=fun w=>by rw[hc1];exact KS.out w
 have KL:=Lib.hid (fun w=>len_any k w hk)
 have hst:powN a k (Go.bitLen k)=c1:=by rw[powN_start,hc1]
 have hle:=bitLen_256 k hk
 have hend:powN a k 0=a^k%PN:=by unfold powN;rw[Nat.pow_zero,Nat.div_one]
 obtain⟨L,hL⟩:∃ L,Go.bitLen k=L:=⟨_,rfl⟩
 rw[hL] at KL hst hle
 rw[← hend]
 have HST:=Lib.hid hst
 have HAK:=Lib.hid (And.intro ha hk)
 obtain⟨xa,xk,xr,xz,xB⟩:=a3p_at a k w
 have KSQ:=Lib.hid mul_two
 have KB:=Lib.hid bit_any
 simp only[numV_agg] at KS KL KSQ KB ⊢
 clear hc1 hst hend hL ha hk
 go_enter Tryz.func133,Tryz.ntmps133
 go_wp2_with fail
 change Calls _ _ _ (A3p a k w) _
 generalize A3p a k w=X at *
 refine (KS.out X).mono ?_
 rintro e w1 ⟨rfl,hb1⟩
 have hs1:w.heap.size+3≤w1.heap.size:=by have:=hb1.size;omega
 have XA:=Lib.hid ((xa.keep hb1).alloc (.cells #[.int .u64 (wd c1 0:Int),.int .u64 (wd c1 1:Int),.int .u64 (wd c1 2:Int),.int .u64 (wd c1 3:Int)] 36))
 have xk1:=(xk.keep hb1).alloc (.cells #[.int .u64 (wd c1 0:Int),.int .u64 (wd c1 1:Int),.int .u64 (wd c1 2:Int),.int .u64 (wd c1 3:Int)] 36)
 have XR:=Lib.hid ((xr.keep hb1).alloc (.cells #[.int .u64 (wd c1 0:Int),.int .u64 (wd c1 1:Int),.int .u64 (wd c1 2:Int),.int .u64 (wd c1 3:Int)] 36))
 have XB:=Lib.hid (b_alloc (b_calls hb1 xB (by omega)) (.cells #[.int .u64 (wd c1 0:Int),.int .u64 (wd c1 1:Int),.int .u64 (wd c1 2:Int),.int .u64 (wd c1 3:Int)] 36))
 have XO:Hid (IsA (w1.alloc (.cells #[.int .u64 (wd c1 0:Int),.int .u64 (wd c1 1:Int),.int .u64 (wd c1 2:Int),.int .u64 (wd c1 3:Int)] 36)) w1.heap.size c1 36):=(alloc_new w1 _ :)
 obtain⟨⟨k0,k1,k2,k3⟩,_⟩:=fourV xk1
 have XK:=Lib.hid xk1
 clear xa xk xr xB xk1 hb1 xz
 go_wp2_with fail
 have hY1:(w1.alloc (.cells #[.int .u64 (wd c1 0:Int),.int .u64 (wd c1 1:Int),.int .u64 (wd c1 2:Int),.int .u64 (wd c1 3:Int)] 36)).heap.size=w1.heap.size+1:=alloc_size1 _ _
 have hYs:w1.heap.size+1≤(w1.alloc (.cells #[.int .u64 (wd c1 0:Int),.int .u64 (wd c1 1:Int),.int .u64 (wd c1 2:Int),.int .u64 (wd c1 3:Int)] 36)).heap.size:=by rw[hY1];omega
 clear hY1
 generalize w1.alloc (.cells #[.int .u64 (wd c1 0:Int),.int .u64 (wd c1 1:Int),.int .u64 (wd c1 2:Int),.int .u64 (wd c1 3:Int)] 36)=Y at *
 generalize w1.heap.size=go at *
 refine (KL.out Y).mono ?_
 rintro e w2 ⟨rfl,hb2⟩
 have hs2:=hb2.size
 have XA2:=Lib.hid (XA.out.keep hb2)
 have XK2:=Lib.hid (XK.out.keep hb2)
 have XR2:=Lib.hid (XR.out.keep hb2)
 have XO2:=Lib.hid (XO.out.keep hb2)
 have XB2:=Lib.hid (b_calls hb2 XB.out (by omega))
 clear k0 k1 k2 k3 XA XK XR XO XB hb2
 go_wp2_with fail
 go_loopw [6] (fun i wr=>∃ j:Nat,j≤L∧i=.int .i64 ((j:Int)-1)∧IsA wr go (powN a k j) 36∧IsA wr w.heap.size a 36∧IsA wr (w.heap.size+1) k 24∧IsA wr (w.heap.size+1+1) 0 36∧Below w.heap.size w wr) (fun i _=>(Go.RowKit.intOf i+1).toNat)
 case atStart=>exact⟨L,Nat.le_refl _,rfl,by rw[HST.out];exact XO2.out,XA2.out,XK2.out,XR2.out,XB2.out⟩
 case round =>
  obtain⟨j,hj,rfl,ro,ra,rk,rr,rb⟩:=hrel
  clear XA2 XK2 XR2 XO2 XB2 HST hs2 hYs
  have hbs:=rb.size
  have hlo:=lt_blk ro
  have hlr:=lt_blk rr
  cases j with
  | zero =>
    have q1:¬ (0:Int)≤((0:Nat):Int)-1:=by omega
    have q2:((0:Nat):Int)-1 = -1:=by omega
    rw[q2] at q1
    rw[q2]
    obtain⟨R,hR⟩:∃ R,powN a k 0=R:=⟨_,rfl⟩
    rw[hR] at ro
    have HR:=Lib.hid hR
    obtain⟨⟨s0,s1,s2,s3⟩,_⟩:=fourV ro
    have xr:=isA_zero' rr
    obtain⟨⟨d0,d1,d2,d3⟩,e0,e1,e2,e3⟩:=fourV xr
    have KL:=Lib.hid (load_el (isA_set (n:=R) xr))
    have BR:=Lib.hid (b_set4 (v0:=.int .u64 (wd R 0:Int)) (v1:=.int .u64 (wd R 1:Int)) (v2:=.int .u64 (wd R 2:Int)) (v3:=.int .u64 (wd R 3:Int)) rb (b:=w.heap.size+1+1) (by omega))
    clear hR ro ra rk rr xr rb
    go_wp2_with fail
    exact bodyPost_ret (results_arr Tryz.results133 (by rfl) KL.out) rfl ⟨by rw[HR.out];rfl,BR.out⟩
  | succ j =>
    have q2:((j+1:Nat):Int)-1=(j:Int):=by omega
    rw[q2]
    have q1:(0:Int)≤(j:Int):=by omega
    have hj2:(j:Int)<256:=by omega
    have hnx:=powN_next a k j
    have hvl:=powN_lt a k (j+1)
    obtain⟨V,hV⟩:∃ V,powN a k (j+1)=V:=⟨_,rfl⟩
    rw[hV] at ro hnx hvl
    have KQ:=Lib.hid (KSQ.out V V hvl hvl)
    have hql:V*V%PN<PN:=Nat.mod_lt _ PN_pos
    obtain⟨Q,hQ⟩:∃ Q,V*V%PN=Q:=⟨_,rfl⟩
    rw[hQ] at KQ hnx hql
    have KMA:=Lib.hid (KSQ.out Q a hql HAK.out.1)
    obtain⟨R,hR⟩:∃ R,Q*a%PN=R:=⟨_,rfl⟩
    rw[hR] at KMA hnx
    have KBJ:=Lib.hid (KB.out k j)
    obtain⟨⟨s0,s1,s2,s3⟩,_⟩:=fourV ro
    have RO:=Lib.hid (ro.alloc (.cells #[.int .u64 (wd V 0:Int),.int .u64 (wd V 1:Int),.int .u64 (wd V 2:Int),.int .u64 (wd V 3:Int),.int .u64 (wd V 0:Int),.int .u64 (wd V 1:Int),.int .u64 (wd V 2:Int),.int .u64 (wd V 3:Int)] 36))
    have RA:=Lib.hid (ra.alloc (.cells #[.int .u64 (wd V 0:Int),.int .u64 (wd V 1:Int),.int .u64 (wd V 2:Int),.int .u64 (wd V 3:Int),.int .u64 (wd V 0:Int),.int .u64 (wd V 1:Int),.int .u64 (wd V 2:Int),.int .u64 (wd V 3:Int)] 36))
    have RK:=Lib.hid (rk.alloc (.cells #[.int .u64 (wd V 0:Int),.int .u64 (wd V 1:Int),.int .u64 (wd V 2:Int),.int .u64 (wd V 3:Int),.int .u64 (wd V 0:Int),.int .u64 (wd V 1:Int),.int .u64 (wd V 2:Int),.int .u64 (wd V 3:Int)] 36))
    have RR:=Lib.hid (rr.alloc (.cells #[.int .u64 (wd V 0:Int),.int .u64 (wd V 1:Int),.int .u64 (wd V 2:Int),.int .u64 (wd V 3:Int),.int .u64 (wd V 0:Int),.int .u64 (wd V 1:Int),.int .u64 (wd V 2:Int),.int .u64 (wd V 3:Int)] 36))
    have RB:=Lib.hid (b_alloc rb (.cells #[.int .u64 (wd V 0:Int),.int .u64 (wd V 1:Int),.int .u64 (wd V 2:Int),.int .u64 (wd V 3:Int),.int .u64 (wd V 0:Int),.int .u64 (wd V 1:Int),.int .u64 (wd V 2:Int),.int .u64 (wd V 3:Int)] 36))
    have hjb:(wr.alloc (.cells #[.int .u64 (wd V 0:Int),.int .u64 (wd V 1:Int),.int .u64 (wd V 2:Int),.int .u64 (wd V 3:Int),.int .u64 (wd V 0:Int),.int .u64 (wd V 1:Int),.int .u64 (wd V 2:Int),.int .u64 (wd V 3:Int)] 36)).heap.size=wr.heap.size+1:=alloc_size1 _ _
    have HNX:=Lib.hid hnx
    have H256:=Lib.hid (show j<256 by omega)
    have HJL:=Lib.hid (show j≤L by omega)
    clear ro ra rk rr rb hnx hvl hql hV hQ hR hle hj
    have RV:=Lib.hid (alloc_new wr (.cells #[.int .u64 (wd V 0:Int),.int .u64 (wd V 1:Int),.int .u64 (wd V 2:Int),.int .u64 (wd V 3:Int),.int .u64 (wd V 0:Int),.int .u64 (wd V 1:Int),.int .u64 (wd V 2:Int),.int .u64 (wd V 3:Int)] 36))
    go_wp2_with fail
    refine (KQ.out wr.heap.size _ RV.out).mono ?_
    rintro e w3 ⟨rfl,hb3⟩
    have hs3:wr.heap.size+1≤w3.heap.size:=by have:=hb3.size;omega
    have ro3:=RO.out.keep hb3
    obtain⟨⟨d0,d1,d2,d3⟩,e0,e1,e2,e3⟩:=fourV ro3
    have RO3:=Lib.hid (isA_set (n:=Q) ro3)
    have RA3:=Lib.hid ((RA.out.keep hb3).far (c:=go) (v0:=.int .u64 (wd Q 0:Int)) (v1:=.int .u64 (wd Q 1:Int)) (v2:=.int .u64 (wd Q 2:Int)) (v3:=.int .u64 (wd Q 3:Int)) (by have:=hs1;omega))
    have rk3:=(RK.out.keep hb3).far (c:=go) (v0:=.int .u64 (wd Q 0:Int)) (v1:=.int .u64 (wd Q 1:Int)) (v2:=.int .u64 (wd Q 2:Int)) (v3:=.int .u64 (wd Q 3:Int)) (by omega)
    have RR3:=Lib.hid ((RR.out.keep hb3).far (c:=go) (v0:=.int .u64 (wd Q 0:Int)) (v1:=.int .u64 (wd Q 1:Int)) (v2:=.int .u64 (wd Q 2:Int)) (v3:=.int .u64 (wd Q 3:Int)) (by omega))
    have RB3:=Lib.hid (b_set4 (b_calls hb3 RB.out (by omega)) (v0:=.int .u64 (wd Q 0:Int)) (v1:=.int .u64 (wd Q 1:Int)) (v2:=.int .u64 (wd Q 2:Int)) (v3:=.int .u64 (wd Q 3:Int)) (b:=go) (by omega))
    obtain⟨⟨k0,k1,k2,k3⟩,_⟩:=fourV rk3
    have RK3:=Lib.hid rk3
    clear RO RA RK RR RB RV hb3 ro3 rk3 s0 s1 s2 s3 hjb
    have hzs:((((w3.setCell ⟨go,0,none⟩ (.int .u64 (wd Q 0:Int))).setCell ⟨go,1,none⟩ (.int .u64 (wd Q 1:Int))).setCell ⟨go,2,none⟩ (.int .u64 (wd Q 2:Int))).setCell ⟨go,3,none⟩ (.int .u64 (wd Q 3:Int))).heap.size=w3.heap.size:=by simp only[set_size]
    go_wp2_with fail
    generalize (((w3.setCell ⟨go,0,none⟩ (.int .u64 (wd Q 0:Int))).setCell ⟨go,1,none⟩ (.int .u64 (wd Q 1:Int))).setCell ⟨go,2,none⟩ (.int .u64 (wd Q 2:Int))).setCell ⟨go,3,none⟩ (.int .u64 (wd Q 3:Int))=Z at *
    refine (KBJ.out Z H256.out).mono ?_
    rintro e w4 ⟨rfl,hb4⟩
    have hs4:=hb4.size
    have RO4:=Lib.hid (RO3.out.keep hb4)
    have RA4:=Lib.hid (RA3.out.keep hb4)
    have RK4:=Lib.hid (RK3.out.keep hb4)
    have RR4:=Lib.hid (RR3.out.keep hb4)
    have RB4:=Lib.hid (b_calls hb4 RB3.out (by omega))
    have hbj:=bitN_lt k j
    clear RO3 RA3 RK3 RR3 RB3 hb4 k0 k1 k2 k3 KBJ KB
    by_cases h1:bitN k j=1
    ·have hN:powN a k j=R:=by rw[HNX.out,if_pos h1]
     have b1:(bitN k j:Int)=1:=by omega
     rw[b1]
     have HN:=Lib.hid hN
     clear hbj h1 b1 hN HNX
     obtain⟨⟨s0,s1,s2,s3⟩,_⟩:=fourV RO4.out
     obtain⟨⟨t0,t1,t2,t3⟩,_⟩:=fourV RA4.out
     have RV:=Lib.hid (alloc_new w4 (.cells #[.int .u64 (wd Q 0:Int),.int .u64 (wd Q 1:Int),.int .u64 (wd Q 2:Int),.int .u64 (wd Q 3:Int),.int .u64 (wd a 0:Int),.int .u64 (wd a 1:Int),.int .u64 (wd a 2:Int),.int .u64 (wd a 3:Int)] 36))
     have hjb:(w4.alloc (.cells #[.int .u64 (wd Q 0:Int),.int .u64 (wd Q 1:Int),.int .u64 (wd Q 2:Int),.int .u64 (wd Q 3:Int),.int .u64 (wd a 0:Int),.int .u64 (wd a 1:Int),.int .u64 (wd a 2:Int),.int .u64 (wd a 3:Int)] 36)).heap.size=w4.heap.size+1:=alloc_size1 _ _
     go_wp2_with fail
     refine (KMA.out w4.heap.size _ RV.out).mono ?_
     rintro e w5 ⟨rfl,hb5⟩
     have hs5:w4.heap.size+1≤w5.heap.size:=by have:=hb5.size;omega
     have ro5:=(RO4.out.alloc (.cells #[.int .u64 (wd Q 0:Int),.int .u64 (wd Q 1:Int),.int .u64 (wd Q 2:Int),.int .u64 (wd Q 3:Int),.int .u64 (wd a 0:Int),.int .u64 (wd a 1:Int),.int .u64 (wd a 2:Int),.int .u64 (wd a 3:Int)] 36)).keep hb5
     obtain⟨⟨d0,d1,d2,d3⟩,e0,e1,e2,e3⟩:=fourV ro5
     have RO5:=Lib.hid (isA_set (n:=R) ro5)
     have RA5:=Lib.hid (((RA4.out.alloc (.cells #[.int .u64 (wd Q 0:Int),.int .u64 (wd Q 1:Int),.int .u64 (wd Q 2:Int),.int .u64 (wd Q 3:Int),.int .u64 (wd a 0:Int),.int .u64 (wd a 1:Int),.int .u64 (wd a 2:Int),.int .u64 (wd a 3:Int)] 36)).keep hb5).far (c:=go) (v0:=.int .u64 (wd R 0:Int)) (v1:=.int .u64 (wd R 1:Int)) (v2:=.int .u64 (wd R 2:Int)) (v3:=.int .u64 (wd R 3:Int)) (by omega))
     have RK5:=Lib.hid (((RK4.out.alloc (.cells #[.int .u64 (wd Q 0:Int),.int .u64 (wd Q 1:Int),.int .u64 (wd Q 2:Int),.int .u64 (wd Q 3:Int),.int .u64 (wd a 0:Int),.int .u64 (wd a 1:Int),.int .u64 (wd a 2:Int),.int .u64 (wd a 3:Int)] 36)).keep hb5).far (c:=go) (v0:=.int .u64 (wd R 0:Int)) (v1:=.int .u64 (wd R 1:Int)) (v2:=.int .u64 (wd R 2:Int)) (v3:=.int .u64 (wd R 3:Int)) (by omega))
     have RR5:=Lib.hid (((RR4.out.alloc (.cells #[.int .u64 (wd Q 0:Int),.int .u64 (wd Q 1:Int),.int .u64 (wd Q 2:Int),.int .u64 (wd Q 3:Int),.int .u64 (wd a 0:Int),.int .u64 (wd a 1:Int),.int .u64 (wd a 2:Int),.int .u64 (wd a 3:Int)] 36)).keep hb5).far (c:=go) (v0:=.int .u64 (wd R 0:Int)) (v1:=.int .u64 (wd R 1:Int)) (v2:=.int .u64 (wd R 2:Int)) (v3:=.int .u64 (wd R 3:Int)) (by omega))
     have RB5:=Lib.hid (b_set4 (b_calls hb5 (b_alloc RB4.out (.cells #[.int .u64 (wd Q 0:Int),.int .u64 (wd Q 1:Int),.int .u64 (wd Q 2:Int),.int .u64 (wd Q 3:Int),.int .u64 (wd a 0:Int),.int .u64 (wd a 1:Int),.int .u64 (wd a 2:Int),.int .u64 (wd a 3:Int)] 36)) (by omega)) (v0:=.int .u64 (wd R 0:Int)) (v1:=.int .u64 (wd R 1:Int)) (v2:=.int .u64 (wd R 2:Int)) (v3:=.int .u64 (wd R 3:Int)) (b:=go) (by omega))
     clear RO4 RA4 RK4 RR4 RB4 hb5 ro5 s0 s1 s2 s3 t0 t1 t2 t3 hjb RV
     go_wp2_with fail
     go_roundw
     case rel=>exact⟨j,HJL.out,rfl,by rw[HN.out];exact RO5.out,RA5.out,RK5.out,RR5.out,RB5.out⟩
     case measure =>
      simp[Go.RowKit.intOf]
      try omega
    ·have hN:powN a k j=Q:=by rw[HNX.out,if_neg h1]
     have b1:(bitN k j:Int)=0:=by omega
     rw[b1]
     have HN:=Lib.hid hN
     clear hbj h1 b1 hN HNX
     go_wp2_with fail
     go_roundw
     case rel=>exact⟨j,HJL.out,rfl,by rw[HN.out];exact RO4.out,RA4.out,RK4.out,RR4.out,RB4.out⟩
     case measure =>
      simp[Go.RowKit.intOf]
      try omega
theorem eql_numF (f:Nat) (w:World) (x0 x1 x2 x3 y0 y1 y2 y3:Int):(Op.equalIn (f+2) 24 (.agg #[.int .u64 x0,.int .u64 x1,.int .u64 x2,.int .u64 x3]) (.agg #[.int .u64 y0,.int .u64 y1,.int .u64 y2,.int .u64 y3])).run Tryz.prog w=.ok (x0 == y0 && (x1 == y1 && (x2 == y2 && x3 == y3))) w:=by
 have he:∀ (a b:Int) (w:World),(Op.equalIn (f+1) 22 (.int .u64 a) (.int .u64 b)).run Tryz.prog w=.ok (a == b) w:=fun a b w=>run_equalIn_int w f 22 .u64 .u64 a b Tryz.underlying22
 rw[Op.equalIn]
 simp only[Sem.run_bind,run_underlying Tryz.underlying24,Result.andThen_ok]
 have hp:∀ (v:Value) (k:Nat) (xs:Array Value) (w:World),xs[k]?=some v→(part 22 xs k).run Tryz.prog w=.ok v w:=fun v k xs w h=>by
  simp only[part]
  go_simp
 have hz:∀ w,(sizeOf 22).run Tryz.prog w=.ok 1 w:=Tryz.sizeOf22
 rw[hz]
 simp only[Result.andThen_ok]
 rw[Std.Legacy.Range.forIn_eq_forIn_range']
 simp[Std.Legacy.Range.size,List.range']
 have a0:=fun w=>hp (.int .u64 x0) 0 #[.int .u64 x0,.int .u64 x1,.int .u64 x2,.int .u64 x3] w rfl
 have b0:=fun w=>hp (.int .u64 y0) 0 #[.int .u64 y0,.int .u64 y1,.int .u64 y2,.int .u64 y3] w rfl
 have a1:=fun w=>hp (.int .u64 x1) 1 #[.int .u64 x0,.int .u64 x1,.int .u64 x2,.int .u64 x3] w rfl
 have b1:=fun w=>hp (.int .u64 y1) 1 #[.int .u64 y0,.int .u64 y1,.int .u64 y2,.int .u64 y3] w rfl
 have a2:=fun w=>hp (.int .u64 x2) 2 #[.int .u64 x0,.int .u64 x1,.int .u64 x2,.int .u64 x3] w rfl
 have b2:=fun w=>hp (.int .u64 y2) 2 #[.int .u64 y0,.int .u64 y1,.int .u64 y2,.int .u64 y3] w rfl
 have a3:=fun w=>hp (.int .u64 x3) 3 #[.int .u64 x0,.int .u64 x1,.int .u64 x2,.int .u64 x3] w rfl
 have b3:=fun w=>hp (.int .u64 y3) 3 #[.int .u64 y0,.int .u64 y1,.int .u64 y2,.int .u64 y3] w rfl
 simp only[a0,b0,a1,b1,a2,b2,a3,b3,he,Result.andThen_ok]
 generalize (x0 == y0)=c0
 generalize (x1 == y1)=c1
 generalize (x2 == y2)=c2
 generalize (x3 == y3)=c3
 cases c0 <;> cases c1 <;> cases c2 <;> cases c3 <;> simp
theorem eql_elI (w:World) (x0 x1 x2 x3 y0 y1 y2 y3:Int):(Op.equalIn 10000 36 (.agg #[.int .u64 x0,.int .u64 x1,.int .u64 x2,.int .u64 x3]) (.agg #[.int .u64 y0,.int .u64 y1,.int .u64 y2,.int .u64 y3])).run Tryz.prog w=.ok (x0 == y0 && (x1 == y1 && (x2 == y2 && x3 == y3))) w:=by
 have hn:=fun w=>eql_numF 9997 w x0 x1 x2 x3 y0 y1 y2 y3
 rw[show (10000:Nat)=9999+1 from rfl,run_equalIn_struct w 9999 36 _ _ (by kernel_rfl) (by kernel_rfl)]
 have hp:∀ (a0 a1 a2 a3:Int) (w:World),(part 24 #[.int .u64 a0,.int .u64 a1,.int .u64 a2,.int .u64 a3] 0).run Tryz.prog w=.ok (.agg #[.int .u64 a0,.int .u64 a1,.int .u64 a2,.int .u64 a3]) w:=fun a0 a1 a2 a3 w=>by
  simp only[part]
  go_simp
 simp only[Program.fieldsOf,Tryz.underlying36]
 simp[Op.eqFields,hp,hn]
 by_cases h0:x0=y0 <;> by_cases h1:x1=y1 <;> by_cases h2:x2=y2 <;> by_cases h3:x3=y3 <;> simp[h0,h1,h2,h3]
theorem wd_same (a b:Nat) (ha:a<B64^4) (hb:b<B64^4):((wd a 0:Int) == (wd b 0:Int) && ((wd a 1:Int) == (wd b 1:Int) && ((wd a 2:Int) == (wd b 2:Int) && (wd a 3:Int) == (wd b 3:Int))))=decide (a=b):=by
 by_cases h:a=b
 ·subst h
  simp
 ·rw[decide_eq_false h,Bool.eq_false_iff]
  intro hh
  simp only[Bool.and_eq_true,beq_iff_eq] at hh
  obtain⟨h0,h1,h2,h3⟩:=hh
  have e:=div_same a b ha hb 4 0 rfl (fun j _ hj=>by
   have hj4:j=0∨j=1∨j=2∨j=3:=by omega
   rcases hj4 with rfl | rfl | rfl | rfl <;> omega)
  rw[Nat.pow_zero,Nat.div_one,Nat.div_one] at e
  exact h e
theorem eql_el (a b:Nat) (w:World) (ha:a<B64^4) (hb:b<B64^4):(Op.equalIn 10000 36 (.agg #[.int .u64 (wd a 0:Int),.int .u64 (wd a 1:Int),.int .u64 (wd a 2:Int),.int .u64 (wd a 3:Int)]) (.agg #[.int .u64 (wd b 0:Int),.int .u64 (wd b 1:Int),.int .u64 (wd b 2:Int),.int .u64 (wd b 3:Int)])).run Tryz.prog w=.ok (decide (a=b)) w:=by
 rw[eql_elI,wd_same a b ha hb]
theorem eql_nu (a b:Nat) (w:World) (ha:a<B64^4) (hb:b<B64^4):(Op.equalIn 10000 24 (.agg #[.int .u64 (wd a 0:Int),.int .u64 (wd a 1:Int),.int .u64 (wd a 2:Int),.int .u64 (wd a 3:Int)]) (.agg #[.int .u64 (wd b 0:Int),.int .u64 (wd b 1:Int),.int .u64 (wd b 2:Int),.int .u64 (wd b 3:Int)])).run Tryz.prog w=.ok (decide (a=b)) w:=by
 rw[eql_num,wd_same a b ha hb]
def P2:Nat:=PN-2
theorem P2_B:P2<B64^4:=by decide +kernel
theorem num_P2:numV P2=.agg #[.int .u64 18446744073709551595,.int .u64 18446744073709551615,.int .u64 18446744073709551615,.int .u64 9223372036854775807]:=by
 unfold numV
 rw[show wd P2 0=18446744073709551595 by decide +kernel,show wd P2 1=18446744073709551615 by decide +kernel,show wd P2 2=18446744073709551615 by decide +kernel,show wd P2 3=9223372036854775807 by decide +kernel]
 rfl
theorem pinv_any (a:Nat) (w:World) (ha:a<PN):Calls Tryz.prog 81 #[numV a] w fun e w'=>e=.returned (numV (a^(PN-2)%PN))∧Below w.heap.size w w':=by
 have K:=Lib.hid (fun w=>ppow_any a P2 w ha P2_B)
 rw[num_P2] at K
 have hP2:a^P2%PN=a^(PN-2)%PN:=rfl
 rw[hP2] at K
 obtain⟨R,hR⟩:∃ R,a^(PN-2)%PN=R:=⟨_,rfl⟩
 rw[hR] at K
 rw[hR]
 obtain⟨xa,xr,xz,xB⟩:=a2_at a 36 36 w
 simp only[numV_agg] at K ⊢
 obtain⟨⟨p0,p1,p2,p3⟩,_⟩:=fourV xa
 clear hR hP2
 go_enter Tryz.func81,Tryz.ntmps81
 go_wp2_with fail
 change Calls _ _ _ (A2 a 36 36 w) _
 generalize A2 a 36 36 w=X at *
 refine (K.out X).mono ?_
 rintro e w1 ⟨rfl,hb1⟩
 have xr1:=isA_zero' (xr.keep hb1)
 obtain⟨⟨d0,d1,d2,d3⟩,e0,e1,e2,e3⟩:=fourV xr1
 have KL:=Lib.hid (load_el (isA_set (n:=R) xr1))
 have BR:=Lib.hid (set4_below (v0:=.int .u64 (wd R 0:Int)) (v1:=.int .u64 (wd R 1:Int)) (v2:=.int .u64 (wd R 2:Int)) (v3:=.int .u64 (wd R 3:Int)) (xB.trans (hb1.mono (by omega))) (b:=w.heap.size+1) (by omega))
 clear xa xr xr1 xB hb1
 go_wp2_with fail
 exact bodyPost_ret (results_arr Tryz.results81 (by rfl) KL.out) rfl ⟨rfl,BR.out⟩
open Go
theorem nm0 (a:Act) (t:Tmp) (v:Value):a.put (some t) v={ tmps:=a.tmps.setIfInBounds t v,defers:=a.defers }:=rfl
theorem nm1 {α:Type} (l:List α) (i:Nat) (a:α):l.toArray.setIfInBounds i a=(l.set i a).toArray:=List.setIfInBounds_toArray l i a
theorem nm2 {α:Type} (x:α) (l:List α) (a:α):(x::l).set 0 a=a::l:=rfl
theorem nm3 {α:Type} (x:α) (l:List α) (i:Nat) (a:α):(x::l).set (i+1) a=x::l.set i a:=rfl
end Go.Proofs.YtnaldciakclccaaGreat
