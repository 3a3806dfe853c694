/- Lemmas of this proof. -/
import Derived.Deep.OwnRows
import Derived.Test.YtnaldciakclccaaGreatEv09
import Derived.Test.YtnaldciakclccaaGreatEv07
namespace Go.Proofs.YtnaldciakclccaaGreat
set_option maxRecDepth 20000
set_option maxHeartbeats 8000000
set_option linter.unusedSimpArgs false
set_option linter.unusedVariables false
open Go.RowKit
theorem AE {w W W':World} {N:Nat} (hb:Below N W W') (h:Below w.heap.size w W) (hN:W.heap.size≤N):Below w.heap.size w W':=h.trans (hb.mono (Nat.le_trans h.size hN))
def iV:Nat:=19681161376707505956807079304988542015446066515923890162744021073123829784752
theorem Oz (g k c:Nat) (hk:k<2^256) (h:pm PN 256 k g 1%PN=c):g^k%PN=c:=by
 rw[PU PN 256 k g 1 hk,Nat.one_mul] at h
 exact h
theorem iC:P3<2^256:=by decide +kernel
theorem ei:P4<2^256:=by decide +kernel
theorem ie:P2<2^256:=by decide +kernel
theorem cF (g k c:Nat) (w:World) (hg:g<PN) (hk:k<B64^4) (hk2:k<2^256) (h:pm PN 256 k g 1%PN=c):Calls Tryz.prog 133 #[Aa g,Aa k] w fun e w'=>e=.returned (Aa c)∧Below w.heap.size w w':=by
 have h1:=Me g k w hg hk
 rw[Oz g k c hk2 h] at h1
 exact h1
theorem gA (a c:Nat) (h:pm PN 256 P3 a 1%PN=c):r0N a=c:=by
 unfold r0N
 exact Oz a P3 c iC h
theorem eF:iV<PN:=by decide +kernel
theorem iI:∀ w,Calls Tryz.prog 133 #[Aa 2,Aa P4] w fun e w'=>e=.returned (Aa iV)∧Below w.heap.size w w':=fun w=>cF 2 P4 iV w (by decide +kernel) ig ei (by decide +kernel)
def XU (i a r:Nat):Nat × Bool:=if (if r*r%PN=a then r else r*i%PN)*(if r*r%PN=a then r else r*i%PN)%PN=a then (if (if r*r%PN=a then r else r*i%PN)%2=1 then (0+PN-(if r*r%PN=a then r else r*i%PN))%PN else (if r*r%PN=a then r else r*i%PN),true) else (0,false)
theorem Zr (i a r:Nat) (h:r0N a=r):Bu i a=(XU i a r).1∧okN i a=(XU i a r).2:=by
 unfold Bu okN r1N XU
 rw[h]
 generalize (if r*r%PN=a then r else r*i%PN)=q
 by_cases hq:q*q%PN=a
 ·rw[if_pos hq,if_pos hq,decide_eq_true hq]
  exact⟨rfl,rfl⟩
 ·rw[if_neg hq,if_neg hq,decide_eq_false hq]
  exact⟨rfl,rfl⟩
def IsO (w:World) (b o len n:Nat):Prop:=n<65536^len∧b<w.heap.size∧∀ i,i<len→w.cell? ⟨b,o+i,none⟩=some (.int .u64 (dg n i:Int))
theorem IsO.below {w w':World} {b o len n:Nat} (h:IsO w b o len n) (hb:Below w.heap.size w w'):IsO w' b o len n:=⟨h.1,Nat.lt_of_lt_of_le h.2.1 hb.size,fun i hi=>(hb.cell (p:=⟨b,o+i,none⟩) h.2.1).trans (h.2.2 i hi)⟩
theorem fM (n i:Nat) (hi:i<16):dg (n%65536^16) i=dg n i:=f8 n i 16 hi
theorem dc (n i:Nat):dg (n/65536^16) i=dg n (16+i):=fk n i 16
theorem Iw {w:World} {g la ca n:Nat} (h:IsN w (some ⟨g,0,none⟩) la ca n) (h0:0<la):la≤ca∧g<w.heap.size∧∀ i,i<la→w.cell? ⟨g,i,none⟩=some (.int .u64 (dg n i:Int)):=by
 obtain⟨_,_,h3 | ⟨b,e,h4,h5,h6⟩⟩:=h
 ·omega
 ·cases e
  exact⟨h4,h5,h6⟩
theorem aW {w:World} {g la ca n:Nat} (h:IsN w (some ⟨g,0,none⟩) la ca n) (hl:16≤la):IsN w (some ⟨g,0,none⟩) 16 ca (n%65536^16):=by
 obtain⟨h4,h5,h6⟩:=Iw h (by omega)
 exact⟨Nat.mod_lt _ (by decide),by omega,.inr ⟨g,rfl,by omega,h5,fun i hi=>by rw[fM n i hi];exact h6 i (by omega)⟩⟩
theorem Zg {w:World} {g la ca n:Nat} (h:IsN w (some ⟨g,0,none⟩) la ca n) (hl:16<la):IsO w g 16 (la-16) (n/65536^16):=by
 obtain⟨h4,h5,h6⟩:=Iw h (by omega)
 refine⟨?_,h5,fun i hi=>by rw[dc];exact h6 (16+i) (by omega)⟩
 rw[Nat.div_lt_iff_lt_mul (by decide),← Nat.pow_add,show la-16+16=la by omega]
 exact h.1
theorem ZO (n la:Nat) (h:n<65536^la) (hz:∀ j,16≤j→j<la→dg n j=0):∀ k,16≤la-k→n/65536^(la-k)=0
 | 0,_=>by rw[Nat.sub_zero];exact Nat.div_eq_of_lt h
 | k+1,hk=>by
   have ih:=ZO n la h hz k (by omega)
   have h1:=I6 n (la-(k+1))
   rw[hz (la-(k+1)) hk (by omega),show la-(k+1)+1=la-k by omega,ih] at h1
   omega
theorem WL (n la:Nat) (h:n<65536^la) (hz:∀ j,16≤j→j<la→dg n j=0):n<65536^16:=by
 rcases Nat.lt_or_ge la 16 with hl | hl
 ·exact Nat.lt_of_lt_of_le h (Nat.pow_le_pow_right (by decide) (by omega))
 ·have h1:=ZO n la h hz (la-16) (by omega)
  rw[show la-(la-16)=16 by omega] at h1
  have h2:=Nat.div_add_mod n (65536^16)
  have h3:=Nat.mod_lt n (show 0<65536^16 by decide)
  rw[h1,Nat.mul_zero,Nat.zero_add] at h2
  omega
theorem ZE (n j:Nat) (hj:16≤j) (h:dg n j≠0):65536^16≤n:=by
 rcases Nat.lt_or_ge n (65536^16) with hl | hl
 ·exact absurd (Lu hl hj) h
 ·exact hl
theorem Xi (g la ca n:Nat) (w:World) (h:IsN w (some ⟨g,0,none⟩) la ca n) (hla:16≤la) (hl:la≤100) :
    Calls Tryz.prog 171 #[.slice (some ⟨g,0,none⟩) la ca] w fun e w'=>e=.returned (.bool (decide (65536^16≤n)))∧Below w.heap.size w w':=by
 obtain⟨h4,h5,h6⟩:=Iw h (by omega)
 have HN:=Lh h.1
 have HC:=Lh h6
 have l1:(la:Int)≤100:=by omega
 obtain⟨D,hD⟩:=exzb (decide (65536^16≤n))
 have HD:=Lh hD
 rw[hD]
 clear h h4 h6 hD
 go_enter Tryz.func171,Tryz.ntmps171
 go_wp2_with fail
 go_loopw [3] (fun i wr=>∃ k:Nat,16≤k∧k≤la∧i=.int .i64 (k:Int)∧(∀ j,16≤j→j<k→dg n j=0)∧wr=w) (fun i _=>la-(Go.RowKit.intOf i).toNat)
 case atStart=>exact⟨16,by omega,by omega,rfl,fun j h1 h2=>absurd h1 (by omega),rfl⟩
 case round =>
  obtain⟨k,hk1,hk2,rfl,hz,rfl⟩:=hrel
  by_cases hlt:k<la
  ·have p1:(k:Int)<(la:Int):=by omega
   have p0:(0:Int)≤(k:Int):=by omega
   have c0:=HC.out k hlt
   by_cases hd:dg n k=0
   ·have HZ:=Lh (show ∀ j,16≤j→j<k+1→dg n j=0 from fun j h1 h2=>by
      rcases Nat.lt_or_ge j k with h | h
      ·exact hz j h1 h
      ·obtain rfl:j=k:=by omega
       exact hd)
    rw[hd] at c0
    clear hz hd
    go_wp2_with fail
    go_roundw
    case rel=>exact⟨k+1,by omega,by omega,congrArg (Value.int .i64) (by omega),HZ.out,trivial⟩
    case measure =>
     simp[Go.RowKit.intOf]
     omega
   ·have HG:=Lh (ZE n k hk1 hd)
    have hdI:¬ (dg n k:Int)=0:=by omega
    have hdB:((dg n k:Int) == 0)=false:=by simp;exact hd
    obtain⟨x,hx⟩:=exzb (dg n k)
    rw[hx] at c0 hdI hdB
    clear hz hd hx
    go_wp2_with fail
    go_ret
    exact⟨by rw[← HD.out,decide_eq_true HG.out];rfl,Below.refl _ _⟩
  ·obtain rfl:k=la:=by omega
   have p1:¬ (k:Int)<(k:Int):=by omega
   have HG:=Lh (WL n k HN.out hz)
   clear hz
   go_wp2_with fail
   go_ret
   exact⟨by rw[← HD.out,decide_eq_false (by have:=HG.out;omega)];rfl,Below.refl _ _⟩
theorem WY (a b:Nat) (la ca lb cb n m:Nat) (w:World) (ha:IsO w a 16 la n) (hb:IsN w (some ⟨b,0,none⟩) lb cb m) (sa:la≤90) (sb:lb≤90) (pa:0<la) (pb:0<lb) :
    Calls Tryz.prog 110 #[.slice (some ⟨a,16,none⟩) la ca,.slice (some ⟨b,0,none⟩) lb cb] w fun e w'=>∃ g,e=.returned (.slice (some ⟨g,0,none⟩) (la+lb) (la+lb))∧By w' g (la+lb) (n*m)∧w.heap.size≤g∧Below w.heap.size w w':=by
 have l1:(la:Int)≤90:=by omega
 have l2:(lb:Int)≤90:=by omega
 have m1:=fun w=>DJ (la+lb) ((la:Int)+(lb:Int)) (by omega) (by omega) w
 have HA:=Lh ha
 have HB:=Lh hb
 clear ha hb
 go_enter Tryz.func110,Tryz.ntmps110
 go_wp2_with fail
 clear m1
 go_loopw [6] (fun i wr=>∃ i':Nat,∃ p:Nat→Nat,i'≤la∧i=.int .i64 (i':Int)∧(∀ k,p k<H16)∧(∀ k,i'+lb≤k→p k=0)∧Fy p (la+lb)=(n%H16^i')*m∧wr.heap[w.heap.size]?=some (.cells (Bw p (la+lb)).toArray 22 (0,0))∧Below w.heap.size w wr) (fun i _=>la-(intOf i).toNat)
 case atStart=>exact⟨0,fun _=>0,by omega,rfl,fun _=>(by decide:0<H16),fun _ _=>rfl,by rw[Nat.pow_zero,Nat.mod_one,Nat.zero_mul];exact Nm _,Aj _ _,Al (Below.refl _ _) _⟩
 case round =>
  obtain⟨i,p,hi,rfl,hp,hz,hV,y0,hbl⟩:=hrel
  by_cases hlt:i<la
  ·have p1:(i:Int)<(la:Int):=by omega
   have HP:=Lh hp
   have HZ:=Lh hz
   have HV:=Lh hV
   have HY:=Lh y0
   clear hp hz hV y0
   go_wp2_with fail
   go_loopw [7,8] (fun c j wr=>∃ j' c':Nat,∃ p:Nat→Nat,j'≤lb∧j=.int .i64 (j':Int)∧c=.int .u64 (c':Int)∧c'<65536∧(∀ k,p k<H16)∧(∀ k,i+lb≤k→p k=0)∧Fy p (la+lb)+c'*H16^(i+j')=(n%H16^i)*m+hd n i*(m%H16^j')*H16^i∧wr.heap[w.heap.size]?=some (.cells (Bw p (la+lb)).toArray 22 (0,0))∧Below w.heap.size w wr) (fun _ j _=>lb-(intOf j).toNat)
   case atStart=>exact⟨0,0,p,by omega,rfl,rfl,by omega,HP.out,HZ.out,by rw[HV.out,Nat.pow_zero,Nat.mod_one,Nat.mul_zero,Nat.zero_mul,Nat.zero_mul],HY.out,hbl⟩
   case round =>
    clear HP HZ HV HY hbl
    obtain⟨j,c,p,hj,rfl,rfl,hc,hp,hz,hV,y0,hbl⟩:=hrel
    by_cases hjl:j<lb
    ·have p2:(j:Int)<(lb:Int):=by omega
     have c0:=(HA.out.below hbl).2.2 i hlt
     have c1:=Sy (A6 HB.out hbl) j hjl
     obtain⟨c4,f4⟩:=Af y0 (BC p (la+lb) (i+j) (by omega))
     have hx:=Dx n i
     have hy:=Dx m j
     have hpk:p (i+j)<65536:=hp _
     obtain⟨k1,k2,k3,k4,k5,ke⟩:=NF (dg n i) (dg m j) (p (i+j)) c hx hy hpk hc
     have HVS:=Lh (N5 p (la+lb) (i+j) (dg n i) (by omega) _ c ((p (i+j)+dg n i*dg m j+c)/65536) ((p (i+j)+dg n i*dg m j+c)%65536) (dg m j) m i j rfl hV ke rfl)
     have HSET:=Lh (AF (i:=i+j) y0 (.int .u64 ((p (i+j)+dg n i*dg m j+c)%65536:Nat)))
     have HPP:=Lh hp
     have HZZ:=Lh hz
     have K4:=Lh k4
     have K5:=Lh k5
     have xy:((dg n i:Int)*(dg m j:Int))=((dg n i*dg m j:Nat):Int):=by rw[Int.natCast_mul]
     clear hp hz hV y0 ke
     generalize dg n i*dg m j=M at *
     generalize hX:dg n i=x at *
     have HX:=Lh hX
     clear hX
     generalize dg m j=y at *
     generalize p (i+j)=z at *
     have nat1:((i:Int)+(j:Int)).toNat=i+j:=by omega
     have q1:(i:Int)+(j:Int)<(la:Int)+(lb:Int):=by omega
     have q2:(i:Int)<90:=by omega
     have q3:(j:Int)<90:=by omega
     clear k4 k5
     go_wp2_with fail
     go_quiet (fail)
     go_wp2_with fail
     go_roundw
     case rel =>
      have e1:((z:Int)+(M:Int)+(c:Int))/65536=(((z+M+c)/65536:Nat):Int):=by omega
      have e2:((z:Int)+(M:Int)+(c:Int))%65536=(((z+M+c)%65536:Nat):Int):=by omega
      rw[e1,e2]
      refine⟨j+1,(z+M+c)/65536,upd p (i+j) ((z+M+c)%65536),by omega,by go_num,rfl,K5.out,La HPP.out K4.out,IJ HZZ.out (by omega),?_,?_,(AV hbl nq).setCell (p:=⟨w.heap.size,i+j,none⟩) (Nat.le_refl _) _⟩
      ·rw[ew,HX.out];exact HVS.out
      ·rw[← DC];exact HSET.out
     case measure=>simp[intOf];omega
    ·have hj':j=lb:=by omega
     subst hj'
     have HVR:=Lh (Qq p (la+j) i c n m j (by omega) HB.out.1 (hz (i+j) (by omega)) hV)
     obtain⟨c4,f4⟩:=Af y0 (BC p (la+j) (i+j) (by omega))
     have HSET:=Lh (AF (i:=i+j) y0 (.int .u64 (c:Int)))
     have HPP:=Lh hp
     have HZZ:=Lh hz
     clear hp hz hV y0
     generalize p (i+j)=z at c4
     have nat1:((i:Int)+(j:Int)).toNat=i+j:=by omega
     have q1:(i:Int)+(j:Int)<(la:Int)+(j:Int):=by omega
     have q2:(i:Int)<90:=by omega
     have q3:(j:Int)≤90:=by omega
     go_wp2_with fail
     go_roundw
     case rel =>
      refine⟨i+1,upd p (i+j) c,by omega,by go_num,La HPP.out hc,IJ (fun k hk=>HZZ.out k (by omega)) (by omega),HVR.out,?_,hbl.setCell (p:=⟨w.heap.size,i+j,none⟩) (Nat.le_refl _) _⟩
      rw[← DC];exact HSET.out
     case measure=>simp[intOf];omega
  ·have hi':i=la:=by omega
   subst hi'
   have hO:=Lh (show By wr w.heap.size (i+lb) (n*m) from by
    have hn:n<H16^i:=HA.out.1
    have hm:m<H16^lb:=HB.out.1
    rw[Nat.mod_eq_of_lt hn] at hV
    refine⟨?_,?_,by omega⟩
    ·rw[ER (p:=dg (n*m)) (q:=p) (fun k hk=>by rw[← hV];exact Uo p (i+lb) hp k hk)]
     exact y0
    ·show n*m<H16^(i+lb)
     rw[Nat.pow_add]
     exact Nat.mul_lt_mul'' hn hm)
   clear hp hz hV y0
   go_wp2_with fail
   go_ret
   exact⟨w.heap.size,rfl,hO.out,Nat.le_refl _,hbl⟩
theorem eT (w:World):Calls Tryz.prog 197 #[] w fun e w'=>e=.returned (Aa PN)∧Below w.heap.size w w':=by
 have kl:=BU (W:=w.alloc (.cells (An PN).toArray 23)) (b:=w.heap.size) (n:=PN) (Aj _ _)
 have e1:(An PN).toArray=#[.int .u64 18446744073709551597,.int .u64 18446744073709551615,.int .u64 18446744073709551615,.int .u64 9223372036854775807]:=by
  have h:=JX
  unfold Aa at h
  unfold An
  injection h
 rw[e1,JX] at kl
 rw[JX]
 have KL:=Lh kl
 clear kl e1
 go_enter Tryz.func197,Tryz.ntmps197
 go_wp2_with fail
 exact bodyPost_ret (Ap Tryz.results197 (by rfl) KL.out) rfl ⟨rfl,Al (Below.refl _ _) _⟩
theorem IF (w:World):Calls Tryz.prog 163 #[] w fun e w'=>∃ g,e=.returned (.slice (some ⟨g,0,none⟩) 16 16)∧By w' g 16 PN∧w.heap.size≤g∧Below w.heap.size w w':=by
 have K1:=Lh eT
 have K2:=Lh (fun w=>CX PN w VD)
 generalize PN=p at K1 K2 ⊢
 simp only[AL] at K1 K2
 go_enter Tryz.func163,Tryz.ntmps163
 go_wp2_with fail
 refine (K1.out _).mono ?_
 rintro e w1 ⟨rfl,hb1⟩
 go_wp2_with fail
 refine (K2.out _).mono ?_
 rintro e w2 ⟨g,rfl,ho,hg,hb2⟩
 have HO:=Lh ho
 clear ho
 go_wp2_with fail
 go_ret
 exact⟨g,rfl,HO.out,Nat.le_trans hb1.size hg,hb1.trans (hb2.mono hb1.size)⟩
theorem fe:(65536:Nat)^16=B64^4:=by decide +kernel
theorem WP (n:Nat):(n%65536^16+n/65536^16*38)%PN=n%PN:=by
 have h:=LG (n/B64^4) (n%B64^4)
 rw[fe,Nat.add_comm,Nat.mul_comm _ 38,← h,Nat.mul_comm,Nat.div_add_mod]
theorem RX (n:Nat) (h:65536^16≤n):n%65536^16+n/65536^16*38<n:=by
 have h1:=Nat.div_add_mod n (65536^16)
 have h2:0<n/65536^16:=Nat.div_pos h (by decide)
 have h3:n/65536^16*38<n/65536^16*65536^16:=Nat.mul_lt_mul_of_pos_left (by decide) h2
 rw[Nat.mul_comm] at h1
 omega
theorem Qf (a:Option Addr) (la ca n:Nat) (w:World) (ha:IsN w a la ca n) (hn:n<B64^4) :
    Calls Tryz.prog 105 #[.slice a la ca,.int .i64 0] w fun e w'=>e=.returned (Aa n)∧Below w.heap.size w w':=by
 have h:=Ur a la ca n 0 w ha (by omega)
 rw[Nat.pow_zero,Nat.div_one,Nat.mod_eq_of_lt hn] at h
 exact h
theorem Ya {W:World} {b:Nat} (h:W.heap[b]?=some (.cells #[.int .u64 38] 22 (0,0))):IsN W (some ⟨b,0,none⟩) 1 1 38:=by
 refine⟨by decide,by omega,.inr ⟨b,rfl,Nat.le_refl _,AU h,fun i hi=>?_⟩⟩
 obtain rfl:i=0:=by omega
 simp[World.cell?,h]
 decide
theorem Jm (g la ca n:Nat) (w:World) (h:IsN w (some ⟨g,0,none⟩) la ca n) (h16:16≤la) (hl:la≤60) :
    Calls Tryz.prog 125 #[.slice (some ⟨g,0,none⟩) la ca] w fun e w'=>e=.returned (Aa (n%PN))∧Below w.heap.size w w':=by
 obtain⟨xr,xz,xB⟩:=IN 23 w
 have HN:=Lh (And.intro (A6 h xB) (And.intro h16 hl))
 have HX:=Lh (And.intro xr xB)
 obtain⟨R,hR⟩:=exzb (n%PN)
 have HR:=Lh hR
 rw[hR]
 have KG:=Lh Xi
 have KM:=Lh WY
 have KA:=Lh Fe
 have KP:=Lh IF
 have KL:=Lh Gz
 have KS:=Lh Gv
 have KT:=Lh Qf
 simp only[AL] at KT ⊢
 clear h xr xB h16 hl hR
 go_enter Tryz.func125,Tryz.ntmps125
 go_wp2_with fail
 change Code.wp _ _ _ _ (Z1 23 w)
 generalize Z1 23 w=X at *
 go_loopg [0] n (fun gk s0 wr=>∃ g la ca,s0=.slice (some ⟨g,0,none⟩) la ca∧IsN wr (some ⟨g,0,none⟩) la ca gk∧16≤la∧la≤60∧gk%PN=R∧IsA wr w.heap.size 0 23∧Below w.heap.size w wr)
 case atStart=>exact⟨g,la,ca,rfl,HN.out.1,HN.out.2.1,HN.out.2.2,HR.out,HX.out.1,HX.out.2⟩
 case round =>
  obtain⟨g,la,ca,rfl,hin,h16,hl,hm,rr,rb⟩:=hrel
  clear HN HX HR xz
  obtain⟨hca,hgl,_⟩:=Iw hin (by omega)
  have hbs:=rb.size
  have KG1:=KG.out g la ca gk wr hin h16 (by omega)
  by_cases hgr:65536^16≤gk
  ·rw[decide_eq_true hgr] at KG1
   have la16:16<la:=by
    rcases Nat.lt_or_ge 16 la with h | h
    ·exact h
    ·have h1:=hin.1
     have h2:65536^la≤65536^16:=Nat.pow_le_pow_right (by decide) h
     omega
   have HG1:=Lh KG1
   have HIN:=Lh (And.intro hin (And.intro hm hgr))
   have RR:=Lh rr
   have RB:=Lh rb
   have i1:(16:Int)≤(la:Int):=by omega
   have i2:(16:Int)≤(ca:Int):=by omega
   have i3:(la:Int)≤(ca:Int):=by omega
   clear KG1 hin hm hgr rr rb
   go_wp2_with fail
   refine HG1.out.mono ?_
   rintro e w1 ⟨rfl,hb1⟩
   clear HG1
   have hs1:=hb1.size
   have HIN1:=Lh (A6 HIN.out.1 hb1)
   have RR1:=Lh (RR.out.keep hb1)
   have RB1:=Lh (B0 hb1 RB.out hbs)
   clear RR RB hb1
   have j1:(16:Int)<(ca:Int):=by omega
   have j2:¬ ca≤16:=by omega
   have j3:¬ ca=16:=by omega
   have HO:Hid (∀ W,Below w1.heap.size w1 W→IsO W g 16 (la-16) (gk/65536^16)):=fun W hW=>(Zg HIN1.out la16).below hW
   have HLo:Hid (∀ W,Below w1.heap.size w1 W→IsN W (some ⟨g,0,none⟩) 16 ca (gk%65536^16)):=fun W hW=>A6 (aW HIN1.out h16) hW
   obtain⟨H,hH⟩:=exzb (gk/65536^16)
   obtain⟨lo,hlo⟩:=exzb (gk%65536^16)
   have hgm:=WP gk
   have hgl:=RX gk HIN.out.2.2
   rw[hH] at HO hgm hgl
   rw[hlo] at HLo hgm hgl
   have HGM:=Lh (And.intro (hgm.trans HIN.out.2.1) hgl)
   clear hH hlo hgm hgl
   go_wp2_with fail
   go_region_held3 (fun w'=>True) (first | (with_reducible exact trivial) | go_keep) (first
    | (go_at_call 110;(refine (KM.out g _ (la-16) _ 1 1 H 38 _ ?_ ?_ ?_ ?_ ?_ ?_).mono ?_);(focus (refine HO.out _ ?_;(repeat (first | (with_reducible exact Below.refl _ _) | (with_reducible apply Bi) | (with_reducible apply Dc)));done));(focus (refine Ya ?_;(first | (with_reducible exact Aj _ _) | (with_reducible exact Gl (Aj _ _)));done));(focus (omega;done));(focus (omega;done));(focus (omega;done));(focus (omega;done));rintro e w3 ⟨g3,rfl,ho3,hg3,hb3⟩)
    | (go_at_call 107;(refine (KA.out (some ⟨g,0,none⟩) (some ⟨g3,0,none⟩) 16 _ (la-16+1) (la-16+1) lo (H*38) _ ?_ ?_ ?_ ?_).mono ?_);(focus (refine HLo.out _ ?_;(repeat (first | (with_reducible assumption) | (with_reducible exact Below.refl _ _) | (with_reducible apply Bi) | (with_reducible apply Dc) | (with_reducible apply AE) | exact Nat.le_refl _ | (simp;done)));done));(focus (exact ho3.is _ (Nat.le_refl _);done));(focus (omega;done));(focus (omega;done));rintro e w4 ⟨g4,rfl,ho4,hg4,hb4⟩))
   rename_i hH
   clear hH
   have hb14:Below w1.heap.size w1 w4:=by
    (repeat (first | (with_reducible assumption) | (with_reducible exact Below.refl _ _) | (with_reducible apply Bi) | (with_reducible apply Dc) | (with_reducible apply AE) | exact Nat.le_refl _ | (simp;done)))
   have hm1:16≤max 16 (la-16+1)+1:=by have:=Nat.le_max_left 16 (la-16+1);omega
   have hm2:max 16 (la-16+1)+1≤60:=by have:=Nat.max_le.2 (And.intro (show 16≤59 by omega) (show la-16+1≤59 by omega));omega
   have HO4:=Lh (And.intro (ho4.is _ (Nat.le_refl _)) (And.intro hm1 hm2))
   have RR4:=Lh (AH hb14 RR1.out (Nat.le_refl _))
   have RB4:=Lh (AE hb14 RB1.out (Nat.le_refl _))
   clear ho3 ho4 hb3 hb4 hb14 hm1 hm2 RR1 RB1 HO HLo
   generalize max 16 (la-16+1)+1=ml at *
   go_wp2_with fail
   go_roundg (lo+H*38)
   case rel=>exact⟨g4,ml,ml,rfl,HO4.out.1,HO4.out.2.1,HO4.out.2.2,HGM.out.1,RR4.out,RB4.out⟩
   case measure=>exact HGM.out.2
  ·rw[decide_eq_false hgr] at KG1
   have HG1:=Lh KG1
   have HIN:=Lh (And.intro hin (And.intro hm hgr))
   have RR:=Lh rr
   have RB:=Lh rb
   clear KG1 hin hm hgr rr rb
   go_wp2_with fail
   refine HG1.out.mono ?_
   rintro e w1 ⟨rfl,hb1⟩
   clear HG1
   go_wp2_with fail
   refine (KP.out _).mono ?_
   rintro e w2 ⟨gp,rfl,hop,hgp,hb2⟩
   have hb12:=AE hb2 hb1 (Nat.le_refl _)
   have HIN2:=Lh (A6 HIN.out.1 hb12)
   have RR2:=Lh (RR.out.keep hb12)
   have RB2:=Lh (AE hb12 RB.out (Nat.le_refl _))
   have HOP:=Lh hop
   have HM:=Lh HIN.out.2
   clear RR RB hb1 hb2 hb12 hop hgp HIN
   go_wp2_with fail
   generalize w2=Z at *
   go_loopg [0] gk (fun gq s0 wr=>∃ g la ca,s0=.slice (some ⟨g,0,none⟩) la ca∧IsN wr (some ⟨g,0,none⟩) la ca gq∧16≤la∧gq<65536^16∧gq%PN=R∧By wr gp 16 PN∧IsA wr w.heap.size 0 23∧Below w.heap.size w wr)
   case atStart=>exact⟨g,la,ca,rfl,HIN2.out,h16,by have:=HM.out.2;omega,HM.out.1,HOP.out,RR2.out,RB2.out⟩
   case round =>
    obtain⟨g',la',ca',rfl,hin,h16',hgq,hm,hop,rr,rb⟩:=hrel
    clear HIN2 RR2 RB2 HOP HM
    have hbs2:=rb.size
    have KL1:=KL.out (some ⟨g',0,none⟩) (some ⟨gp,0,none⟩) la' ca' 16 16 gk PN wr hin (hop.is 16 (Nat.le_refl _))
    by_cases hlt:gk<PN
    ·rw[decide_eq_true hlt] at KL1
     have HL1:=Lh KL1
     have hE:gk=R:=by rw[← hm,Nat.mod_eq_of_lt hlt]
     have KT1:=fun w' (hw:IsN w' (some ⟨g',0,none⟩) la' ca' gk)=>KT.out (some ⟨g',0,none⟩) la' ca' gk w' hw (Bv hlt)
     have HT1:=Lh KT1
     have HIN:=Lh hin
     have RR:=Lh rr
     have RB:=Lh rb
     have HE:=Lh hE
     clear KL1 hin hop rr rb hm hgq hlt hE KT1
     go_wp2_with fail
     refine HL1.out.mono ?_
     rintro e w3 ⟨rfl,nq,rfl⟩
     clear HL1
     have bq:Below wr.heap.size wr (wr.drewN nq):=AV (Below.refl _ _) nq
     have HIN3:=Lh (A6 HIN.out bq)
     have RR3:=Lh (RR.out.keep bq)
     have RB3:=Lh (AE bq RB.out (Nat.le_refl _))
     clear HIN RR RB bq
     go_wp2_with fail
     generalize wr.drewN nq=Z3 at *
     refine (HT1.out Z3 HIN3.out).mono ?_
     rintro e w4 ⟨rfl,hb4⟩
     have xr:=AT (RR3.out.keep hb4)
     obtain⟨⟨d0,d1,d2,d3⟩,e0,e1,e2,e3⟩:=Aq xr
     have KLd:=Lh (BU (AN (n:=gk) xr))
     have BR:=Lh (Bh (AE hb4 RB3.out (Nat.le_refl _)) (v0:=.int .u64 (wd gk 0:Int)) (v1:=.int .u64 (wd gk 1:Int)) (v2:=.int .u64 (wd gk 2:Int)) (v3:=.int .u64 (wd gk 3:Int)) (b:=w.heap.size) (Nat.le_refl _))
     clear xr RR3 RB3 HIN3 hb4 HT1
     go_wp2_with fail
     exact bodyPost_ret (Ap Tryz.results125 (by rfl) KLd.out) rfl ⟨by rw[← HE.out];rfl,BR.out⟩
    ·rw[decide_eq_false hlt] at KL1
     have HL1:=Lh KL1
     have KS1:=fun w' (hw:IsN w' (some ⟨g',0,none⟩) la' ca' gk) (hp:By w' gp 16 PN)=>KS.out (some ⟨g',0,none⟩) (some ⟨gp,0,none⟩) la' ca' 16 16 gk PN w' hw (hp.is 16 (Nat.le_refl _)) (Nat.le_of_not_lt hlt)
     have HS1:=Lh KS1
     have hle:PN≤gk:=Nat.le_of_not_lt hlt
     have HIN:=Lh (And.intro hin hop)
     have RR:=Lh rr
     have RB:=Lh rb
     have HE:=Lh (And.intro hm (And.intro hgq hle))
     clear KL1 hin hop rr rb hm hgq hlt hle KS1
     go_wp2_with fail
     refine HL1.out.mono ?_
     rintro e w3 ⟨rfl,nq,rfl⟩
     clear HL1
     have bq:Below wr.heap.size wr (wr.drewN nq):=AV (Below.refl _ _) nq
     have HIN3:=Lh (And.intro (A6 HIN.out.1 bq) (HIN.out.2.below bq))
     have RR3:=Lh (RR.out.keep bq)
     have RB3:=Lh (AE bq RB.out (Nat.le_refl _))
     clear HIN RR RB bq
     go_wp2_with fail
     generalize wr.drewN nq=Z3 at *
     refine (HS1.out Z3 HIN3.out.1 HIN3.out.2).mono ?_
     rintro e w4 ⟨rfl,ho4,hb4⟩
     have HO4:=Lh (And.intro (ho4.is la' (Nat.le_refl _)) (HIN3.out.2.below hb4))
     have RR4:=Lh (RR3.out.keep hb4)
     have RB4:=Lh (AE hb4 RB3.out (Nat.le_refl _))
     clear RR3 RB3 HIN3 hb4 HS1 ho4
     go_wp2_with fail
     go_roundg (gk-PN)
     case rel =>
      have h1:=HE.out
      refine⟨_,la',la',rfl,HO4.out.1,h16',by omega,?_,HO4.out.2,RR4.out,RB4.out⟩
      rw[← h1.1]
      exact (Nat.mod_eq_sub_mod h1.2.2).symm
     case measure =>
      have h1:=HE.out
      have h2:=Au
      omega
theorem Hp (n:Nat) (w:World) (hn:n<B64^4):Calls Tryz.prog 113 #[Aa n] w fun e w'=>e=.returned (Aa (n%PN))∧Below w.heap.size w w':=by
 have K1:=Lh (fun w=>CX n w hn)
 have K2:=Lh (fun g w (h:By w g 16 n)=>Jm g 16 16 n w (h.is 16 (Nat.le_refl _)) (by omega) (by omega))
 obtain⟨R,hR⟩:=exzb (n%PN)
 rw[hR] at K2 ⊢
 obtain⟨xa,xr,xz,xB⟩:=MT n 23 23 w
 simp only[AL] at K1 K2 ⊢
 obtain⟨⟨p0,p1,p2,p3⟩,_⟩:=Aq xa
 clear hR hn
 go_enter Tryz.func113,Tryz.ntmps113
 go_wp2_with fail
 change Calls _ _ _ (A2 n 23 23 w) _
 generalize A2 n 23 23 w=X at *
 refine (K1.out X).mono ?_
 rintro e w1 ⟨g,rfl,ho,hg,hb1⟩
 have XR:=Lh (xr.keep hb1)
 have XB:=Lh (AE hb1 xB (Nat.le_refl _))
 have HO:=Lh ho
 clear xa xr xB hb1 ho p0 p1 p2 p3
 go_wp2_with fail
 refine (K2.out g w1 HO.out).mono ?_
 rintro e w2 ⟨rfl,hb2⟩
 have xr2:=AT (XR.out.keep hb2)
 obtain⟨⟨d0,d1,d2,d3⟩,e0,e1,e2,e3⟩:=Aq xr2
 have KL:=Lh (BU (AN (n:=R) xr2))
 have BR:=Lh (Bh (AE hb2 XB.out (Nat.le_refl _)) (v0:=.int .u64 (wd R 0:Int)) (v1:=.int .u64 (wd R 1:Int)) (v2:=.int .u64 (wd R 2:Int)) (v3:=.int .u64 (wd R 3:Int)) (b:=w.heap.size+1) (by omega))
 clear xr2 XR XB HO hb2
 go_wp2_with fail
 exact bodyPost_ret (Ap Tryz.results113 (by rfl) KL.out) rfl ⟨rfl,BR.out⟩
theorem C8.far {w:World} {b n c m d:Nat} {v0 v1 v2 v3:Value} (h:C8 w b n c m) (h1:b≠d) (h2:c≠d):C8 ((((w.setCell ⟨d,0,none⟩ v0).setCell ⟨d,1,none⟩ v1).setCell ⟨d,2,none⟩ v2).setCell ⟨d,3,none⟩ v3) b n c m:=C8.of (h.left.far h1) (h.right.far h2)
def A3r (a b:Nat) (w:World):World:=((w.alloc (.cells #[.int .u64 (wd a 0:Int),.int .u64 (wd a 1:Int),.int .u64 (wd a 2:Int),.int .u64 (wd a 3:Int)] 23)).alloc (.cells #[.int .u64 (wd b 0:Int),.int .u64 (wd b 1:Int),.int .u64 (wd b 2:Int),.int .u64 (wd b 3:Int)] 23)).alloc (.cells #[.int .u64 0,.int .u64 0,.int .u64 0,.int .u64 0] 23)
theorem Od (a b:Nat) (w:World):IsA (A3r a b w) w.heap.size a 23∧IsA (A3r a b w) (w.heap.size+1) b 23∧IsA (A3r a b w) (w.heap.size+1+1) 0 23∧(A3r a b w).heap.size=w.heap.size+3∧Below w.heap.size w (A3r a b w):=by
 unfold A3r
 refine⟨(G4 w a _ _).alloc _,(AP (Cy w _ _) _:_),CE (GU w _ _ _),by simp,Al (Al (Al (Below.refl _ _) _) _) _⟩
theorem Fh (a:Nat) (w:World) (ha:a<18446744073709551616):Calls Tryz.prog 68 #[.int .u64 (a:Int)] w fun e w'=>e=.returned (Aa a)∧Below w.heap.size w w':=by
 have hx:(An a).toArray=#[.int .u64 (a:Int),.int .u64 0,.int .u64 0,.int .u64 0]:=MY a ha
 have kl:=BU (W:=w.alloc (.cells (An a).toArray 23)) (b:=w.heap.size) (n:=a) (Aj _ _)
 rw[hx] at kl
 have KL:=Lh kl
 clear kl hx
 go_enter Tryz.func68,Tryz.ntmps68
 go_wp2_with fail
 exact bodyPost_ret (Ap Tryz.results68 (by rfl) KL.out) rfl ⟨rfl,Al (Below.refl _ _) _⟩
theorem JW (a b:Nat) (w:World) (ha:a<B64^4) (hb:b<B64^4) :
    Calls Tryz.prog 67 #[Aa a,Aa b] w fun e w'=>e=.returned (Aa (a*b%PN))∧Below w.heap.size w w':=by
 have KOa:=Lh (fun w=>CX a w ha)
 have KOb:=Lh (fun w=>CX b w hb)
 have KM:=Lh (fun g h w (h1:By w g 16 a) (h2:By w h 16 b)=>Md g h 16 16 16 16 a b w (h1.is 16 (Nat.le_refl _)) (h2.is 16 (Nat.le_refl _)) (by omega) (by omega) (by omega) (by omega))
 have KF:=Lh (fun g w (h:By w g 32 (a*b))=>Jm g 32 32 (a*b) w (h.is 32 (Nat.le_refl _)) (by omega) (by omega))
 obtain⟨R,hR⟩:=exzb (a*b%PN)
 have HR:=Lh hR
 rw[hR]
 obtain⟨xa,xb,xr,xz,xB⟩:=Od a b w
 simp only[AL] at KOa KOb ⊢
 clear hR ha hb
 go_enter Tryz.func67,Tryz.ntmps67
 go_wp2_with fail
 change Code.wp _ _ _ _ (A3r a b w)
 generalize A3r a b w=X at *
 have hC:C8 X w.heap.size a (w.heap.size+1) b:=C8.of (Dk xa) (Dk xb)
 have hCd:C8 X.drew w.heap.size a (w.heap.size+1) b:=hC
 have XR:=Lh xr
 have XBl:=xB
 have hxz:w.heap.size+3≤X.heap.size:=by omega
 have hne1:w.heap.size≠w.heap.size+1+1:=by omega
 have hne2:w.heap.size+1≠w.heap.size+1+1:=by omega
 clear xa xb xr xz xB
 go_region_held3 (fun w'=>w'.cell? ⟨w.heap.size,0,none⟩=some (.int .u64 (wd a 0:Int))∧w'.cell? ⟨w.heap.size,1,none⟩=some (.int .u64 (wd a 1:Int))∧w'.cell? ⟨w.heap.size,2,none⟩=some (.int .u64 (wd a 2:Int))∧w'.cell? ⟨w.heap.size,3,none⟩=some (.int .u64 (wd a 3:Int))∧w'.cell? ⟨w.heap.size+1,0,none⟩=some (.int .u64 (wd b 0:Int))∧w'.cell? ⟨w.heap.size+1,1,none⟩=some (.int .u64 (wd b 1:Int))∧w'.cell? ⟨w.heap.size+1,2,none⟩=some (.int .u64 (wd b 2:Int))∧w'.cell? ⟨w.heap.size+1,3,none⟩=some (.int .u64 (wd b 3:Int))) (first | (with_reducible exact hCd) | (focus ((repeat (first | (with_reducible assumption) | (with_reducible apply C8.alloc) | (with_reducible apply C8.drew) | (with_reducible apply C8.far) | (with_reducible apply C8.calls) | exact Nat.le_refl _ | omega | (simp;done)));done))) (first
  | (go_at_call_of 108 (Value.agg #[.int .u64 (wd a 0:Int),.int .u64 (wd a 1:Int),.int .u64 (wd a 2:Int),.int .u64 (wd a 3:Int)]);go_must (refine (KOa.out _).mono ?_);rintro e w3 ⟨g1,rfl,ho1,hg1,hb3⟩)
  | (go_at_call_of 108 (Value.agg #[.int .u64 (wd b 0:Int),.int .u64 (wd b 1:Int),.int .u64 (wd b 2:Int),.int .u64 (wd b 3:Int)]);go_must (refine (KOb.out _).mono ?_);rintro e w4 ⟨g2,rfl,ho2,hg2,hb4⟩)
  | (go_at_call 110;(refine (KM.out g1 g2 _ ?_ ?_).mono ?_);(focus (exact ho1.below hb4;done));(focus (exact ho2;done));rintro e w5 ⟨g3,rfl,ho3,hg3,hb5⟩)
  | (go_at_call 125;(refine (KF.out g3 _ ?_).mono ?_);(focus (exact ho3;done));rintro e wz ⟨rfl,hbz⟩;rw[HR.out,AL]
     have xz0:IsA wz (w.heap.size+1+1) 0 23:=AH (show Below X.heap.size X wz from by (repeat (first | (with_reducible assumption) | (with_reducible exact Below.refl _ _) | (with_reducible apply Dc) | (with_reducible apply AE) | exact Nat.le_refl _ | (simp;done)))) XR.out (Nat.le_refl _)
     have xz1:=AT xz0
     obtain⟨⟨d0,d1,d2,d3⟩,e0,e1,e2,e3⟩:=Aq xz1))
 rename_i hH
 clear hH hC hCd
 have hbX:Below X.heap.size X wz:=by
  (repeat (first | (with_reducible assumption) | (with_reducible exact Below.refl _ _) | (with_reducible apply Dc) | (with_reducible apply AE) | exact Nat.le_refl _ | (simp;done)))
 have KL:=Lh (BU (AN (n:=R) xz0))
 have BR:=Lh (Bh (AE hbX XBl (Nat.le_refl _)) (v0:=.int .u64 (wd R 0:Int)) (v1:=.int .u64 (wd R 1:Int)) (v2:=.int .u64 (wd R 2:Int)) (v3:=.int .u64 (wd R 3:Int)) (b:=w.heap.size+1+1) (by omega))
 go_wp2_with fail
 exact bodyPost_ret (Ap Tryz.results67 (by rfl) KL.out) rfl ⟨rfl,BR.out⟩
theorem UX (a b:Nat) (w:World) (ha:a<B64^4) (hb:b<B64^4) :
    Calls Tryz.prog 128 #[Aa a,Aa b] w fun e w'=>e=.returned (Aa ((a+b)%PN))∧Below w.heap.size w w':=by
 have KOa:=Lh (fun w=>CX a w ha)
 have KOb:=Lh (fun w=>CX b w hb)
 have KM:=Lh (fun g h w (h1:By w g 16 a) (h2:By w h 16 b)=>Fe (some ⟨g,0,none⟩) (some ⟨h,0,none⟩) 16 16 16 16 a b w (h1.is 16 (Nat.le_refl _)) (h2.is 16 (Nat.le_refl _)) (by omega) (by omega))
 have KF:=Lh (fun g w (h:By w g 17 (a+b))=>Jm g 17 17 (a+b) w (h.is 17 (Nat.le_refl _)) (by omega) (by omega))
 obtain⟨R,hR⟩:=exzb ((a+b)%PN)
 have HR:=Lh hR
 rw[hR]
 obtain⟨xa,xb,xr,xz,xB⟩:=Od a b w
 simp only[AL] at KOa KOb ⊢
 clear hR ha hb
 go_enter Tryz.func128,Tryz.ntmps128
 go_wp2_with fail
 change Code.wp _ _ _ _ (A3r a b w)
 generalize A3r a b w=X at *
 have hC:C8 X w.heap.size a (w.heap.size+1) b:=C8.of (Dk xa) (Dk xb)
 have hCd:C8 X.drew w.heap.size a (w.heap.size+1) b:=hC
 have XR:=Lh xr
 have XBl:=xB
 have hxz:w.heap.size+3≤X.heap.size:=by omega
 have hne1:w.heap.size≠w.heap.size+1+1:=by omega
 have hne2:w.heap.size+1≠w.heap.size+1+1:=by omega
 clear xa xb xr xz xB
 go_region_held3 (fun w'=>w'.cell? ⟨w.heap.size,0,none⟩=some (.int .u64 (wd a 0:Int))∧w'.cell? ⟨w.heap.size,1,none⟩=some (.int .u64 (wd a 1:Int))∧w'.cell? ⟨w.heap.size,2,none⟩=some (.int .u64 (wd a 2:Int))∧w'.cell? ⟨w.heap.size,3,none⟩=some (.int .u64 (wd a 3:Int))∧w'.cell? ⟨w.heap.size+1,0,none⟩=some (.int .u64 (wd b 0:Int))∧w'.cell? ⟨w.heap.size+1,1,none⟩=some (.int .u64 (wd b 1:Int))∧w'.cell? ⟨w.heap.size+1,2,none⟩=some (.int .u64 (wd b 2:Int))∧w'.cell? ⟨w.heap.size+1,3,none⟩=some (.int .u64 (wd b 3:Int))) (first | (with_reducible exact hCd) | (focus ((repeat (first | (with_reducible assumption) | (with_reducible apply C8.alloc) | (with_reducible apply C8.drew) | (with_reducible apply C8.far) | (with_reducible apply C8.calls) | exact Nat.le_refl _ | omega | (simp;done)));done))) (first
  | (go_at_call_of 108 (Value.agg #[.int .u64 (wd a 0:Int),.int .u64 (wd a 1:Int),.int .u64 (wd a 2:Int),.int .u64 (wd a 3:Int)]);go_must (refine (KOa.out _).mono ?_);rintro e w3 ⟨g1,rfl,ho1,hg1,hb3⟩)
  | (go_at_call_of 108 (Value.agg #[.int .u64 (wd b 0:Int),.int .u64 (wd b 1:Int),.int .u64 (wd b 2:Int),.int .u64 (wd b 3:Int)]);go_must (refine (KOb.out _).mono ?_);rintro e w4 ⟨g2,rfl,ho2,hg2,hb4⟩)
  | (go_at_call 107;(refine (KM.out g1 g2 _ ?_ ?_).mono ?_);(focus (exact ho1.below hb4;done));(focus (exact ho2;done));rintro e w5 ⟨g3,rfl,ho3,hg3,hb5⟩)
  | (go_at_call 125;(refine (KF.out g3 _ ?_).mono ?_);(focus (exact ho3;done));rintro e wz ⟨rfl,hbz⟩;rw[HR.out,AL]
     have xz0:IsA wz (w.heap.size+1+1) 0 23:=AH (show Below X.heap.size X wz from by (repeat (first | (with_reducible assumption) | (with_reducible exact Below.refl _ _) | (with_reducible apply Dc) | (with_reducible apply AE) | exact Nat.le_refl _ | (simp;done)))) XR.out (Nat.le_refl _)
     have xz1:=AT xz0
     obtain⟨⟨d0,d1,d2,d3⟩,e0,e1,e2,e3⟩:=Aq xz1))
 rename_i hH
 clear hH hC hCd
 have hbX:Below X.heap.size X wz:=by
  (repeat (first | (with_reducible assumption) | (with_reducible exact Below.refl _ _) | (with_reducible apply Dc) | (with_reducible apply AE) | exact Nat.le_refl _ | (simp;done)))
 have KL:=Lh (BU (AN (n:=R) xz0))
 have BR:=Lh (Bh (AE hbX XBl (Nat.le_refl _)) (v0:=.int .u64 (wd R 0:Int)) (v1:=.int .u64 (wd R 1:Int)) (v2:=.int .u64 (wd R 2:Int)) (v3:=.int .u64 (wd R 3:Int)) (b:=w.heap.size+1+1) (by omega))
 go_wp2_with fail
 exact bodyPost_ret (Ap Tryz.results128 (by rfl) KL.out) rfl ⟨rfl,BR.out⟩
theorem N9 (a b:Nat) (w:World) (ha:a<B64^4) (hb:b<B64^4) (hle:b≤a+PN) :
    Calls Tryz.prog 114 #[Aa a,Aa b] w fun e w'=>e=.returned (Aa ((a+PN-b)%PN))∧Below w.heap.size w w':=by
 have KOa:=Lh (fun w=>CX a w ha)
 have KOb:=Lh (fun w=>CX b w hb)
 have KP:=Lh IF
 have KM:=Lh (fun g h w (h1:By w g 16 a) (h2:By w h 16 PN)=>Fe (some ⟨g,0,none⟩) (some ⟨h,0,none⟩) 16 16 16 16 a PN w (h1.is 16 (Nat.le_refl _)) (h2.is 16 (Nat.le_refl _)) (by omega) (by omega))
 have KD:=Lh (fun g h w (h1:By w g 17 (a+PN)) (h2:By w h 16 b)=>Gv (some ⟨g,0,none⟩) (some ⟨h,0,none⟩) 17 17 16 16 (a+PN) b w (h1.is 17 (Nat.le_refl _)) (h2.is 16 (Nat.le_refl _)) hle)
 have KF:=Lh (fun g w (h:By w g 17 (a+PN-b))=>Jm g 17 17 (a+PN-b) w (h.is 17 (Nat.le_refl _)) (by omega) (by omega))
 obtain⟨R,hR⟩:=exzb ((a+PN-b)%PN)
 have HR:=Lh hR
 rw[hR]
 obtain⟨xa,xb,xr,xz,xB⟩:=Od a b w
 simp only[AL] at KOa KOb ⊢
 clear hR ha hb hle
 go_enter Tryz.func114,Tryz.ntmps114
 go_wp2_with fail
 change Code.wp _ _ _ _ (A3r a b w)
 generalize A3r a b w=X at *
 have hC:C8 X w.heap.size a (w.heap.size+1) b:=C8.of (Dk xa) (Dk xb)
 have hCd:C8 X.drew w.heap.size a (w.heap.size+1) b:=hC
 have XR:=Lh xr
 have XBl:=xB
 have hxz:w.heap.size+3≤X.heap.size:=by omega
 have hne1:w.heap.size≠w.heap.size+1+1:=by omega
 have hne2:w.heap.size+1≠w.heap.size+1+1:=by omega
 clear xa xb xr xz xB
 go_region_held3 (fun w'=>w'.cell? ⟨w.heap.size,0,none⟩=some (.int .u64 (wd a 0:Int))∧w'.cell? ⟨w.heap.size,1,none⟩=some (.int .u64 (wd a 1:Int))∧w'.cell? ⟨w.heap.size,2,none⟩=some (.int .u64 (wd a 2:Int))∧w'.cell? ⟨w.heap.size,3,none⟩=some (.int .u64 (wd a 3:Int))∧w'.cell? ⟨w.heap.size+1,0,none⟩=some (.int .u64 (wd b 0:Int))∧w'.cell? ⟨w.heap.size+1,1,none⟩=some (.int .u64 (wd b 1:Int))∧w'.cell? ⟨w.heap.size+1,2,none⟩=some (.int .u64 (wd b 2:Int))∧w'.cell? ⟨w.heap.size+1,3,none⟩=some (.int .u64 (wd b 3:Int))) (first | (with_reducible exact hCd) | (focus ((repeat (first | (with_reducible assumption) | (with_reducible apply C8.alloc) | (with_reducible apply C8.drew) | (with_reducible apply C8.far) | (with_reducible apply C8.calls) | exact Nat.le_refl _ | omega | (simp;done)));done))) (first
  | (go_at_call_of 108 (Value.agg #[.int .u64 (wd a 0:Int),.int .u64 (wd a 1:Int),.int .u64 (wd a 2:Int),.int .u64 (wd a 3:Int)]);go_must (refine (KOa.out _).mono ?_);rintro e w3 ⟨g1,rfl,ho1,hg1,hb3⟩)
  | (go_at_call_of 108 (Value.agg #[.int .u64 (wd b 0:Int),.int .u64 (wd b 1:Int),.int .u64 (wd b 2:Int),.int .u64 (wd b 3:Int)]);go_must (refine (KOb.out _).mono ?_);rintro e w4 ⟨g2,rfl,ho2,hg2,hb4⟩)
  | (go_at_call 163;go_must (refine (KP.out _).mono ?_);rintro e w5 ⟨g3,rfl,ho3,hg3,hb5⟩)
  | (go_at_call 107;(refine (KM.out g1 g3 _ ?_ ?_).mono ?_);(focus (exact ho1.below hb5;done));(focus (exact ho3;done));rintro e w6 ⟨g4,rfl,ho4,hg4,hb6⟩)
  | (go_at_call 154;(refine (KD.out g4 g2 _ ?_ ?_).mono ?_);(focus (exact ho4.below hb4;done));(focus (exact ho2;done));rintro e w7 ⟨rfl,ho7,hb7⟩)
  | (go_at_call 125;(refine (KF.out _ _ ?_).mono ?_);(focus (exact ho7;done));rintro e wz ⟨rfl,hbz⟩;rw[HR.out,AL]
     have xz0:IsA wz (w.heap.size+1+1) 0 23:=AH (show Below X.heap.size X wz from by (repeat (first | (with_reducible assumption) | (with_reducible exact Below.refl _ _) | (with_reducible apply Dc) | (with_reducible apply AE) | exact Nat.le_refl _ | (simp;done)))) XR.out (Nat.le_refl _)
     have xz1:=AT xz0
     obtain⟨⟨d0,d1,d2,d3⟩,e0,e1,e2,e3⟩:=Aq xz1))
 rename_i hH
 clear hH hC hCd
 have hbX:Below X.heap.size X wz:=by
  (repeat (first | (with_reducible assumption) | (with_reducible exact Below.refl _ _) | (with_reducible apply Dc) | (with_reducible apply AE) | exact Nat.le_refl _ | (simp;done)))
 have KL:=Lh (BU (AN (n:=R) xz0))
 have BR:=Lh (Bh (AE hbX XBl (Nat.le_refl _)) (v0:=.int .u64 (wd R 0:Int)) (v1:=.int .u64 (wd R 1:Int)) (v2:=.int .u64 (wd R 2:Int)) (v3:=.int .u64 (wd R 3:Int)) (b:=w.heap.size+1+1) (by omega))
 go_wp2_with fail
 exact bodyPost_ret (Ap Tryz.results114 (by rfl) KL.out) rfl ⟨rfl,BR.out⟩
def Ky (a k i:Nat):Nat:=a^(k%2^i)%PN
def sqN (a i:Nat):Nat:=a^(2^i)%PN
theorem dX (a k i:Nat):Ky a k i<PN:=Nat.mod_lt _ Au
theorem fm (a i:Nat):sqN a i<PN:=Nat.mod_lt _ Au
theorem Z6 (a i:Nat):sqN a (i+1)=sqN a i*sqN a i%PN:=by
 unfold sqN
 rw[← Nat.mul_mod,← Nat.pow_add,Nat.pow_succ,Nat.mul_two]
theorem WT (a k i:Nat):Ky a k (i+1)=if CF k i=1 then Ky a k i*sqN a i%PN else Ky a k i:=by
 have h:k%2^(i+1)=k%2^i+2^i*CF k i:=by
  unfold CF
  rw[Nat.pow_succ,Nat.mod_mul]
 have hb:=EK k i
 unfold Ky sqN
 rw[h]
 split
 ·rename_i hb1
  rw[hb1,Nat.mul_one,Nat.pow_add,← Nat.mul_mod]
 ·rename_i hb1
  have h0:CF k i=0:=by omega
  rw[h0,Nat.mul_zero,Nat.add_zero]
theorem fb (a k:Nat):Ky a k 0=1:=by
 unfold Ky
 rw[Nat.pow_zero,Nat.mod_one,Nat.pow_zero]
 decide +kernel
theorem iL (a:Nat) (ha:a<PN):sqN a 0=a:=by
 unfold sqN
 rw[Nat.pow_zero,Nat.pow_one,Nat.mod_eq_of_lt ha]
theorem By.far {w:World} {b c len n:Nat} {v0 v1 v2 v3:Value} (h:By w b len n) (hne:b≠c):By ((((w.setCell ⟨c,0,none⟩ v0).setCell ⟨c,1,none⟩ v1).setCell ⟨c,2,none⟩ v2).setCell ⟨c,3,none⟩ v3) b len n:=⟨Gn h.1 hne,h.2⟩
theorem am {w:World} {b c:Nat} {v0 v1 v2 v3:Value} (hne:c≠b):((((w.setCell ⟨b,0,none⟩ v0).setCell ⟨b,1,none⟩ v1).setCell ⟨b,2,none⟩ v2).setCell ⟨b,3,none⟩ v3).heap[c]?=w.heap[c]?:=FU hne
theorem jm (k:Nat) (hk:k<B64^4):k%2^256=k:=Nat.mod_eq_of_lt (by rw[show (2:Nat)^256=B64^4 by decide +kernel];exact hk)
theorem Jc (a k:Nat) (w:World) (ha:a<PN) (hk:k<B64^4):Calls Tryz.prog 126 #[Aa a,Aa k] w fun e w'=>e=.returned (Aa (a^k%PN))∧Below w.heap.size w w':=by
 have KO:=Lh (fun w=>CX k w hk)
 have KS:=Lh (fun w=>Fh 1 w (by decide))
 obtain⟨c1,hc1⟩:∃ c1,c1=1:=⟨1,rfl⟩
 have KS:Hid (∀ w,Calls Tryz.prog 68 #[.int .u64 1] w fun e w'=>e=.returned (Aa c1)∧Below w.heap.size w w'):=fun w=>by rw[hc1];exact KS.out w
 have KB:=Lh (fun g i w (h:By w g 16 k) (hi:i≤100000)=>LH (some ⟨g,0,none⟩) 16 16 k i w (h.is 16 (Nat.le_refl _)) hi)
 have KM:=Lh JW
 have hend:Ky a k 256=a^k%PN:=by unfold Ky;rw[jm k hk]
 have H0:=Lh (And.intro ((fb a k).trans hc1.symm) (iL a ha))
 have HE:=Lh hend
 rw[← hend]
 obtain⟨xa,xk,xr,xz,xB⟩:=Od a k w
 simp only[AL] at KO KS KM ⊢
 obtain⟨⟨p0,p1,p2,p3⟩,_⟩:=Aq xa
 obtain⟨⟨q0,q1,q2,q3⟩,_⟩:=Aq xk
 clear ha hk hc1 hend
 go_enter Tryz.func126,Tryz.ntmps126
 go_wp2_with fail
 change Calls _ _ _ (A3r a k w) _
 generalize A3r a k w=X at *
 refine (KO.out X).mono ?_
 rintro e w1 ⟨g,rfl,ho,hg,hb1⟩
 have XA:=Lh (xa.keep hb1)
 have XR:=Lh (xr.keep hb1)
 have XB:=Lh (AE hb1 xB (Nat.le_refl _))
 have HO:=Lh ho
 have hgs:g<w1.heap.size:=AU ho.1
 have hs1:w.heap.size+3≤w1.heap.size:=by have:=hb1.size;omega
 clear xa xk xr xB hb1 ho p0 p1 p2 p3 q0 q1 q2 q3 xz hg
 go_wp2_with fail
 refine (KS.out w1).mono ?_
 rintro e w2 ⟨rfl,hb2⟩
 have hs2:=hb2.size
 have xa2:=(XA.out.keep hb2).alloc (.cells #[.int .u64 (wd c1 0:Int),.int .u64 (wd c1 1:Int),.int .u64 (wd c1 2:Int),.int .u64 (wd c1 3:Int)] 23)
 have XR2:=Lh ((XR.out.keep hb2).alloc (.cells #[.int .u64 (wd c1 0:Int),.int .u64 (wd c1 1:Int),.int .u64 (wd c1 2:Int),.int .u64 (wd c1 3:Int)] 23))
 have XB2:=Lh (Bi (AE hb2 XB.out (Nat.le_refl _)) (.cells #[.int .u64 (wd c1 0:Int),.int .u64 (wd c1 1:Int),.int .u64 (wd c1 2:Int),.int .u64 (wd c1 3:Int)] 23))
 have HO2:=Lh ((HO.out.below hb2).below ((Below.refl w2.heap.size w2).alloc (Nat.le_refl _) (.cells #[.int .u64 (wd c1 0:Int),.int .u64 (wd c1 1:Int),.int .u64 (wd c1 2:Int),.int .u64 (wd c1 3:Int)] 23)))
 have N6:Hid (IsA (w2.alloc (.cells #[.int .u64 (wd c1 0:Int),.int .u64 (wd c1 1:Int),.int .u64 (wd c1 2:Int),.int .u64 (wd c1 3:Int)] 23)) w2.heap.size c1 23):=(Aj w2 _ :)
 have hz2:(w2.alloc (.cells #[.int .u64 (wd c1 0:Int),.int .u64 (wd c1 1:Int),.int .u64 (wd c1 2:Int),.int .u64 (wd c1 3:Int)] 23)).heap.size=w2.heap.size+1:=Ae _ _
 have hz2':w2.heap.size+1≤(w2.alloc (.cells #[.int .u64 (wd c1 0:Int),.int .u64 (wd c1 1:Int),.int .u64 (wd c1 2:Int),.int .u64 (wd c1 3:Int)] 23)).heap.size:=by omega
 obtain⟨⟨p0,p1,p2,p3⟩,_⟩:=Aq xa2
 clear hz2 XA XR XB HO hb2 xa2
 have hX3:Hid (IsA ((w2.alloc (.cells #[.int .u64 (wd c1 0:Int),.int .u64 (wd c1 1:Int),.int .u64 (wd c1 2:Int),.int .u64 (wd c1 3:Int)] 23)).alloc (.cells #[.int .u64 (wd a 0:Int),.int .u64 (wd a 1:Int),.int .u64 (wd a 2:Int),.int .u64 (wd a 3:Int)] 23)) (w2.alloc (.cells #[.int .u64 (wd c1 0:Int),.int .u64 (wd c1 1:Int),.int .u64 (wd c1 2:Int),.int .u64 (wd c1 3:Int)] 23)).heap.size a 23):=(Aj _ _ :)
 go_wp2_with fail
 have XR3:=Lh (XR2.out.alloc (.cells #[.int .u64 (wd a 0:Int),.int .u64 (wd a 1:Int),.int .u64 (wd a 2:Int),.int .u64 (wd a 3:Int)] 23))
 have XB3:=Lh (Bi XB2.out (.cells #[.int .u64 (wd a 0:Int),.int .u64 (wd a 1:Int),.int .u64 (wd a 2:Int),.int .u64 (wd a 3:Int)] 23))
 have HO3:=Lh (HO2.out.below ((Below.refl (w2.alloc (.cells #[.int .u64 (wd c1 0:Int),.int .u64 (wd c1 1:Int),.int .u64 (wd c1 2:Int),.int .u64 (wd c1 3:Int)] 23)).heap.size _).alloc (Nat.le_refl _) (.cells #[.int .u64 (wd a 0:Int),.int .u64 (wd a 1:Int),.int .u64 (wd a 2:Int),.int .u64 (wd a 3:Int)] 23)))
 have N6b:=Lh (N6.out.alloc (.cells #[.int .u64 (wd a 0:Int),.int .u64 (wd a 1:Int),.int .u64 (wd a 2:Int),.int .u64 (wd a 3:Int)] 23))
 have N7:Hid (IsA ((w2.alloc (.cells #[.int .u64 (wd c1 0:Int),.int .u64 (wd c1 1:Int),.int .u64 (wd c1 2:Int),.int .u64 (wd c1 3:Int)] 23)).alloc (.cells #[.int .u64 (wd a 0:Int),.int .u64 (wd a 1:Int),.int .u64 (wd a 2:Int),.int .u64 (wd a 3:Int)] 23)) (w2.heap.size+1) a 23):=by
  have h:=hX3.out
  rw[Ae] at h
  exact h
 clear XR2 XB2 HO2 N6 hX3 p0 p1 p2 p3
 generalize (w2.alloc (.cells #[.int .u64 (wd c1 0:Int),.int .u64 (wd c1 1:Int),.int .u64 (wd c1 2:Int),.int .u64 (wd c1 3:Int)] 23)).alloc (.cells #[.int .u64 (wd a 0:Int),.int .u64 (wd a 1:Int),.int .u64 (wd a 2:Int),.int .u64 (wd a 3:Int)] 23)=V at *
 have hb6:w.heap.size+3≤w2.heap.size:=by omega
 have hgb:g<w2.heap.size:=by omega
 clear hz2'
 generalize w2.heap.size=b6 at *
 go_loopw [8] (fun i wr=>∃ j:Nat,j≤256∧i=.int .i64 (j:Int)∧IsA wr b6 (Ky a k j) 23∧IsA wr (b6+1) (sqN a j) 23∧By wr g 16 k∧g<b6∧IsA wr (w.heap.size+1+1) 0 23∧Below w.heap.size w wr) (fun i _=>256-(Go.RowKit.intOf i).toNat)
 case atStart=>exact⟨0,by omega,rfl,by rw[H0.out.1];exact N6b.out,by rw[H0.out.2];exact N7.out,HO3.out,hgb,XR3.out,XB3.out⟩
 case round =>
  obtain⟨j,hj,rfl,r6,r7,hok,hgb,rr,rb⟩:=hrel
  clear N6b N7 HO3 XR3 XB3 H0 hgs hs2
  have hbs:=rb.size
  have hl7:=AU r7
  by_cases hlt:j<256
  ·have q1:(j:Int)<256:=by omega
   have KB1:=Lh (KB.out g j wr hok (by omega))
   have hnx:=WT a k j
   have hsx:=Z6 a j
   have ho1:=dX a k j
   have hs1':=fm a j
   have hb2:=EK k j
   have hbn:((k/2^j%2:Nat):Int)=(CF k j:Int):=rfl
   rw[hbn] at KB1
   obtain⟨bt,hbt⟩:=exzb (CF k j)
   rw[hbt] at KB1 hnx hb2
   obtain⟨O,hO⟩:=exzb (Ky a k j)
   obtain⟨Q,hQ⟩:=exzb (sqN a j)
   rw[hO] at r6 hnx ho1
   rw[hQ] at r7 hnx hsx hs1'
   have KMO:=Lh (fun w=>KM.out O Q w (Bv ho1) (Bv hs1'))
   have KMQ:=Lh (fun w=>KM.out Q Q w (Bv hs1') (Bv hs1'))
   obtain⟨O2,hO2⟩:=exzb (O*Q%PN)
   obtain⟨Q2,hQ2⟩:=exzb (Q*Q%PN)
   rw[hO2] at KMO hnx
   rw[hQ2] at KMQ hsx
   have R6:=Lh r6
   have R7:=Lh r7
   have HOK:=Lh hok
   have RR:=Lh rr
   have RB:=Lh rb
   have HNX:=Lh hnx
   have HSX:=Lh hsx
   clear hbn hbt hO hQ hO2 hQ2 r6 r7 hok rr rb hnx hsx ho1 hs1'
   go_wp2_with fail
   refine KB1.out.mono ?_
   rintro e w3 ⟨rfl,rfl⟩
   clear KB1
   by_cases h1:bt=1
   ·have b1:(bt:Int)=1:=by omega
    rw[b1]
    have hN:=HNX.out
    rw[if_pos h1] at hN
    have HN:=Lh hN
    clear b1 h1 hN HNX hb2
    obtain⟨⟨p0,p1,p2,p3⟩,_⟩:=Aq R6.out
    obtain⟨⟨q0,q1',q2,q3⟩,_⟩:=Aq R7.out
    go_wp2_with fail
    refine (KMO.out _).mono ?_
    rintro e w4 ⟨rfl,hb4⟩
    have hs4:=hb4.size
    have r6:=R6.out.keep hb4
    obtain⟨⟨d0,d1,d2,d3⟩,e0,e1,e2,e3⟩:=Aq r6
    have R6':=Lh (AN (n:=O2) r6)
    have r7:=(R7.out.keep hb4).far (c:=b6) (v0:=.int .u64 (wd O2 0:Int)) (v1:=.int .u64 (wd O2 1:Int)) (v2:=.int .u64 (wd O2 2:Int)) (v3:=.int .u64 (wd O2 3:Int)) (by omega)
    have HOK':=Lh ((HOK.out.below hb4).far (c:=b6) (v0:=.int .u64 (wd O2 0:Int)) (v1:=.int .u64 (wd O2 1:Int)) (v2:=.int .u64 (wd O2 2:Int)) (v3:=.int .u64 (wd O2 3:Int)) (by omega))
    have RR':=Lh ((RR.out.keep hb4).far (c:=b6) (v0:=.int .u64 (wd O2 0:Int)) (v1:=.int .u64 (wd O2 1:Int)) (v2:=.int .u64 (wd O2 2:Int)) (v3:=.int .u64 (wd O2 3:Int)) (by omega))
    have RB':=Lh (Bh (AE hb4 RB.out (Nat.le_refl _)) (v0:=.int .u64 (wd O2 0:Int)) (v1:=.int .u64 (wd O2 1:Int)) (v2:=.int .u64 (wd O2 2:Int)) (v3:=.int .u64 (wd O2 3:Int)) (b:=b6) (by omega))
    have hZs:((((w4.setCell ⟨b6,0,none⟩ (.int .u64 (wd O2 0:Int))).setCell ⟨b6,1,none⟩ (.int .u64 (wd O2 1:Int))).setCell ⟨b6,2,none⟩ (.int .u64 (wd O2 2:Int))).setCell ⟨b6,3,none⟩ (.int .u64 (wd O2 3:Int))).heap.size=w4.heap.size:=by simp only[Hz]
    clear R6 R7 HOK RR RB r6 hb4 p0 p1 p2 p3 q0 q1' q2 q3
    have hf:b6+1≠b6:=by omega
    have r7w:=r7
    rw[IsA,am hf] at r7w
    obtain⟨⟨c0,c1',c2,c3⟩,_⟩:=Aq r7w
    have R7':=Lh r7
    clear r7 r7w
    go_wp2_with fail
    generalize (((w4.setCell ⟨b6,0,none⟩ (.int .u64 (wd O2 0:Int))).setCell ⟨b6,1,none⟩ (.int .u64 (wd O2 1:Int))).setCell ⟨b6,2,none⟩ (.int .u64 (wd O2 2:Int))).setCell ⟨b6,3,none⟩ (.int .u64 (wd O2 3:Int))=Z at *
    refine (KMQ.out Z).mono ?_
    rintro e w5 ⟨rfl,hb5⟩
    have hs5:=hb5.size
    have r7:=R7'.out.keep hb5
    clear d0 d1 d2 d3 e0 e1 e2 e3
    obtain⟨⟨d0,d1,d2,d3⟩,e0,e1,e2,e3⟩:=Aq r7
    have R7'':=Lh (AN (n:=Q2) r7)
    have R6'':=Lh ((R6'.out.keep hb5).far (c:=b6+1) (v0:=.int .u64 (wd Q2 0:Int)) (v1:=.int .u64 (wd Q2 1:Int)) (v2:=.int .u64 (wd Q2 2:Int)) (v3:=.int .u64 (wd Q2 3:Int)) (by omega))
    have HOK'':=Lh ((HOK'.out.below hb5).far (c:=b6+1) (v0:=.int .u64 (wd Q2 0:Int)) (v1:=.int .u64 (wd Q2 1:Int)) (v2:=.int .u64 (wd Q2 2:Int)) (v3:=.int .u64 (wd Q2 3:Int)) (by omega))
    have RR'':=Lh ((RR'.out.keep hb5).far (c:=b6+1) (v0:=.int .u64 (wd Q2 0:Int)) (v1:=.int .u64 (wd Q2 1:Int)) (v2:=.int .u64 (wd Q2 2:Int)) (v3:=.int .u64 (wd Q2 3:Int)) (by omega))
    have RB'':=Lh (Bh (AE hb5 RB'.out (Nat.le_refl _)) (v0:=.int .u64 (wd Q2 0:Int)) (v1:=.int .u64 (wd Q2 1:Int)) (v2:=.int .u64 (wd Q2 2:Int)) (v3:=.int .u64 (wd Q2 3:Int)) (b:=b6+1) (by omega))
    clear R6' R7' HOK' RR' RB' r7 hb5
    go_wp2_with fail
    go_roundw
    case rel=>exact⟨j+1,by omega,congrArg (Value.int .i64) (by omega),by rw[HN.out];exact R6''.out,by rw[HSX.out];exact R7''.out,HOK''.out,hgb,RR''.out,RB''.out⟩
    case measure =>
     simp[Go.RowKit.intOf]
     omega
   ·have b1:(bt:Int)=0:=by omega
    rw[b1]
    have hN:=HNX.out
    rw[if_neg h1] at hN
    have HN:=Lh hN
    clear b1 h1 hN HNX hb2
    obtain⟨⟨q0,q1',q2,q3⟩,_⟩:=Aq R7.out
    go_wp2_with fail
    refine (KMQ.out _).mono ?_
    rintro e w5 ⟨rfl,hb5⟩
    have hs5:=hb5.size
    have r7:=R7.out.keep hb5
    obtain⟨⟨d0,d1,d2,d3⟩,e0,e1,e2,e3⟩:=Aq r7
    have R7'':=Lh (AN (n:=Q2) r7)
    have R6'':=Lh ((R6.out.keep hb5).far (c:=b6+1) (v0:=.int .u64 (wd Q2 0:Int)) (v1:=.int .u64 (wd Q2 1:Int)) (v2:=.int .u64 (wd Q2 2:Int)) (v3:=.int .u64 (wd Q2 3:Int)) (by omega))
    have HOK'':=Lh ((HOK.out.below hb5).far (c:=b6+1) (v0:=.int .u64 (wd Q2 0:Int)) (v1:=.int .u64 (wd Q2 1:Int)) (v2:=.int .u64 (wd Q2 2:Int)) (v3:=.int .u64 (wd Q2 3:Int)) (by omega))
    have RR'':=Lh ((RR.out.keep hb5).far (c:=b6+1) (v0:=.int .u64 (wd Q2 0:Int)) (v1:=.int .u64 (wd Q2 1:Int)) (v2:=.int .u64 (wd Q2 2:Int)) (v3:=.int .u64 (wd Q2 3:Int)) (by omega))
    have RB'':=Lh (Bh (AE hb5 RB.out (Nat.le_refl _)) (v0:=.int .u64 (wd Q2 0:Int)) (v1:=.int .u64 (wd Q2 1:Int)) (v2:=.int .u64 (wd Q2 2:Int)) (v3:=.int .u64 (wd Q2 3:Int)) (b:=b6+1) (by omega))
    clear R6 R7 HOK RR RB r7 hb5 q0 q1' q2 q3
    go_wp2_with fail
    go_roundw
    case rel=>exact⟨j+1,by omega,congrArg (Value.int .i64) (by omega),by rw[HN.out];exact R6''.out,by rw[HSX.out];exact R7''.out,HOK''.out,hgb,RR''.out,RB''.out⟩
    case measure =>
     simp[Go.RowKit.intOf]
     omega
  ·obtain rfl:j=256:=by omega
   obtain⟨O,hO⟩:=exzb (Ky a k 256)
   rw[hO] at r6
   have HO2:=Lh hO
   have xr:=AT rr
   obtain⟨⟨p0,p1,p2,p3⟩,_⟩:=Aq r6
   obtain⟨⟨d0,d1,d2,d3⟩,e0,e1,e2,e3⟩:=Aq xr
   have KL:=Lh (BU (AN (n:=O) xr))
   have BR:=Lh (Bh rb (v0:=.int .u64 (wd O 0:Int)) (v1:=.int .u64 (wd O 1:Int)) (v2:=.int .u64 (wd O 2:Int)) (v3:=.int .u64 (wd O 3:Int)) (b:=w.heap.size+1+1) (by omega))
   clear hO r6 r7 hok rr rb xr
   go_wp2_with fail
   exact bodyPost_ret (Ap Tryz.results126 (by rfl) KL.out) rfl ⟨by rw[HO2.out];rfl,BR.out⟩
theorem info_parts {P:Program} {t:TypeId} {z:Value} {s b:Nat} (h:(P.info? t).map (fun i=>(i.zero,i.size,i.bytes))=some (some z,s,b)):∃ i,P.info? t=some i∧i.zero=some z∧i.size=s∧i.bytes=b:=by
 cases hi:P.info? t with
 | none=>rw[hi] at h;cases h
 | some i =>
   rw[hi] at h
   simp at h
   exact⟨i,rfl,h.1,h.2.1,h.2.2⟩
theorem Zq (b k:Nat) (z:Nat) (w:World) (h:w.cell? ⟨b,0,none⟩=some (.int .u64 (z:Int))) (hk:k≤1000) :
    Calls Tryz.prog 153 #[.slice (some ⟨b,0,none⟩) 1 1,.int .i64 (k:Int)] w fun e w'=>e=.returned (.int .u64 ((if k=0 then z else 0:Nat):Int))∧w'=w:=by
 by_cases h0:k=0
 ·subst h0
  rw[if_pos rfl]
  go_enter Tryz.func153,Tryz.ntmps153
  go_wp2_with fail
  go_ret
  exact⟨rfl,rfl⟩
 ·rw[if_neg h0]
  have t0:¬ (k:Int)<0:=by omega
  have t1:(1:Int)≤(k:Int):=by omega
  go_enter Tryz.func153,Tryz.ntmps153
  go_wp2_with fail
  go_ret
  exact⟨rfl,rfl⟩
theorem I4 (g b z n:Nat) (w:World) (hz:z<18446744073709551616) (ha:By w g 16 n) (hb:w.cell? ⟨b,0,none⟩=some (.int .u64 (z:Int))) :
    Calls Tryz.prog 107 #[.slice (some ⟨g,0,none⟩) 16 16,.slice (some ⟨b,0,none⟩) 1 1] w fun e w'=>∃ v,e=.returned v∧Below w.heap.size w w':=by
 have HA:=Lh (ha.is 16 (Nat.le_refl _))
 have HB:=Lh hb
 have m1:=fun w=>DJ 17 (max (16:Int) 1+1) (by decide) (by omega) w
 clear ha hb
 go_enter Tryz.func107,Tryz.ntmps107
 go_wp2_with fail
 clear m1
 go_loopw [6,7] (fun o i wr=>∃ k o':Nat,∃ p:Nat→Nat,k≤17∧i=.int .i64 (k:Int)∧o=.int .u64 (o':Int)∧o'<18446744073709551616∧wr.heap[w.heap.size]?=some (.cells (Bw p 17).toArray 22 (0,0))∧Below w.heap.size w wr) (fun _ i _=>17-(intOf i).toNat)
 case atStart=>exact⟨0,0,fun _=>0,by omega,rfl,rfl,by omega,Aj _ _,Al (Below.refl _ _) _⟩
 case round =>
  obtain⟨k,o,p,hk,rfl,rfl,ho,y0,hbl⟩:=hrel
  by_cases hlt:k<17
  ·have q1:(k:Int)<17:=by omega
   have KA:=Lh (Ec (some ⟨g,0,none⟩) 16 16 n k wr (A6 HA.out hbl) (by omega))
   have KB:=Lh (Zq b k z wr ((hbl.cell (Oa HB.out)).trans HB.out) (by omega))
   have hx:=Dx n k
   have hy:(if k=0 then z else 0)<18446744073709551616:=by split <;> omega
   obtain⟨x,hxx⟩:=exzb (dg n k)
   obtain⟨y,hyy⟩:=exzb ((if k=0 then z else 0))
   rw[hxx] at KA hx
   rw[hyy] at KB hy
   obtain⟨s1,hs1⟩:=exzb ((x+y)%18446744073709551616)
   obtain⟨s2,hs2⟩:=exzb ((s1+o)%18446744073709551616)
   have w1:IntKind.u64.wrap ((x:Int)+(y:Int))=(s1:Int):=by rw[IntKind.wrap_u64];omega
   have w2:IntKind.u64.wrap ((s1:Int)+(o:Int))=(s2:Int):=by rw[IntKind.wrap_u64];omega
   have b2:s2<18446744073709551616:=by omega
   obtain⟨c1,f1⟩:=Af y0 (BC p _ k hlt)
   have HSET:=Lh (AF (i:=k) y0 (.int .u64 ((s2%65536:Nat):Int)))
   clear hxx hyy hs1 hs2 y0
   go_wp2_with fail
   refine KA.out.mono ?_
   rintro e w' ⟨rfl,rfl⟩
   go_wp2_with fail
   refine KB.out.mono ?_
   rintro e w' ⟨rfl,rfl⟩
   go_wp2_with fail
   go_roundw
   case rel =>
    have e1:(s2:Int)%65536=((s2%65536:Nat):Int):=by omega
    have e2:(s2:Int)/65536=((s2/65536:Nat):Int):=by omega
    rw[e1,e2]
    refine⟨k+1,s2/65536,upd p k (s2%65536),by omega,by go_num,rfl,by omega,?_,hbl.setCell (p:=⟨w.heap.size,k,none⟩) (Nat.le_refl _) _⟩
    rw[← DC];exact HSET.out
   case measure=>simp[intOf];omega
  ·obtain rfl:k=17:=by omega
   clear y0
   go_wp2_with fail
   go_ret
   exact⟨_,rfl,hbl⟩
end Go.Proofs.YtnaldciakclccaaGreat
