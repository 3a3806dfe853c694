/- Lemmas of this proof. -/
import Derived.Test.YtnaldciakclccaaGreatEv10
namespace Go.Proofs.YtnaldciakclccaaGreat
set_option maxRecDepth 20000
set_option maxHeartbeats 8000000
set_option linter.unusedSimpArgs false
set_option linter.unusedVariables false
open Go.RowKit
theorem IG {W:World} {b m:Nat} (hm:m<65536) (h:W.heap[b]?=some (.cells #[.int .u64 (m:Int)] 22 (0,0))):IsN W (some ⟨b,0,none⟩) 1 1 m:=by
 refine⟨by omega,by omega,.inr ⟨b,rfl,Nat.le_refl _,AU h,fun i hi=>?_⟩⟩
 obtain rfl:i=0:=by omega
 have e:dg m 0=m:=by unfold dg;rw[Nat.pow_zero,Nat.div_one];exact Nat.mod_eq_of_lt hm
 rw[e]
 simp[World.cell?,h]
theorem Lx {W:World} {b:Nat} {v:Value} {t:TypeId} (h:W.heap[b]?=some (.cells #[v] t (0,0))):W.cell? ⟨b,0,none⟩=some v:=by
 simp[World.cell?,h]
theorem EY (p:Nat→Nat) (j:Nat):Bw p (j+1)=Bw p j++[.int .u64 (p j:Int)]:=by
 unfold Bw
 rw[List.range_succ,List.map_append]
 rfl
theorem IC {w:World} {base n:Nat} {v:Value} (h:w.ownsRow base 22 1 v 16 (Bw (dg n) 16)) (hn:n<65536^16):∃ g cap,v=.slice (some ⟨g,0,none⟩) 16 cap∧IsN w (some ⟨g,0,none⟩) 16 cap n:=by
 obtain⟨_,⟨_,h0⟩ | ⟨g,cap,cur,rfl,h1,h2,h3,h4,h5,h6⟩⟩:=h
 ·omega
 ·refine⟨g,cap,rfl,hn,by omega,.inr ⟨g,rfl,h3,AU h2,fun i hi=>?_⟩⟩
  have hx:(cur.toList.take 16)[i]?=(Bw (dg n) 16)[i]?:=by
   have:=congrArg (fun l:List Value=>l[i]?) h6
   simpa using this
  rw[List.getElem?_take,if_pos (by omega),BC _ 16 i hi] at hx
  have hc:w.cell? ⟨g,i,none⟩=cur.toList[i]?:=by simp[World.cell?,h2]
  rw[hc,hx]
theorem Ln:(Tryz.prog.info? 22).map (fun i=>(i.zero,i.size,i.bytes))=some (some (.int .u64 0),1,8):=by kernel_rfl
theorem dr (w:World):Calls Tryz.prog 127 #[.int .i64 (-2),.int .i64 0] w fun e w'=>e=.returned (Aa 57896044618658097711785492504343953926634992332820282019728792003956564819947)∧Below w.heap.size w w':=by
 obtain⟨i0,hi,hz0,hz1,hz2⟩:=info_parts Ln
 obtain⟨Q,hQ⟩:=exzb (PN-2)
 have hQB:Q<65536^16:=by rw[← hQ];decide +kernel
 have hE:Q/1=57896044618658097711785492504343953926634992332820282019728792003956564819947:=by rw[← hQ];decide +kernel
 have KL:=Lh (fun g b w (ha:By w g 16 PN) (hb:w.cell? ⟨b,0,none⟩=some (.int .u64 (18446744073709551614:Int)))=>I4 g b 18446744073709551614 PN w (by decide) ha hb)
 have KD:=Lh (fun g b w (ha:By w g 16 PN) (hb:IsN w (some ⟨b,0,none⟩) 1 1 2)=>Gv (some ⟨g,0,none⟩) (some ⟨b,0,none⟩) 16 16 1 1 PN 2 w (ha.is 16 (Nat.le_refl _)) hb (by decide +kernel))
 rw[hQ] at KD
 have KP:=Lh IF
 have hEB:57896044618658097711785492504343953926634992332820282019728792003956564819947<B64^4:=by decide +kernel
 have KT:=Lh (fun q ca w (h:IsN w (some ⟨q,0,none⟩) 16 ca 57896044618658097711785492504343953926634992332820282019728792003956564819947)=>Qf (some ⟨q,0,none⟩) 16 ca 57896044618658097711785492504343953926634992332820282019728792003956564819947 w h hEB)
 have hEL:57896044618658097711785492504343953926634992332820282019728792003956564819947<65536^16:=by decide +kernel
 obtain⟨E,hEE⟩:=exzb (57896044618658097711785492504343953926634992332820282019728792003956564819947)
 rw[hEE] at KT hE hEL ⊢
 have HD:Hid (∀ i,dg E i=dg Q i/1+dg Q (i+1)*65536%65536):=fun i=>by
  rw[← hE]
  unfold dg
  rw[Nat.div_div_eq_div_mul,Nat.mul_comm 1,← Nat.div_div_eq_div_mul,Nat.pow_succ,← Nat.div_div_eq_div_mul]
  generalize Q/65536^i=M
  omega
 have HEL:=Lh hEL
 generalize PN=p at *
 clear hQ hE hEE hEB hEL
 obtain⟨xr,xz,xB⟩:=IN 23 w
 simp only[AL] at KT ⊢
 go_enter Tryz.func127,Tryz.ntmps127
 go_wp2_with fail
 change Calls _ _ _ (Z1 23 w) _
 generalize Z1 23 w=X at *
 refine (KP.out X).mono ?_
 rintro e w1 ⟨g1,rfl,ho1,hg1,hb1⟩
 have XR1:=Lh ((xr.keep hb1).alloc (.cells #[.int .u64 18446744073709551614] 22))
 have XB1:=Lh (Bi (AE hb1 xB (Nat.le_refl _)) (.cells #[.int .u64 18446744073709551614] 22))
 have HO1:=Lh (ho1.below ((Below.refl w1.heap.size w1).alloc (Nat.le_refl _) (.cells #[.int .u64 18446744073709551614] 22)))
 have HC1:=Lh (Aj w1 (.cells #[.int .u64 18446744073709551614] 22))
 clear xr xB ho1 hb1 hg1
 go_wp2_with fail
 refine (KL.out g1 w1.heap.size _ HO1.out (Lx HC1.out)).mono ?_
 rintro e w2 ⟨v2,rfl,hb2⟩
 have XR2:=Lh (XR1.out.keep hb2)
 have XB2:=Lh (AE hb2 XB1.out (Nat.le_refl _))
 clear XR1 XB1 HO1 HC1 hb2 KL
 go_wp2_with fail
 refine (KP.out w2).mono ?_
 rintro e w3 ⟨g3,rfl,ho3,hg3,hb3⟩
 have XR3:=Lh ((XR2.out.keep hb3).alloc (.cells #[.int .u64 2] 22))
 have XB3:=Lh (Bi (AE hb3 XB2.out (Nat.le_refl _)) (.cells #[.int .u64 2] 22))
 have HO3:=Lh (ho3.below ((Below.refl w3.heap.size w3).alloc (Nat.le_refl _) (.cells #[.int .u64 2] 22)))
 have HC3:=Lh (IG (m:=2) (by decide) (Aj w3 (.cells #[.int .u64 2] 22)))
 clear XR2 XB2 ho3 hb3 hg3
 go_wp2_with fail
 refine (KD.out g3 w3.heap.size _ HO3.out HC3.out).mono ?_
 rintro e w4 ⟨rfl,ho4,hb4⟩
 have XR4:=Lh (XR3.out.keep hb4)
 have XB4:=Lh (AE hb4 XB3.out (Nat.le_refl _))
 have HO4:=Lh ho4
 clear XR3 XB3 HO3 HC3 hb4 ho4 KD KP
 go_wp2_with fail
 have HO5:Hid (By w4 (w3.heap.size+1) 16 Q):=by
  have h:=HO4.out
  rw[Ae] at h
  exact h
 have hg5:w3.heap.size+1<w4.heap.size:=AU HO5.out.1
 generalize w3.heap.size+1=g5 at *
 have hwB:w.heap.size<w4.heap.size:=AU XR4.out
 clear HO4
 generalize hBB:w4.heap.size=B at *
 go_loopw [6,7] (fun v i wr=>∃ j:Nat,j≤16∧i=.int .i64 (j:Int)∧wr.ownsRow B 22 1 v j (Bw (dg E) j)∧By wr g5 16 Q∧IsA wr w.heap.size 0 23∧B≤wr.heap.size∧Below w.heap.size w wr) (fun _ i _=>16-(Go.RowKit.intOf i).toNat)
 case atStart=>exact⟨0,by omega,rfl,World.ownsRow_nil _ _ _ _,HO5.out,XR4.out,by omega,XB4.out⟩
 case round =>
  obtain⟨j,hj,rfl,hown,hoq,rr,hBw,rb⟩:=hrel
  clear HO5 XR4 XB4 hBB
  have hbs:=rb.size
  have hlr:=AU rr
  by_cases hlt:j<16
  ·have q1:(j:Int)<16:=by omega
   have q2:(0:Int)≤(j:Int):=by omega
   obtain⟨cj,_⟩:=Af hoq.1 (BC (dg Q) 16 j (by omega))
   have hd:=HD.out j
   have hx:=Dx Q j
   have hy:=Dx Q (j+1)
   have HOW:=Lh hown
   have HOQ:=Lh hoq
   have RR:=Lh rr
   have RB:=Lh rb
   by_cases hj1:j+1<16
   ·have q3:(j:Int)+1<16:=by omega
    obtain⟨cj1,_⟩:=Af hoq.1 (BC (dg Q) 16 (j+1) hj1)
    have HS:Hid (Bw (dg E) (j+1)=Bw (dg E) j++[.int .u64 (dg E j:Int)]):=EY _ _
    obtain⟨x,hxx⟩:=exzb (dg Q j)
    obtain⟨y,hyy⟩:=exzb (dg Q (j+1))
    obtain⟨e,hee⟩:=exzb (dg E j)
    rw[hxx] at cj hd hx
    rw[hyy] at cj1 hd hy
    rw[hee] at hd HS
    have hv:(x:Int)=(e:Int):=by omega
    have HV:=Lh hv
    clear hown hoq rr rb hd hxx hyy hee hv
    go_wp2_with (at_builtin;refine wpList_append_own _ (by rfl) (.tmp 48) (.tmp 50) 95 (by rfl) B 22 i0 (.int .u64 0) 1 8 Tryz.underlying95 hi hz0 hz1 hz2 rfl (by decide) _ j _ (by simp[Act.eval];rfl) (by exact HOW.out.alloc _) ⟨wr.heap.size,0,none⟩ 1 1 [.int .u64 (x:Int)] (by simp[Act.eval]) rfl (by exact BK wr #[_] _) (by simp[Value.oneCell']) (by unfold maxLen;omega) (by omega) (by simp;omega) ?_;intro v2 w2 hown2 hgrow2 _)
    go_roundw
    case rel =>
     have hq:∀ q,q<B→q<wr.heap.size→(some q:Option Nat)≠Value.ownBlock _:=fun q h1 _ e=>absurd (HOW.out.lt q e.symm).1 (by omega)
     refine⟨j+1,by omega,congrArg (Value.int .i64) (by omega),?_,?_,?_,by have:=hgrow2.size;rw[Ae] at this;omega,?_⟩
     ·rw[HS.out,← HV.out];exact hown2
     ·exact⟨(hgrow2.block g5 (by rw[Ae];have:=AU HOQ.out.1;omega) (hq g5 (by omega) (AU HOQ.out.1))).trans (AP HOQ.out.1 _),HOQ.out.2⟩
     ·exact (RR.out.alloc _).grown hgrow2 (hq w.heap.size (by omega) (by omega))
     ·exact (Bi RB.out _).grown hgrow2 (by rw[Ae];omega) (fun q h=>by have:=(HOW.out.lt q h).1;omega)
    case measure =>
     simp[Go.RowKit.intOf]
     omega
   ·have q3:¬ (j:Int)+1<16:=by omega
    have HS:Hid (Bw (dg E) (j+1)=Bw (dg E) j++[.int .u64 (dg E j:Int)]):=EY _ _
    obtain⟨x,hxx⟩:=exzb (dg Q j)
    obtain⟨y,hyy⟩:=exzb (dg Q (j+1))
    obtain⟨e,hee⟩:=exzb (dg E j)
    rw[hxx] at cj hd hx
    rw[hyy] at hd hy
    rw[hee] at hd HS
    have hy0:y=0:=by rw[← hyy];exact Lu hQB (by omega)
    have hv:(x:Int)=(e:Int):=by omega
    have HV:=Lh hv
    clear hown hoq rr rb hd hxx hyy hee hv hy0
    go_wp2_with (at_builtin;refine wpList_append_own _ (by rfl) (.tmp 48) (.tmp 50) 95 (by rfl) B 22 i0 (.int .u64 0) 1 8 Tryz.underlying95 hi hz0 hz1 hz2 rfl (by decide) _ j _ (by simp[Act.eval];rfl) (by exact HOW.out.alloc _) ⟨wr.heap.size,0,none⟩ 1 1 [.int .u64 (x:Int)] (by simp[Act.eval]) rfl (by exact BK wr #[_] _) (by simp[Value.oneCell']) (by unfold maxLen;omega) (by omega) (by simp;omega) ?_;intro v2 w2 hown2 hgrow2 _)
    go_roundw
    case rel =>
     have hq:∀ q,q<B→q<wr.heap.size→(some q:Option Nat)≠Value.ownBlock _:=fun q h1 _ e=>absurd (HOW.out.lt q e.symm).1 (by omega)
     refine⟨j+1,by omega,congrArg (Value.int .i64) (by omega),?_,?_,?_,by have:=hgrow2.size;rw[Ae] at this;omega,?_⟩
     ·rw[HS.out,← HV.out];exact hown2
     ·exact⟨(hgrow2.block g5 (by rw[Ae];have:=AU HOQ.out.1;omega) (hq g5 (by omega) (AU HOQ.out.1))).trans (AP HOQ.out.1 _),HOQ.out.2⟩
     ·exact (RR.out.alloc _).grown hgrow2 (hq w.heap.size (by omega) (by omega))
     ·exact (Bi RB.out _).grown hgrow2 (by rw[Ae];omega) (fun q h=>by have:=(HOW.out.lt q h).1;omega)
    case measure =>
     simp[Go.RowKit.intOf]
     omega
  ·obtain rfl:j=16:=by omega
   obtain⟨gv,cv,rfl,hv⟩:=IC hown HEL.out
   have HVN:=Lh hv
   have RR:=Lh rr
   have RB:=Lh rb
   clear hown hoq rr rb hv HD
   go_wp2_with fail
   refine (KT.out gv cv wr HVN.out).mono ?_
   rintro e w5 ⟨rfl,hb5⟩
   have xr:=AT (RR.out.keep hb5)
   obtain⟨⟨d0,d1,d2,d3⟩,e0,e1,e2,e3⟩:=Aq xr
   have KLd:=Lh (BU (AN (n:=E) xr))
   have BR:=Lh (Bh (AE hb5 RB.out (Nat.le_refl _)) (v0:=.int .u64 (wd E 0:Int)) (v1:=.int .u64 (wd E 1:Int)) (v2:=.int .u64 (wd E 2:Int)) (v3:=.int .u64 (wd E 3:Int)) (b:=w.heap.size) (Nat.le_refl _))
   clear xr RR RB hb5 HVN
   go_wp2_with fail
   exact bodyPost_ret (Ap Tryz.results127 (by rfl) KLd.out) rfl ⟨rfl,BR.out⟩
theorem WR (w:World):Calls Tryz.prog 127 #[.int .i64 (-1),.int .i64 1] w fun e w'=>e=.returned (Aa 28948022309329048855892746252171976963317496166410141009864396001978282409974)∧Below w.heap.size w w':=by
 obtain⟨i0,hi,hz0,hz1,hz2⟩:=info_parts Ln
 obtain⟨Q,hQ⟩:=exzb (PN-1)
 have hQB:Q<65536^16:=by rw[← hQ];decide +kernel
 have hE:Q/2=28948022309329048855892746252171976963317496166410141009864396001978282409974:=by rw[← hQ];decide +kernel
 have KL:=Lh (fun g b w (ha:By w g 16 PN) (hb:w.cell? ⟨b,0,none⟩=some (.int .u64 (18446744073709551615:Int)))=>I4 g b 18446744073709551615 PN w (by decide) ha hb)
 have KD:=Lh (fun g b w (ha:By w g 16 PN) (hb:IsN w (some ⟨b,0,none⟩) 1 1 1)=>Gv (some ⟨g,0,none⟩) (some ⟨b,0,none⟩) 16 16 1 1 PN 1 w (ha.is 16 (Nat.le_refl _)) hb (by decide +kernel))
 rw[hQ] at KD
 have KP:=Lh IF
 have hEB:28948022309329048855892746252171976963317496166410141009864396001978282409974<B64^4:=by decide +kernel
 have KT:=Lh (fun q ca w (h:IsN w (some ⟨q,0,none⟩) 16 ca 28948022309329048855892746252171976963317496166410141009864396001978282409974)=>Qf (some ⟨q,0,none⟩) 16 ca 28948022309329048855892746252171976963317496166410141009864396001978282409974 w h hEB)
 have hEL:28948022309329048855892746252171976963317496166410141009864396001978282409974<65536^16:=by decide +kernel
 obtain⟨E,hEE⟩:=exzb (28948022309329048855892746252171976963317496166410141009864396001978282409974)
 rw[hEE] at KT hE hEL ⊢
 have HD:Hid (∀ i,dg E i=dg Q i/2+dg Q (i+1)*32768%65536):=fun i=>by
  rw[← hE]
  unfold dg
  rw[Nat.div_div_eq_div_mul,Nat.mul_comm 2,← Nat.div_div_eq_div_mul,Nat.pow_succ,← Nat.div_div_eq_div_mul]
  generalize Q/65536^i=M
  omega
 have HEL:=Lh hEL
 generalize PN=p at *
 clear hQ hE hEE hEB hEL
 obtain⟨xr,xz,xB⟩:=IN 23 w
 simp only[AL] at KT ⊢
 go_enter Tryz.func127,Tryz.ntmps127
 go_wp2_with fail
 change Calls _ _ _ (Z1 23 w) _
 generalize Z1 23 w=X at *
 refine (KP.out X).mono ?_
 rintro e w1 ⟨g1,rfl,ho1,hg1,hb1⟩
 have XR1:=Lh ((xr.keep hb1).alloc (.cells #[.int .u64 18446744073709551615] 22))
 have XB1:=Lh (Bi (AE hb1 xB (Nat.le_refl _)) (.cells #[.int .u64 18446744073709551615] 22))
 have HO1:=Lh (ho1.below ((Below.refl w1.heap.size w1).alloc (Nat.le_refl _) (.cells #[.int .u64 18446744073709551615] 22)))
 have HC1:=Lh (Aj w1 (.cells #[.int .u64 18446744073709551615] 22))
 clear xr xB ho1 hb1 hg1
 go_wp2_with fail
 refine (KL.out g1 w1.heap.size _ HO1.out (Lx HC1.out)).mono ?_
 rintro e w2 ⟨v2,rfl,hb2⟩
 have XR2:=Lh (XR1.out.keep hb2)
 have XB2:=Lh (AE hb2 XB1.out (Nat.le_refl _))
 clear XR1 XB1 HO1 HC1 hb2 KL
 go_wp2_with fail
 refine (KP.out w2).mono ?_
 rintro e w3 ⟨g3,rfl,ho3,hg3,hb3⟩
 have XR3:=Lh ((XR2.out.keep hb3).alloc (.cells #[.int .u64 1] 22))
 have XB3:=Lh (Bi (AE hb3 XB2.out (Nat.le_refl _)) (.cells #[.int .u64 1] 22))
 have HO3:=Lh (ho3.below ((Below.refl w3.heap.size w3).alloc (Nat.le_refl _) (.cells #[.int .u64 1] 22)))
 have HC3:=Lh (IG (m:=1) (by decide) (Aj w3 (.cells #[.int .u64 1] 22)))
 clear XR2 XB2 ho3 hb3 hg3
 go_wp2_with fail
 refine (KD.out g3 w3.heap.size _ HO3.out HC3.out).mono ?_
 rintro e w4 ⟨rfl,ho4,hb4⟩
 have XR4:=Lh (XR3.out.keep hb4)
 have XB4:=Lh (AE hb4 XB3.out (Nat.le_refl _))
 have HO4:=Lh ho4
 clear XR3 XB3 HO3 HC3 hb4 ho4 KD KP
 go_wp2_with fail
 have HO5:Hid (By w4 (w3.heap.size+1) 16 Q):=by
  have h:=HO4.out
  rw[Ae] at h
  exact h
 have hg5:w3.heap.size+1<w4.heap.size:=AU HO5.out.1
 generalize w3.heap.size+1=g5 at *
 have hwB:w.heap.size<w4.heap.size:=AU XR4.out
 clear HO4
 generalize hBB:w4.heap.size=B at *
 go_loopw [6,7] (fun v i wr=>∃ j:Nat,j≤16∧i=.int .i64 (j:Int)∧wr.ownsRow B 22 1 v j (Bw (dg E) j)∧By wr g5 16 Q∧IsA wr w.heap.size 0 23∧B≤wr.heap.size∧Below w.heap.size w wr) (fun _ i _=>16-(Go.RowKit.intOf i).toNat)
 case atStart=>exact⟨0,by omega,rfl,World.ownsRow_nil _ _ _ _,HO5.out,XR4.out,by omega,XB4.out⟩
 case round =>
  obtain⟨j,hj,rfl,hown,hoq,rr,hBw,rb⟩:=hrel
  clear HO5 XR4 XB4 hBB
  have hbs:=rb.size
  have hlr:=AU rr
  by_cases hlt:j<16
  ·have q1:(j:Int)<16:=by omega
   have q2:(0:Int)≤(j:Int):=by omega
   obtain⟨cj,_⟩:=Af hoq.1 (BC (dg Q) 16 j (by omega))
   have hd:=HD.out j
   have hx:=Dx Q j
   have hy:=Dx Q (j+1)
   have HOW:=Lh hown
   have HOQ:=Lh hoq
   have RR:=Lh rr
   have RB:=Lh rb
   by_cases hj1:j+1<16
   ·have q3:(j:Int)+1<16:=by omega
    obtain⟨cj1,_⟩:=Af hoq.1 (BC (dg Q) 16 (j+1) hj1)
    have HS:Hid (Bw (dg E) (j+1)=Bw (dg E) j++[.int .u64 (dg E j:Int)]):=EY _ _
    obtain⟨x,hxx⟩:=exzb (dg Q j)
    obtain⟨y,hyy⟩:=exzb (dg Q (j+1))
    obtain⟨e,hee⟩:=exzb (dg E j)
    rw[hxx] at cj hd hx
    rw[hyy] at cj1 hd hy
    rw[hee] at hd HS
    have hv:((x:Int)/2+(y:Int)*32768%65536)=(e:Int):=by omega
    have HV:=Lh hv
    clear hown hoq rr rb hd hxx hyy hee hv
    go_wp2_with (at_builtin;refine wpList_append_own _ (by rfl) (.tmp 48) (.tmp 50) 95 (by rfl) B 22 i0 (.int .u64 0) 1 8 Tryz.underlying95 hi hz0 hz1 hz2 rfl (by decide) _ j _ (by simp[Act.eval];rfl) (by exact HOW.out.alloc _) ⟨wr.heap.size,0,none⟩ 1 1 [.int .u64 ((x:Int)/2+(y:Int)*32768%65536)] (by simp[Act.eval]) rfl (by exact BK wr #[_] _) (by simp[Value.oneCell']) (by unfold maxLen;omega) (by omega) (by simp;omega) ?_;intro v2 w2 hown2 hgrow2 _)
    go_roundw
    case rel =>
     have hq:∀ q,q<B→q<wr.heap.size→(some q:Option Nat)≠Value.ownBlock _:=fun q h1 _ e=>absurd (HOW.out.lt q e.symm).1 (by omega)
     refine⟨j+1,by omega,congrArg (Value.int .i64) (by omega),?_,?_,?_,by have:=hgrow2.size;rw[Ae] at this;omega,?_⟩
     ·rw[HS.out,← HV.out];exact hown2
     ·exact⟨(hgrow2.block g5 (by rw[Ae];have:=AU HOQ.out.1;omega) (hq g5 (by omega) (AU HOQ.out.1))).trans (AP HOQ.out.1 _),HOQ.out.2⟩
     ·exact (RR.out.alloc _).grown hgrow2 (hq w.heap.size (by omega) (by omega))
     ·exact (Bi RB.out _).grown hgrow2 (by rw[Ae];omega) (fun q h=>by have:=(HOW.out.lt q h).1;omega)
    case measure =>
     simp[Go.RowKit.intOf]
     omega
   ·have q3:¬ (j:Int)+1<16:=by omega
    have HS:Hid (Bw (dg E) (j+1)=Bw (dg E) j++[.int .u64 (dg E j:Int)]):=EY _ _
    obtain⟨x,hxx⟩:=exzb (dg Q j)
    obtain⟨y,hyy⟩:=exzb (dg Q (j+1))
    obtain⟨e,hee⟩:=exzb (dg E j)
    rw[hxx] at cj hd hx
    rw[hyy] at hd hy
    rw[hee] at hd HS
    have hy0:y=0:=by rw[← hyy];exact Lu hQB (by omega)
    have hv:((x:Int)/2)=(e:Int):=by omega
    have HV:=Lh hv
    clear hown hoq rr rb hd hxx hyy hee hv hy0
    go_wp2_with (at_builtin;refine wpList_append_own _ (by rfl) (.tmp 48) (.tmp 50) 95 (by rfl) B 22 i0 (.int .u64 0) 1 8 Tryz.underlying95 hi hz0 hz1 hz2 rfl (by decide) _ j _ (by simp[Act.eval];rfl) (by exact HOW.out.alloc _) ⟨wr.heap.size,0,none⟩ 1 1 [.int .u64 ((x:Int)/2)] (by simp[Act.eval]) rfl (by exact BK wr #[_] _) (by simp[Value.oneCell']) (by unfold maxLen;omega) (by omega) (by simp;omega) ?_;intro v2 w2 hown2 hgrow2 _)
    go_roundw
    case rel =>
     have hq:∀ q,q<B→q<wr.heap.size→(some q:Option Nat)≠Value.ownBlock _:=fun q h1 _ e=>absurd (HOW.out.lt q e.symm).1 (by omega)
     refine⟨j+1,by omega,congrArg (Value.int .i64) (by omega),?_,?_,?_,by have:=hgrow2.size;rw[Ae] at this;omega,?_⟩
     ·rw[HS.out,← HV.out];exact hown2
     ·exact⟨(hgrow2.block g5 (by rw[Ae];have:=AU HOQ.out.1;omega) (hq g5 (by omega) (AU HOQ.out.1))).trans (AP HOQ.out.1 _),HOQ.out.2⟩
     ·exact (RR.out.alloc _).grown hgrow2 (hq w.heap.size (by omega) (by omega))
     ·exact (Bi RB.out _).grown hgrow2 (by rw[Ae];omega) (fun q h=>by have:=(HOW.out.lt q h).1;omega)
    case measure =>
     simp[Go.RowKit.intOf]
     omega
  ·obtain rfl:j=16:=by omega
   obtain⟨gv,cv,rfl,hv⟩:=IC hown HEL.out
   have HVN:=Lh hv
   have RR:=Lh rr
   have RB:=Lh rb
   clear hown hoq rr rb hv HD
   go_wp2_with fail
   refine (KT.out gv cv wr HVN.out).mono ?_
   rintro e w5 ⟨rfl,hb5⟩
   have xr:=AT (RR.out.keep hb5)
   obtain⟨⟨d0,d1,d2,d3⟩,e0,e1,e2,e3⟩:=Aq xr
   have KLd:=Lh (BU (AN (n:=E) xr))
   have BR:=Lh (Bh (AE hb5 RB.out (Nat.le_refl _)) (v0:=.int .u64 (wd E 0:Int)) (v1:=.int .u64 (wd E 1:Int)) (v2:=.int .u64 (wd E 2:Int)) (v3:=.int .u64 (wd E 3:Int)) (b:=w.heap.size) (Nat.le_refl _))
   clear xr RR RB hb5 HVN
   go_wp2_with fail
   exact bodyPost_ret (Ap Tryz.results127 (by rfl) KLd.out) rfl ⟨rfl,BR.out⟩
theorem Xx (w:World):Calls Tryz.prog 127 #[.int .i64 3,.int .i64 3] w fun e w'=>e=.returned (Aa 7237005577332262213973186563042994240829374041602535252466099000494570602494)∧Below w.heap.size w w':=by
 obtain⟨i0,hi,hz0,hz1,hz2⟩:=info_parts Ln
 obtain⟨Q,hQ⟩:=exzb (PN+3)
 have hQB:Q<65536^16:=by rw[← hQ];decide +kernel
 have hE:Q/8=7237005577332262213973186563042994240829374041602535252466099000494570602494:=by rw[← hQ];decide +kernel
 have KA:=Lh (fun g b w (ha:By w g 16 PN) (hb:IsN w (some ⟨b,0,none⟩) 1 1 3)=>Fe (some ⟨g,0,none⟩) (some ⟨b,0,none⟩) 16 16 1 1 PN 3 w (ha.is 16 (Nat.le_refl _)) hb (by omega) (by omega))
 rw[hQ] at KA
 have KP:=Lh IF
 have hEB:7237005577332262213973186563042994240829374041602535252466099000494570602494<B64^4:=by decide +kernel
 have KT:=Lh (fun q ca w (h:IsN w (some ⟨q,0,none⟩) 16 ca 7237005577332262213973186563042994240829374041602535252466099000494570602494)=>Qf (some ⟨q,0,none⟩) 16 ca 7237005577332262213973186563042994240829374041602535252466099000494570602494 w h hEB)
 have hEL:7237005577332262213973186563042994240829374041602535252466099000494570602494<65536^16:=by decide +kernel
 obtain⟨E,hEE⟩:=exzb (7237005577332262213973186563042994240829374041602535252466099000494570602494)
 rw[hEE] at KT hE hEL ⊢
 have HD:Hid (∀ i,dg E i=dg Q i/8+dg Q (i+1)*8192%65536):=fun i=>by
  rw[← hE]
  unfold dg
  rw[Nat.div_div_eq_div_mul,Nat.mul_comm 8,← Nat.div_div_eq_div_mul,Nat.pow_succ,← Nat.div_div_eq_div_mul]
  generalize Q/65536^i=M
  omega
 have HEL:=Lh hEL
 generalize PN=p at *
 clear hQ hE hEE hEB hEL
 obtain⟨xr,xz,xB⟩:=IN 23 w
 simp only[AL] at KT ⊢
 go_enter Tryz.func127,Tryz.ntmps127
 go_wp2_with fail
 change Calls _ _ _ (Z1 23 w) _
 generalize Z1 23 w=X at *
 refine (KP.out X).mono ?_
 rintro e w1 ⟨g1,rfl,ho1,hg1,hb1⟩
 have XR1:=Lh ((xr.keep hb1).alloc (.cells #[.int .u64 3] 22))
 have XB1:=Lh (Bi (AE hb1 xB (Nat.le_refl _)) (.cells #[.int .u64 3] 22))
 have HO1:=Lh (ho1.below ((Below.refl w1.heap.size w1).alloc (Nat.le_refl _) (.cells #[.int .u64 3] 22)))
 have HC1:=Lh (Aj w1 (.cells #[.int .u64 3] 22))
 clear xr xB ho1 hb1 hg1
 go_wp2_with fail
 refine (KA.out g1 w1.heap.size _ HO1.out (IG (m:=3) (by decide) HC1.out)).mono ?_
 rintro e w4 ⟨g4,rfl,ho4,hg4,hb4⟩
 have XR4:=Lh (XR1.out.keep hb4)
 have XB4:=Lh (AE hb4 XB1.out (Nat.le_refl _))
 have HO4:Hid (By w4 g4 17 Q):=ho4
 clear XR1 XB1 HO1 HC1 hb4 ho4 hg4 KA KP
 go_wp2_with fail
 have HO5:=HO4
 have hg5:g4<w4.heap.size:=AU HO5.out.1
 generalize g4=g5 at *
 have hwB:w.heap.size<w4.heap.size:=AU XR4.out
 clear HO4
 generalize hBB:w4.heap.size=B at *
 go_loopw [6,7] (fun v i wr=>∃ j:Nat,j≤16∧i=.int .i64 (j:Int)∧wr.ownsRow B 22 1 v j (Bw (dg E) j)∧By wr g5 17 Q∧IsA wr w.heap.size 0 23∧B≤wr.heap.size∧Below w.heap.size w wr) (fun _ i _=>16-(Go.RowKit.intOf i).toNat)
 case atStart=>exact⟨0,by omega,rfl,World.ownsRow_nil _ _ _ _,HO5.out,XR4.out,by omega,XB4.out⟩
 case round =>
  obtain⟨j,hj,rfl,hown,hoq,rr,hBw,rb⟩:=hrel
  clear HO5 XR4 XB4 hBB
  have hbs:=rb.size
  have hlr:=AU rr
  by_cases hlt:j<16
  ·have q1:(j:Int)<16:=by omega
   have q2:(0:Int)≤(j:Int):=by omega
   obtain⟨cj,_⟩:=Af hoq.1 (BC (dg Q) 17 j (by omega))
   have hd:=HD.out j
   have hx:=Dx Q j
   have hy:=Dx Q (j+1)
   have HOW:=Lh hown
   have HOQ:=Lh hoq
   have RR:=Lh rr
   have RB:=Lh rb
   have q3:(j:Int)+1<17:=by omega
   obtain⟨cj1,_⟩:=Af hoq.1 (BC (dg Q) 17 (j+1) (by omega))
   have HS:Hid (Bw (dg E) (j+1)=Bw (dg E) j++[.int .u64 (dg E j:Int)]):=EY _ _
   obtain⟨x,hxx⟩:=exzb (dg Q j)
   obtain⟨y,hyy⟩:=exzb (dg Q (j+1))
   obtain⟨e,hee⟩:=exzb (dg E j)
   rw[hxx] at cj hd hx
   rw[hyy] at cj1 hd hy
   rw[hee] at hd HS
   have hv:((x:Int)/8+(y:Int)*8192%65536)=(e:Int):=by omega
   have HV:=Lh hv
   clear hown hoq rr rb hd hxx hyy hee hv
   go_wp2_with (at_builtin;refine wpList_append_own _ (by rfl) (.tmp 48) (.tmp 50) 95 (by rfl) B 22 i0 (.int .u64 0) 1 8 Tryz.underlying95 hi hz0 hz1 hz2 rfl (by decide) _ j _ (by simp[Act.eval];rfl) (by exact HOW.out.alloc _) ⟨wr.heap.size,0,none⟩ 1 1 [.int .u64 ((x:Int)/8+(y:Int)*8192%65536)] (by simp[Act.eval]) rfl (by exact BK wr #[_] _) (by simp[Value.oneCell']) (by unfold maxLen;omega) (by omega) (by simp;omega) ?_;intro v2 w2 hown2 hgrow2 _)
   go_roundw
   case rel =>
    have hq:∀ q,q<B→q<wr.heap.size→(some q:Option Nat)≠Value.ownBlock _:=fun q h1 _ e=>absurd (HOW.out.lt q e.symm).1 (by omega)
    refine⟨j+1,by omega,congrArg (Value.int .i64) (by omega),?_,?_,?_,by have:=hgrow2.size;rw[Ae] at this;omega,?_⟩
    ·rw[HS.out,← HV.out];exact hown2
    ·exact⟨(hgrow2.block g5 (by rw[Ae];have:=AU HOQ.out.1;omega) (hq g5 (by omega) (AU HOQ.out.1))).trans (AP HOQ.out.1 _),HOQ.out.2⟩
    ·exact (RR.out.alloc _).grown hgrow2 (hq w.heap.size (by omega) (by omega))
    ·exact (Bi RB.out _).grown hgrow2 (by rw[Ae];omega) (fun q h=>by have:=(HOW.out.lt q h).1;omega)
   case measure =>
    simp[Go.RowKit.intOf]
    omega
  ·obtain rfl:j=16:=by omega
   obtain⟨gv,cv,rfl,hv⟩:=IC hown HEL.out
   have HVN:=Lh hv
   have RR:=Lh rr
   have RB:=Lh rb
   clear hown hoq rr rb hv HD
   go_wp2_with fail
   refine (KT.out gv cv wr HVN.out).mono ?_
   rintro e w5 ⟨rfl,hb5⟩
   have xr:=AT (RR.out.keep hb5)
   obtain⟨⟨d0,d1,d2,d3⟩,e0,e1,e2,e3⟩:=Aq xr
   have KLd:=Lh (BU (AN (n:=E) xr))
   have BR:=Lh (Bh (AE hb5 RB.out (Nat.le_refl _)) (v0:=.int .u64 (wd E 0:Int)) (v1:=.int .u64 (wd E 1:Int)) (v2:=.int .u64 (wd E 2:Int)) (v3:=.int .u64 (wd E 3:Int)) (b:=w.heap.size) (Nat.le_refl _))
   clear xr RR RB hb5 HVN
   go_wp2_with fail
   exact bodyPost_ret (Ap Tryz.results127 (by rfl) KLd.out) rfl ⟨rfl,BR.out⟩
theorem Xg (w:World):Calls Tryz.prog 127 #[.int .i64 (-1),.int .i64 2] w fun e w'=>e=.returned (Aa 14474011154664524427946373126085988481658748083205070504932198000989141204987)∧Below w.heap.size w w':=by
 obtain⟨i0,hi,hz0,hz1,hz2⟩:=info_parts Ln
 obtain⟨Q,hQ⟩:=exzb (PN-1)
 have hQB:Q<65536^16:=by rw[← hQ];decide +kernel
 have hE:Q/4=14474011154664524427946373126085988481658748083205070504932198000989141204987:=by rw[← hQ];decide +kernel
 have KL:=Lh (fun g b w (ha:By w g 16 PN) (hb:w.cell? ⟨b,0,none⟩=some (.int .u64 (18446744073709551615:Int)))=>I4 g b 18446744073709551615 PN w (by decide) ha hb)
 have KD:=Lh (fun g b w (ha:By w g 16 PN) (hb:IsN w (some ⟨b,0,none⟩) 1 1 1)=>Gv (some ⟨g,0,none⟩) (some ⟨b,0,none⟩) 16 16 1 1 PN 1 w (ha.is 16 (Nat.le_refl _)) hb (by decide +kernel))
 rw[hQ] at KD
 have KP:=Lh IF
 have hEB:14474011154664524427946373126085988481658748083205070504932198000989141204987<B64^4:=by decide +kernel
 have KT:=Lh (fun q ca w (h:IsN w (some ⟨q,0,none⟩) 16 ca 14474011154664524427946373126085988481658748083205070504932198000989141204987)=>Qf (some ⟨q,0,none⟩) 16 ca 14474011154664524427946373126085988481658748083205070504932198000989141204987 w h hEB)
 have hEL:14474011154664524427946373126085988481658748083205070504932198000989141204987<65536^16:=by decide +kernel
 obtain⟨E,hEE⟩:=exzb (14474011154664524427946373126085988481658748083205070504932198000989141204987)
 rw[hEE] at KT hE hEL ⊢
 have HD:Hid (∀ i,dg E i=dg Q i/4+dg Q (i+1)*16384%65536):=fun i=>by
  rw[← hE]
  unfold dg
  rw[Nat.div_div_eq_div_mul,Nat.mul_comm 4,← Nat.div_div_eq_div_mul,Nat.pow_succ,← Nat.div_div_eq_div_mul]
  generalize Q/65536^i=M
  omega
 have HEL:=Lh hEL
 generalize PN=p at *
 clear hQ hE hEE hEB hEL
 obtain⟨xr,xz,xB⟩:=IN 23 w
 simp only[AL] at KT ⊢
 go_enter Tryz.func127,Tryz.ntmps127
 go_wp2_with fail
 change Calls _ _ _ (Z1 23 w) _
 generalize Z1 23 w=X at *
 refine (KP.out X).mono ?_
 rintro e w1 ⟨g1,rfl,ho1,hg1,hb1⟩
 have XR1:=Lh ((xr.keep hb1).alloc (.cells #[.int .u64 18446744073709551615] 22))
 have XB1:=Lh (Bi (AE hb1 xB (Nat.le_refl _)) (.cells #[.int .u64 18446744073709551615] 22))
 have HO1:=Lh (ho1.below ((Below.refl w1.heap.size w1).alloc (Nat.le_refl _) (.cells #[.int .u64 18446744073709551615] 22)))
 have HC1:=Lh (Aj w1 (.cells #[.int .u64 18446744073709551615] 22))
 clear xr xB ho1 hb1 hg1
 go_wp2_with fail
 refine (KL.out g1 w1.heap.size _ HO1.out (Lx HC1.out)).mono ?_
 rintro e w2 ⟨v2,rfl,hb2⟩
 have XR2:=Lh (XR1.out.keep hb2)
 have XB2:=Lh (AE hb2 XB1.out (Nat.le_refl _))
 clear XR1 XB1 HO1 HC1 hb2 KL
 go_wp2_with fail
 refine (KP.out w2).mono ?_
 rintro e w3 ⟨g3,rfl,ho3,hg3,hb3⟩
 have XR3:=Lh ((XR2.out.keep hb3).alloc (.cells #[.int .u64 1] 22))
 have XB3:=Lh (Bi (AE hb3 XB2.out (Nat.le_refl _)) (.cells #[.int .u64 1] 22))
 have HO3:=Lh (ho3.below ((Below.refl w3.heap.size w3).alloc (Nat.le_refl _) (.cells #[.int .u64 1] 22)))
 have HC3:=Lh (IG (m:=1) (by decide) (Aj w3 (.cells #[.int .u64 1] 22)))
 clear XR2 XB2 ho3 hb3 hg3
 go_wp2_with fail
 refine (KD.out g3 w3.heap.size _ HO3.out HC3.out).mono ?_
 rintro e w4 ⟨rfl,ho4,hb4⟩
 have XR4:=Lh (XR3.out.keep hb4)
 have XB4:=Lh (AE hb4 XB3.out (Nat.le_refl _))
 have HO4:=Lh ho4
 clear XR3 XB3 HO3 HC3 hb4 ho4 KD KP
 go_wp2_with fail
 have HO5:Hid (By w4 (w3.heap.size+1) 16 Q):=by
  have h:=HO4.out
  rw[Ae] at h
  exact h
 have hg5:w3.heap.size+1<w4.heap.size:=AU HO5.out.1
 generalize w3.heap.size+1=g5 at *
 have hwB:w.heap.size<w4.heap.size:=AU XR4.out
 clear HO4
 generalize hBB:w4.heap.size=B at *
 go_loopw [6,7] (fun v i wr=>∃ j:Nat,j≤16∧i=.int .i64 (j:Int)∧wr.ownsRow B 22 1 v j (Bw (dg E) j)∧By wr g5 16 Q∧IsA wr w.heap.size 0 23∧B≤wr.heap.size∧Below w.heap.size w wr) (fun _ i _=>16-(Go.RowKit.intOf i).toNat)
 case atStart=>exact⟨0,by omega,rfl,World.ownsRow_nil _ _ _ _,HO5.out,XR4.out,by omega,XB4.out⟩
 case round =>
  obtain⟨j,hj,rfl,hown,hoq,rr,hBw,rb⟩:=hrel
  clear HO5 XR4 XB4 hBB
  have hbs:=rb.size
  have hlr:=AU rr
  by_cases hlt:j<16
  ·have q1:(j:Int)<16:=by omega
   have q2:(0:Int)≤(j:Int):=by omega
   obtain⟨cj,_⟩:=Af hoq.1 (BC (dg Q) 16 j (by omega))
   have hd:=HD.out j
   have hx:=Dx Q j
   have hy:=Dx Q (j+1)
   have HOW:=Lh hown
   have HOQ:=Lh hoq
   have RR:=Lh rr
   have RB:=Lh rb
   by_cases hj1:j+1<16
   ·have q3:(j:Int)+1<16:=by omega
    obtain⟨cj1,_⟩:=Af hoq.1 (BC (dg Q) 16 (j+1) hj1)
    have HS:Hid (Bw (dg E) (j+1)=Bw (dg E) j++[.int .u64 (dg E j:Int)]):=EY _ _
    obtain⟨x,hxx⟩:=exzb (dg Q j)
    obtain⟨y,hyy⟩:=exzb (dg Q (j+1))
    obtain⟨e,hee⟩:=exzb (dg E j)
    rw[hxx] at cj hd hx
    rw[hyy] at cj1 hd hy
    rw[hee] at hd HS
    have hv:((x:Int)/4+(y:Int)*16384%65536)=(e:Int):=by omega
    have HV:=Lh hv
    clear hown hoq rr rb hd hxx hyy hee hv
    go_wp2_with (at_builtin;refine wpList_append_own _ (by rfl) (.tmp 48) (.tmp 50) 95 (by rfl) B 22 i0 (.int .u64 0) 1 8 Tryz.underlying95 hi hz0 hz1 hz2 rfl (by decide) _ j _ (by simp[Act.eval];rfl) (by exact HOW.out.alloc _) ⟨wr.heap.size,0,none⟩ 1 1 [.int .u64 ((x:Int)/4+(y:Int)*16384%65536)] (by simp[Act.eval]) rfl (by exact BK wr #[_] _) (by simp[Value.oneCell']) (by unfold maxLen;omega) (by omega) (by simp;omega) ?_;intro v2 w2 hown2 hgrow2 _)
    go_roundw
    case rel =>
     have hq:∀ q,q<B→q<wr.heap.size→(some q:Option Nat)≠Value.ownBlock _:=fun q h1 _ e=>absurd (HOW.out.lt q e.symm).1 (by omega)
     refine⟨j+1,by omega,congrArg (Value.int .i64) (by omega),?_,?_,?_,by have:=hgrow2.size;rw[Ae] at this;omega,?_⟩
     ·rw[HS.out,← HV.out];exact hown2
     ·exact⟨(hgrow2.block g5 (by rw[Ae];have:=AU HOQ.out.1;omega) (hq g5 (by omega) (AU HOQ.out.1))).trans (AP HOQ.out.1 _),HOQ.out.2⟩
     ·exact (RR.out.alloc _).grown hgrow2 (hq w.heap.size (by omega) (by omega))
     ·exact (Bi RB.out _).grown hgrow2 (by rw[Ae];omega) (fun q h=>by have:=(HOW.out.lt q h).1;omega)
    case measure =>
     simp[Go.RowKit.intOf]
     omega
   ·have q3:¬ (j:Int)+1<16:=by omega
    have HS:Hid (Bw (dg E) (j+1)=Bw (dg E) j++[.int .u64 (dg E j:Int)]):=EY _ _
    obtain⟨x,hxx⟩:=exzb (dg Q j)
    obtain⟨y,hyy⟩:=exzb (dg Q (j+1))
    obtain⟨e,hee⟩:=exzb (dg E j)
    rw[hxx] at cj hd hx
    rw[hyy] at hd hy
    rw[hee] at hd HS
    have hy0:y=0:=by rw[← hyy];exact Lu hQB (by omega)
    have hv:((x:Int)/4)=(e:Int):=by omega
    have HV:=Lh hv
    clear hown hoq rr rb hd hxx hyy hee hv hy0
    go_wp2_with (at_builtin;refine wpList_append_own _ (by rfl) (.tmp 48) (.tmp 50) 95 (by rfl) B 22 i0 (.int .u64 0) 1 8 Tryz.underlying95 hi hz0 hz1 hz2 rfl (by decide) _ j _ (by simp[Act.eval];rfl) (by exact HOW.out.alloc _) ⟨wr.heap.size,0,none⟩ 1 1 [.int .u64 ((x:Int)/4)] (by simp[Act.eval]) rfl (by exact BK wr #[_] _) (by simp[Value.oneCell']) (by unfold maxLen;omega) (by omega) (by simp;omega) ?_;intro v2 w2 hown2 hgrow2 _)
    go_roundw
    case rel =>
     have hq:∀ q,q<B→q<wr.heap.size→(some q:Option Nat)≠Value.ownBlock _:=fun q h1 _ e=>absurd (HOW.out.lt q e.symm).1 (by omega)
     refine⟨j+1,by omega,congrArg (Value.int .i64) (by omega),?_,?_,?_,by have:=hgrow2.size;rw[Ae] at this;omega,?_⟩
     ·rw[HS.out,← HV.out];exact hown2
     ·exact⟨(hgrow2.block g5 (by rw[Ae];have:=AU HOQ.out.1;omega) (hq g5 (by omega) (AU HOQ.out.1))).trans (AP HOQ.out.1 _),HOQ.out.2⟩
     ·exact (RR.out.alloc _).grown hgrow2 (hq w.heap.size (by omega) (by omega))
     ·exact (Bi RB.out _).grown hgrow2 (by rw[Ae];omega) (fun q h=>by have:=(HOW.out.lt q h).1;omega)
    case measure =>
     simp[Go.RowKit.intOf]
     omega
  ·obtain rfl:j=16:=by omega
   obtain⟨gv,cv,rfl,hv⟩:=IC hown HEL.out
   have HVN:=Lh hv
   have RR:=Lh rr
   have RB:=Lh rb
   clear hown hoq rr rb hv HD
   go_wp2_with fail
   refine (KT.out gv cv wr HVN.out).mono ?_
   rintro e w5 ⟨rfl,hb5⟩
   have xr:=AT (RR.out.keep hb5)
   obtain⟨⟨d0,d1,d2,d3⟩,e0,e1,e2,e3⟩:=Aq xr
   have KLd:=Lh (BU (AN (n:=E) xr))
   have BR:=Lh (Bh (AE hb5 RB.out (Nat.le_refl _)) (v0:=.int .u64 (wd E 0:Int)) (v1:=.int .u64 (wd E 1:Int)) (v2:=.int .u64 (wd E 2:Int)) (v3:=.int .u64 (wd E 3:Int)) (b:=w.heap.size) (Nat.le_refl _))
   clear xr RR RB hb5 HVN
   go_wp2_with fail
   exact bodyPost_ret (Ap Tryz.results127 (by rfl) KLd.out) rfl ⟨rfl,BR.out⟩
def E2:Nat:=(PN-1)/2
theorem jg:E2<B64^4:=by decide +kernel
theorem dQ (w:World):Calls Tryz.prog 127 #[.int .i64 (-2),.int .i64 0] w fun e w'=>e=.returned (Aa P2)∧Below w.heap.size w w':=by
 have h:=dr w
 rw[show 57896044618658097711785492504343953926634992332820282019728792003956564819947=P2 by decide +kernel] at h
 exact h
theorem cU (w:World):Calls Tryz.prog 127 #[.int .i64 (-1),.int .i64 1] w fun e w'=>e=.returned (Aa E2)∧Below w.heap.size w w':=by
 have h:=WR w
 rw[show 28948022309329048855892746252171976963317496166410141009864396001978282409974=E2 by decide +kernel] at h
 exact h
theorem dV (w:World):Calls Tryz.prog 127 #[.int .i64 3,.int .i64 3] w fun e w'=>e=.returned (Aa P3)∧Below w.heap.size w w':=by
 have h:=Xx w
 rw[show 7237005577332262213973186563042994240829374041602535252466099000494570602494=P3 by decide +kernel] at h
 exact h
theorem cI (w:World):Calls Tryz.prog 127 #[.int .i64 (-1),.int .i64 2] w fun e w'=>e=.returned (Aa P4)∧Below w.heap.size w w':=by
 have h:=Xg w
 rw[show 14474011154664524427946373126085988481658748083205070504932198000989141204987=P4 by decide +kernel] at h
 exact h
theorem cJ (w:World):Calls Tryz.prog 126 #[Aa 2,Aa P4] w fun e w'=>e=.returned (Aa iV)∧Below w.heap.size w w':=by
 have h:=Jc 2 P4 w (by decide +kernel) ig
 rw[Oz 2 P4 iV ei (by decide +kernel)] at h
 exact h
theorem ZH (a:Nat) (w:World) (ha:a<PN):Calls Tryz.prog 69 #[Aa a] w fun e w'=>e=.returned (Aa (a^P2%PN))∧Below w.heap.size w w':=by
 have KT:=Lh dQ
 have KP:=Lh (fun w=>Jc a P2 w ha iS)
 obtain⟨R,hR⟩:=exzb (a^P2%PN)
 rw[hR] at KP ⊢
 obtain⟨q,hq⟩:=exzb (P2)
 rw[hq] at KT KP
 obtain⟨xa,xr,xz,xB⟩:=MT a 23 23 w
 simp only[AL] at KT KP ⊢
 clear hR hq ha
 go_enter Tryz.func69,Tryz.ntmps69
 go_wp2_with fail
 change Code.wp _ _ _ _ (A2 a 23 23 w)
 generalize A2 a 23 23 w=X at *
 have hC:C4 X w.heap.size a:=Dk xa
 have hCd:C4 X.drew w.heap.size a:=hC
 have XR:=Lh xr
 have XBl:=xB
 have hne1:w.heap.size≠w.heap.size+1:=by omega
 clear xa xr xz xB
 go_region_held3 (fun w'=>w'.cell? ⟨w.heap.size,0,none⟩=some (.int .u64 (wd a 0:Int))∧w'.cell? ⟨w.heap.size,1,none⟩=some (.int .u64 (wd a 1:Int))∧w'.cell? ⟨w.heap.size,2,none⟩=some (.int .u64 (wd a 2:Int))∧w'.cell? ⟨w.heap.size,3,none⟩=some (.int .u64 (wd a 3:Int))) (first | (with_reducible exact hCd) | (focus ((repeat (first | (with_reducible assumption) | (with_reducible apply C4.alloc) | (with_reducible apply C4.drew) | (with_reducible apply C4.far) | (with_reducible apply C4.calls) | exact Nat.le_refl _ | omega | (simp;done)));done))) (first
  | (go_at_call 127;go_must (refine (KT.out _).mono ?_);rintro e w3 ⟨rfl,hb3⟩)
  | (go_at_call 126;go_must (refine (KP.out _).mono ?_);rintro e w4 ⟨rfl,hb4⟩
     have hbX:Below X.heap.size X w4:=AE hb4 (AE hb3 (Dc (Below.refl _ _)) (Nat.le_refl _)) (Nat.le_refl _)
     have xr4:=AT (AH hbX XR.out (Nat.le_refl _))
     obtain⟨⟨d0,d1,d2,d3⟩,e0,e1,e2,e3⟩:=Aq xr4))
 rename_i hH
 clear hH hC hCd
 have KL:=Lh (BU (AN (n:=R) xr4))
 have BR:=Lh (Bh (AE hbX XBl (Nat.le_refl _)) (v0:=.int .u64 (wd R 0:Int)) (v1:=.int .u64 (wd R 1:Int)) (v2:=.int .u64 (wd R 2:Int)) (v3:=.int .u64 (wd R 3:Int)) (b:=w.heap.size+1) (by omega))
 go_wp2_with fail
 exact bodyPost_ret (Ap Tryz.results69 (by rfl) KL.out) rfl ⟨rfl,BR.out⟩
end Go.Proofs.YtnaldciakclccaaGreat
