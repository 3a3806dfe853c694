/- The reference's part (layer 19): p and a number, divided by a power of 2. The reference's Inv and Root (layer 19): contracts. -/
import Derived.Test.YtnaldciakclccaaGreatEk11
namespace Go.Proofs.YtnaldciakclccaaGreat
set_option maxRecDepth 20000
set_option linter.unusedSimpArgs false
set_option linter.unusedVariables false
open Go.RowKit
theorem one_limbs {W:World} {b m:Nat} (hm:m<65536) (h:W.heap[b]?=some (.cells #[.int .u64 (m:Int)] 22 (0,0))):IsN W (some ⟨b,0,none⟩) 1 1 m:=by
 refine⟨by omega,by omega,.inr ⟨b,rfl,Nat.le_refl _,lt_blk h,fun i hi=>?_⟩⟩
 obtain rfl:i=0:=by omega
 have e:dg m 0=m:=by unfold dg;rw[Nat.pow_zero,Nat.div_one];exact Nat.mod_eq_of_lt hm
 rw[e]
 simp[World.cell?,h]
theorem one_cell {W:World} {b:Nat} {v:Value} {t:TypeId} (h:W.heap[b]?=some (.cells #[v] t (0,0))):W.cell? ⟨b,0,none⟩=some v:=by
 simp[World.cell?,h]
theorem rowH_snoc (p:Nat→Nat) (j:Nat):rowH p (j+1)=rowH p j++[.int .u64 (p j:Int)]:=by
 unfold rowH
 rw[List.range_succ,List.map_append]
 rfl
theorem own_isN16 {w:World} {base n:Nat} {v:Value} (h:w.ownsRow base 22 1 v 16 (rowH (dg n) 16)) (hn:n<65536^16):∃ g cap,v=.slice (some ⟨g,0,none⟩) 16 cap∧IsN w (some ⟨g,0,none⟩) 16 cap n:=by
 obtain⟨_,⟨_,h0⟩ | ⟨g,cap,cur,rfl,h1,h2,h3,h4,h5,h6⟩⟩:=h
 ·omega
 ·refine⟨g,cap,rfl,hn,by omega,.inr ⟨g,rfl,h3,lt_blk h2,fun i hi=>?_⟩⟩
  have hx:(cur.toList.take 16)[i]?=(rowH (dg n) 16)[i]?:=by
   have:=congrArg (fun l:List Value=>l[i]?) h6
   simpa using this
  rw[List.getElem?_take,if_pos (by omega),rowH_get _ 16 i hi] at hx
  have hc:w.cell? ⟨g,i,none⟩=cur.toList[i]?:=by simp[World.cell?,h2]
  rw[hc,hx]
theorem sinfo64:(Tryz.prog.info? 22).map (fun i=>(i.zero,i.size,i.bytes))=some (some (.int .u64 0),1,8):=by kernel_rfl
set_option maxRecDepth 20000 in
set_option maxHeartbeats 8000000 in
theorem part_m2 (w:World):Calls Tryz.prog 127 #[.int .i64 (-2),.int .i64 0] w fun e w'=>e=.returned (numV 57896044618658097711785492504343953926634992332820282019728792003956564819947)∧Below w.heap.size w w':=by
 obtain⟨i0,hi,hz0,hz1,hz2⟩:=info_parts sinfo64
 obtain⟨Q,hQ⟩:∃ Q,PN-2=Q:=⟨_,rfl⟩
 have hQB:Q<65536^16:=by rw[← hQ];decide +kernel
 have hE:Q/1=57896044618658097711785492504343953926634992332820282019728792003956564819947:=by rw[← hQ];decide +kernel
 have KL:=Lib.hid (fun g b w (ha:OwnN w g 16 PN) (hb:w.cell? ⟨b,0,none⟩=some (.int .u64 (18446744073709551614:Int)))=>radd_loose g b 18446744073709551614 PN w (by decide) ha hb)
 have KD:=Lib.hid (fun g b w (ha:OwnN w g 16 PN) (hb:IsN w (some ⟨b,0,none⟩) 1 1 2)=>rsub_any (some ⟨g,0,none⟩) (some ⟨b,0,none⟩) 16 16 1 1 PN 2 w (ha.is 16 (Nat.le_refl _)) hb (by decide +kernel))
 rw[hQ] at KD
 have KP:=Lib.hid rpl_any
 have hEB:57896044618658097711785492504343953926634992332820282019728792003956564819947<B64^4:=by decide +kernel
 have KT:=Lib.hid (fun q ca w (h:IsN w (some ⟨q,0,none⟩) 16 ca 57896044618658097711785492504343953926634992332820282019728792003956564819947)=>rto0 (some ⟨q,0,none⟩) 16 ca 57896044618658097711785492504343953926634992332820282019728792003956564819947 w h hEB)
 have hEL:57896044618658097711785492504343953926634992332820282019728792003956564819947<65536^16:=by decide +kernel
 obtain⟨E,hEE⟩:∃ E,57896044618658097711785492504343953926634992332820282019728792003956564819947=E:=⟨_,rfl⟩
 rw[hEE] at KT hE hEL ⊢
 have HD:Hid (∀ i,dg E i=dg Q i/1+dg Q (i+1)*65536%65536):=fun i=>by
  rw[← hE]
  unfold dg
  rw[Nat.div_div_eq_div_mul,Nat.mul_comm 1,← Nat.div_div_eq_div_mul,Nat.pow_succ,← Nat.div_div_eq_div_mul]
  generalize Q/65536^i=M
  omega
 have HEL:=Lib.hid hEL
 generalize PN=p at *
 clear hQ hE hEE hEB hEL
 obtain⟨xr,xz,xB⟩:=z1_at 23 w
 simp only[numV_agg] at KT ⊢
 go_enter Tryz.func127,Tryz.ntmps127
 go_wp2_with fail
 change Calls _ _ _ (Z1 23 w) _
 generalize Z1 23 w=X at *
 refine (KP.out X).mono ?_
 rintro e w1 ⟨g1,rfl,ho1,hg1,hb1⟩
 have XR1:=Lib.hid ((xr.keep hb1).alloc (.cells #[.int .u64 18446744073709551614] 22))
 have XB1:=Lib.hid (b_alloc (b_callsS hb1 xB (Nat.le_refl _)) (.cells #[.int .u64 18446744073709551614] 22))
 have HO1:=Lib.hid (ho1.below ((Below.refl w1.heap.size w1).alloc (Nat.le_refl _) (.cells #[.int .u64 18446744073709551614] 22)))
 have HC1:=Lib.hid (alloc_new w1 (.cells #[.int .u64 18446744073709551614] 22))
 clear xr xB ho1 hb1 hg1
 go_wp2_with fail
 refine (KL.out g1 w1.heap.size _ HO1.out (one_cell HC1.out)).mono ?_
 rintro e w2 ⟨v2,rfl,hb2⟩
 have XR2:=Lib.hid (XR1.out.keep hb2)
 have XB2:=Lib.hid (b_callsS hb2 XB1.out (Nat.le_refl _))
 clear XR1 XB1 HO1 HC1 hb2 KL
 go_wp2_with fail
 refine (KP.out w2).mono ?_
 rintro e w3 ⟨g3,rfl,ho3,hg3,hb3⟩
 have XR3:=Lib.hid ((XR2.out.keep hb3).alloc (.cells #[.int .u64 2] 22))
 have XB3:=Lib.hid (b_alloc (b_callsS hb3 XB2.out (Nat.le_refl _)) (.cells #[.int .u64 2] 22))
 have HO3:=Lib.hid (ho3.below ((Below.refl w3.heap.size w3).alloc (Nat.le_refl _) (.cells #[.int .u64 2] 22)))
 have HC3:=Lib.hid (one_limbs (m:=2) (by decide) (alloc_new w3 (.cells #[.int .u64 2] 22)))
 clear XR2 XB2 ho3 hb3 hg3
 go_wp2_with fail
 refine (KD.out g3 w3.heap.size _ HO3.out HC3.out).mono ?_
 rintro e w4 ⟨rfl,ho4,hb4⟩
 have XR4:=Lib.hid (XR3.out.keep hb4)
 have XB4:=Lib.hid (b_callsS hb4 XB3.out (Nat.le_refl _))
 have HO4:=Lib.hid ho4
 clear XR3 XB3 HO3 HC3 hb4 ho4 KD KP
 go_wp2_with fail
 have HO5:Hid (OwnN w4 (w3.heap.size+1) 16 Q):=by
  have h:=HO4.out
  rw[alloc_size1] at h
  exact h
 have hg5:w3.heap.size+1<w4.heap.size:=lt_blk HO5.out.1
 generalize w3.heap.size+1=g5 at *
 have hwB:w.heap.size<w4.heap.size:=lt_blk XR4.out
 clear HO4
 generalize hBB:w4.heap.size=B at *
 go_loopw [6,7] (fun v i wr=>∃ j:Nat,j≤16∧i=.int .i64 (j:Int)∧wr.ownsRow B 22 1 v j (rowH (dg E) j)∧OwnN wr g5 16 Q∧IsA wr w.heap.size 0 23∧B≤wr.heap.size∧Below w.heap.size w wr) (fun _ i _=>16-(Go.RowKit.intOf i).toNat)
 case atStart=>exact⟨0,by omega,rfl,World.ownsRow_nil _ _ _ _,HO5.out,XR4.out,by omega,XB4.out⟩
 case round =>
  obtain⟨j,hj,rfl,hown,hoq,rr,hBw,rb⟩:=hrel
  clear HO5 XR4 XB4 hBB
  have hbs:=rb.size
  have hlr:=lt_blk rr
  by_cases hlt:j<16
  ·have q1:(j:Int)<16:=by omega
   have q2:(0:Int)≤(j:Int):=by omega
   obtain⟨cj,_⟩:=arr_get hoq.1 (rowH_get (dg Q) 16 j (by omega))
   have hd:=HD.out j
   have hx:=dg_lt Q j
   have hy:=dg_lt Q (j+1)
   have HOW:=Lib.hid hown
   have HOQ:=Lib.hid hoq
   have RR:=Lib.hid rr
   have RB:=Lib.hid rb
   by_cases hj1:j+1<16
   ·have q3:(j:Int)+1<16:=by omega
    obtain⟨cj1,_⟩:=arr_get hoq.1 (rowH_get (dg Q) 16 (j+1) hj1)
    have HS:Hid (rowH (dg E) (j+1)=rowH (dg E) j++[.int .u64 (dg E j:Int)]):=rowH_snoc _ _
    obtain⟨x,hxx⟩:∃ x,dg Q j=x:=⟨_,rfl⟩
    obtain⟨y,hyy⟩:∃ y,dg Q (j+1)=y:=⟨_,rfl⟩
    obtain⟨e,hee⟩:∃ e,dg E j=e:=⟨_,rfl⟩
    rw[hxx] at cj hd hx
    rw[hyy] at cj1 hd hy
    rw[hee] at hd HS
    have hv:(x:Int)=(e:Int):=by omega
    have HV:=Lib.hid hv
    clear hown hoq rr rb hd hxx hyy hee hv
    go_wp2_with (at_builtin;refine wpList_append_own _ (by rfl) (.tmp 48) (.tmp 50) 95 (by rfl) B 22 i0 (.int .u64 0) 1 8 Tryz.underlying95 hi hz0 hz1 hz2 rfl (by decide) _ j _ (by simp[Act.eval];rfl) (by exact HOW.out.alloc _) ⟨wr.heap.size,0,none⟩ 1 1 [.int .u64 (x:Int)] (by simp[Act.eval]) rfl (by exact news_new wr #[_] _) (by simp[Value.oneCell']) (by unfold maxLen;omega) (by omega) (by simp;omega) ?_;intro v2 w2 hown2 hgrow2 _)
    go_roundw
    case rel =>
     have hq:∀ q,q<B→q<wr.heap.size→(some q:Option Nat)≠Value.ownBlock _:=fun q h1 _ e=>absurd (HOW.out.lt q e.symm).1 (by omega)
     refine⟨j+1,by omega,congrArg (Value.int .i64) (by omega),?_,?_,?_,by have:=hgrow2.size;rw[alloc_size1] at this;omega,?_⟩
     ·rw[HS.out,← HV.out];exact hown2
     ·exact⟨(hgrow2.block g5 (by rw[alloc_size1];have:=lt_blk HOQ.out.1;omega) (hq g5 (by omega) (lt_blk HOQ.out.1))).trans (alloc_keep HOQ.out.1 _),HOQ.out.2⟩
     ·exact (RR.out.alloc _).grown hgrow2 (hq w.heap.size (by omega) (by omega))
     ·exact (b_alloc RB.out _).grown hgrow2 (by rw[alloc_size1];omega) (fun q h=>by have:=(HOW.out.lt q h).1;omega)
    case measure =>
     simp[Go.RowKit.intOf]
     omega
   ·have q3:¬ (j:Int)+1<16:=by omega
    have HS:Hid (rowH (dg E) (j+1)=rowH (dg E) j++[.int .u64 (dg E j:Int)]):=rowH_snoc _ _
    obtain⟨x,hxx⟩:∃ x,dg Q j=x:=⟨_,rfl⟩
    obtain⟨y,hyy⟩:∃ y,dg Q (j+1)=y:=⟨_,rfl⟩
    obtain⟨e,hee⟩:∃ e,dg E j=e:=⟨_,rfl⟩
    rw[hxx] at cj hd hx
    rw[hyy] at hd hy
    rw[hee] at hd HS
    have hy0:y=0:=by rw[← hyy];exact dg_out hQB (by omega)
    have hv:(x:Int)=(e:Int):=by omega
    have HV:=Lib.hid hv
    clear hown hoq rr rb hd hxx hyy hee hv hy0
    go_wp2_with (at_builtin;refine wpList_append_own _ (by rfl) (.tmp 48) (.tmp 50) 95 (by rfl) B 22 i0 (.int .u64 0) 1 8 Tryz.underlying95 hi hz0 hz1 hz2 rfl (by decide) _ j _ (by simp[Act.eval];rfl) (by exact HOW.out.alloc _) ⟨wr.heap.size,0,none⟩ 1 1 [.int .u64 (x:Int)] (by simp[Act.eval]) rfl (by exact news_new wr #[_] _) (by simp[Value.oneCell']) (by unfold maxLen;omega) (by omega) (by simp;omega) ?_;intro v2 w2 hown2 hgrow2 _)
    go_roundw
    case rel =>
     have hq:∀ q,q<B→q<wr.heap.size→(some q:Option Nat)≠Value.ownBlock _:=fun q h1 _ e=>absurd (HOW.out.lt q e.symm).1 (by omega)
     refine⟨j+1,by omega,congrArg (Value.int .i64) (by omega),?_,?_,?_,by have:=hgrow2.size;rw[alloc_size1] at this;omega,?_⟩
     ·rw[HS.out,← HV.out];exact hown2
     ·exact⟨(hgrow2.block g5 (by rw[alloc_size1];have:=lt_blk HOQ.out.1;omega) (hq g5 (by omega) (lt_blk HOQ.out.1))).trans (alloc_keep HOQ.out.1 _),HOQ.out.2⟩
     ·exact (RR.out.alloc _).grown hgrow2 (hq w.heap.size (by omega) (by omega))
     ·exact (b_alloc RB.out _).grown hgrow2 (by rw[alloc_size1];omega) (fun q h=>by have:=(HOW.out.lt q h).1;omega)
    case measure =>
     simp[Go.RowKit.intOf]
     omega
  ·obtain rfl:j=16:=by omega
   obtain⟨gv,cv,rfl,hv⟩:=own_isN16 hown HEL.out
   have HVN:=Lib.hid hv
   have RR:=Lib.hid rr
   have RB:=Lib.hid rb
   clear hown hoq rr rb hv HD
   go_wp2_with fail
   refine (KT.out gv cv wr HVN.out).mono ?_
   rintro e w5 ⟨rfl,hb5⟩
   have xr:=isA_zero' (RR.out.keep hb5)
   obtain⟨⟨d0,d1,d2,d3⟩,e0,e1,e2,e3⟩:=fourV xr
   have KLd:=Lib.hid (load_arr (isA_set (n:=E) xr))
   have BR:=Lib.hid (b_set4 (b_callsS hb5 RB.out (Nat.le_refl _)) (v0:=.int .u64 (wd E 0:Int)) (v1:=.int .u64 (wd E 1:Int)) (v2:=.int .u64 (wd E 2:Int)) (v3:=.int .u64 (wd E 3:Int)) (b:=w.heap.size) (Nat.le_refl _))
   clear xr RR RB hb5 HVN
   go_wp2_with fail
   exact bodyPost_ret (results_arr Tryz.results127 (by rfl) KLd.out) rfl ⟨rfl,BR.out⟩
set_option maxRecDepth 20000 in
set_option maxHeartbeats 8000000 in
theorem part_m1_1 (w:World):Calls Tryz.prog 127 #[.int .i64 (-1),.int .i64 1] w fun e w'=>e=.returned (numV 28948022309329048855892746252171976963317496166410141009864396001978282409974)∧Below w.heap.size w w':=by
 obtain⟨i0,hi,hz0,hz1,hz2⟩:=info_parts sinfo64
 obtain⟨Q,hQ⟩:∃ Q,PN-1=Q:=⟨_,rfl⟩
 have hQB:Q<65536^16:=by rw[← hQ];decide +kernel
 have hE:Q/2=28948022309329048855892746252171976963317496166410141009864396001978282409974:=by rw[← hQ];decide +kernel
 have KL:=Lib.hid (fun g b w (ha:OwnN w g 16 PN) (hb:w.cell? ⟨b,0,none⟩=some (.int .u64 (18446744073709551615:Int)))=>radd_loose g b 18446744073709551615 PN w (by decide) ha hb)
 have KD:=Lib.hid (fun g b w (ha:OwnN w g 16 PN) (hb:IsN w (some ⟨b,0,none⟩) 1 1 1)=>rsub_any (some ⟨g,0,none⟩) (some ⟨b,0,none⟩) 16 16 1 1 PN 1 w (ha.is 16 (Nat.le_refl _)) hb (by decide +kernel))
 rw[hQ] at KD
 have KP:=Lib.hid rpl_any
 have hEB:28948022309329048855892746252171976963317496166410141009864396001978282409974<B64^4:=by decide +kernel
 have KT:=Lib.hid (fun q ca w (h:IsN w (some ⟨q,0,none⟩) 16 ca 28948022309329048855892746252171976963317496166410141009864396001978282409974)=>rto0 (some ⟨q,0,none⟩) 16 ca 28948022309329048855892746252171976963317496166410141009864396001978282409974 w h hEB)
 have hEL:28948022309329048855892746252171976963317496166410141009864396001978282409974<65536^16:=by decide +kernel
 obtain⟨E,hEE⟩:∃ E,28948022309329048855892746252171976963317496166410141009864396001978282409974=E:=⟨_,rfl⟩
 rw[hEE] at KT hE hEL ⊢
 have HD:Hid (∀ i,dg E i=dg Q i/2+dg Q (i+1)*32768%65536):=fun i=>by
  rw[← hE]
  unfold dg
  rw[Nat.div_div_eq_div_mul,Nat.mul_comm 2,← Nat.div_div_eq_div_mul,Nat.pow_succ,← Nat.div_div_eq_div_mul]
  generalize Q/65536^i=M
  omega
 have HEL:=Lib.hid hEL
 generalize PN=p at *
 clear hQ hE hEE hEB hEL
 obtain⟨xr,xz,xB⟩:=z1_at 23 w
 simp only[numV_agg] at KT ⊢
 go_enter Tryz.func127,Tryz.ntmps127
 go_wp2_with fail
 change Calls _ _ _ (Z1 23 w) _
 generalize Z1 23 w=X at *
 refine (KP.out X).mono ?_
 rintro e w1 ⟨g1,rfl,ho1,hg1,hb1⟩
 have XR1:=Lib.hid ((xr.keep hb1).alloc (.cells #[.int .u64 18446744073709551615] 22))
 have XB1:=Lib.hid (b_alloc (b_callsS hb1 xB (Nat.le_refl _)) (.cells #[.int .u64 18446744073709551615] 22))
 have HO1:=Lib.hid (ho1.below ((Below.refl w1.heap.size w1).alloc (Nat.le_refl _) (.cells #[.int .u64 18446744073709551615] 22)))
 have HC1:=Lib.hid (alloc_new w1 (.cells #[.int .u64 18446744073709551615] 22))
 clear xr xB ho1 hb1 hg1
 go_wp2_with fail
 refine (KL.out g1 w1.heap.size _ HO1.out (one_cell HC1.out)).mono ?_
 rintro e w2 ⟨v2,rfl,hb2⟩
 have XR2:=Lib.hid (XR1.out.keep hb2)
 have XB2:=Lib.hid (b_callsS hb2 XB1.out (Nat.le_refl _))
 clear XR1 XB1 HO1 HC1 hb2 KL
 go_wp2_with fail
 refine (KP.out w2).mono ?_
 rintro e w3 ⟨g3,rfl,ho3,hg3,hb3⟩
 have XR3:=Lib.hid ((XR2.out.keep hb3).alloc (.cells #[.int .u64 1] 22))
 have XB3:=Lib.hid (b_alloc (b_callsS hb3 XB2.out (Nat.le_refl _)) (.cells #[.int .u64 1] 22))
 have HO3:=Lib.hid (ho3.below ((Below.refl w3.heap.size w3).alloc (Nat.le_refl _) (.cells #[.int .u64 1] 22)))
 have HC3:=Lib.hid (one_limbs (m:=1) (by decide) (alloc_new w3 (.cells #[.int .u64 1] 22)))
 clear XR2 XB2 ho3 hb3 hg3
 go_wp2_with fail
 refine (KD.out g3 w3.heap.size _ HO3.out HC3.out).mono ?_
 rintro e w4 ⟨rfl,ho4,hb4⟩
 have XR4:=Lib.hid (XR3.out.keep hb4)
 have XB4:=Lib.hid (b_callsS hb4 XB3.out (Nat.le_refl _))
 have HO4:=Lib.hid ho4
 clear XR3 XB3 HO3 HC3 hb4 ho4 KD KP
 go_wp2_with fail
 have HO5:Hid (OwnN w4 (w3.heap.size+1) 16 Q):=by
  have h:=HO4.out
  rw[alloc_size1] at h
  exact h
 have hg5:w3.heap.size+1<w4.heap.size:=lt_blk HO5.out.1
 generalize w3.heap.size+1=g5 at *
 have hwB:w.heap.size<w4.heap.size:=lt_blk XR4.out
 clear HO4
 generalize hBB:w4.heap.size=B at *
 go_loopw [6,7] (fun v i wr=>∃ j:Nat,j≤16∧i=.int .i64 (j:Int)∧wr.ownsRow B 22 1 v j (rowH (dg E) j)∧OwnN wr g5 16 Q∧IsA wr w.heap.size 0 23∧B≤wr.heap.size∧Below w.heap.size w wr) (fun _ i _=>16-(Go.RowKit.intOf i).toNat)
 case atStart=>exact⟨0,by omega,rfl,World.ownsRow_nil _ _ _ _,HO5.out,XR4.out,by omega,XB4.out⟩
 case round =>
  obtain⟨j,hj,rfl,hown,hoq,rr,hBw,rb⟩:=hrel
  clear HO5 XR4 XB4 hBB
  have hbs:=rb.size
  have hlr:=lt_blk rr
  by_cases hlt:j<16
  ·have q1:(j:Int)<16:=by omega
   have q2:(0:Int)≤(j:Int):=by omega
   obtain⟨cj,_⟩:=arr_get hoq.1 (rowH_get (dg Q) 16 j (by omega))
   have hd:=HD.out j
   have hx:=dg_lt Q j
   have hy:=dg_lt Q (j+1)
   have HOW:=Lib.hid hown
   have HOQ:=Lib.hid hoq
   have RR:=Lib.hid rr
   have RB:=Lib.hid rb
   by_cases hj1:j+1<16
   ·have q3:(j:Int)+1<16:=by omega
    obtain⟨cj1,_⟩:=arr_get hoq.1 (rowH_get (dg Q) 16 (j+1) hj1)
    have HS:Hid (rowH (dg E) (j+1)=rowH (dg E) j++[.int .u64 (dg E j:Int)]):=rowH_snoc _ _
    obtain⟨x,hxx⟩:∃ x,dg Q j=x:=⟨_,rfl⟩
    obtain⟨y,hyy⟩:∃ y,dg Q (j+1)=y:=⟨_,rfl⟩
    obtain⟨e,hee⟩:∃ e,dg E j=e:=⟨_,rfl⟩
    rw[hxx] at cj hd hx
    rw[hyy] at cj1 hd hy
    rw[hee] at hd HS
    have hv:((x:Int)/2+(y:Int)*32768%65536)=(e:Int):=by omega
    have HV:=Lib.hid hv
    clear hown hoq rr rb hd hxx hyy hee hv
    go_wp2_with (at_builtin;refine wpList_append_own _ (by rfl) (.tmp 48) (.tmp 50) 95 (by rfl) B 22 i0 (.int .u64 0) 1 8 Tryz.underlying95 hi hz0 hz1 hz2 rfl (by decide) _ j _ (by simp[Act.eval];rfl) (by exact HOW.out.alloc _) ⟨wr.heap.size,0,none⟩ 1 1 [.int .u64 ((x:Int)/2+(y:Int)*32768%65536)] (by simp[Act.eval]) rfl (by exact news_new wr #[_] _) (by simp[Value.oneCell']) (by unfold maxLen;omega) (by omega) (by simp;omega) ?_;intro v2 w2 hown2 hgrow2 _)
    go_roundw
    case rel =>
     have hq:∀ q,q<B→q<wr.heap.size→(some q:Option Nat)≠Value.ownBlock _:=fun q h1 _ e=>absurd (HOW.out.lt q e.symm).1 (by omega)
     refine⟨j+1,by omega,congrArg (Value.int .i64) (by omega),?_,?_,?_,by have:=hgrow2.size;rw[alloc_size1] at this;omega,?_⟩
     ·rw[HS.out,← HV.out];exact hown2
     ·exact⟨(hgrow2.block g5 (by rw[alloc_size1];have:=lt_blk HOQ.out.1;omega) (hq g5 (by omega) (lt_blk HOQ.out.1))).trans (alloc_keep HOQ.out.1 _),HOQ.out.2⟩
     ·exact (RR.out.alloc _).grown hgrow2 (hq w.heap.size (by omega) (by omega))
     ·exact (b_alloc RB.out _).grown hgrow2 (by rw[alloc_size1];omega) (fun q h=>by have:=(HOW.out.lt q h).1;omega)
    case measure =>
     simp[Go.RowKit.intOf]
     omega
   ·have q3:¬ (j:Int)+1<16:=by omega
    have HS:Hid (rowH (dg E) (j+1)=rowH (dg E) j++[.int .u64 (dg E j:Int)]):=rowH_snoc _ _
    obtain⟨x,hxx⟩:∃ x,dg Q j=x:=⟨_,rfl⟩
    obtain⟨y,hyy⟩:∃ y,dg Q (j+1)=y:=⟨_,rfl⟩
    obtain⟨e,hee⟩:∃ e,dg E j=e:=⟨_,rfl⟩
    rw[hxx] at cj hd hx
    rw[hyy] at hd hy
    rw[hee] at hd HS
    have hy0:y=0:=by rw[← hyy];exact dg_out hQB (by omega)
    have hv:((x:Int)/2)=(e:Int):=by omega
    have HV:=Lib.hid hv
    clear hown hoq rr rb hd hxx hyy hee hv hy0
    go_wp2_with (at_builtin;refine wpList_append_own _ (by rfl) (.tmp 48) (.tmp 50) 95 (by rfl) B 22 i0 (.int .u64 0) 1 8 Tryz.underlying95 hi hz0 hz1 hz2 rfl (by decide) _ j _ (by simp[Act.eval];rfl) (by exact HOW.out.alloc _) ⟨wr.heap.size,0,none⟩ 1 1 [.int .u64 ((x:Int)/2)] (by simp[Act.eval]) rfl (by exact news_new wr #[_] _) (by simp[Value.oneCell']) (by unfold maxLen;omega) (by omega) (by simp;omega) ?_;intro v2 w2 hown2 hgrow2 _)
    go_roundw
    case rel =>
     have hq:∀ q,q<B→q<wr.heap.size→(some q:Option Nat)≠Value.ownBlock _:=fun q h1 _ e=>absurd (HOW.out.lt q e.symm).1 (by omega)
     refine⟨j+1,by omega,congrArg (Value.int .i64) (by omega),?_,?_,?_,by have:=hgrow2.size;rw[alloc_size1] at this;omega,?_⟩
     ·rw[HS.out,← HV.out];exact hown2
     ·exact⟨(hgrow2.block g5 (by rw[alloc_size1];have:=lt_blk HOQ.out.1;omega) (hq g5 (by omega) (lt_blk HOQ.out.1))).trans (alloc_keep HOQ.out.1 _),HOQ.out.2⟩
     ·exact (RR.out.alloc _).grown hgrow2 (hq w.heap.size (by omega) (by omega))
     ·exact (b_alloc RB.out _).grown hgrow2 (by rw[alloc_size1];omega) (fun q h=>by have:=(HOW.out.lt q h).1;omega)
    case measure =>
     simp[Go.RowKit.intOf]
     omega
  ·obtain rfl:j=16:=by omega
   obtain⟨gv,cv,rfl,hv⟩:=own_isN16 hown HEL.out
   have HVN:=Lib.hid hv
   have RR:=Lib.hid rr
   have RB:=Lib.hid rb
   clear hown hoq rr rb hv HD
   go_wp2_with fail
   refine (KT.out gv cv wr HVN.out).mono ?_
   rintro e w5 ⟨rfl,hb5⟩
   have xr:=isA_zero' (RR.out.keep hb5)
   obtain⟨⟨d0,d1,d2,d3⟩,e0,e1,e2,e3⟩:=fourV xr
   have KLd:=Lib.hid (load_arr (isA_set (n:=E) xr))
   have BR:=Lib.hid (b_set4 (b_callsS hb5 RB.out (Nat.le_refl _)) (v0:=.int .u64 (wd E 0:Int)) (v1:=.int .u64 (wd E 1:Int)) (v2:=.int .u64 (wd E 2:Int)) (v3:=.int .u64 (wd E 3:Int)) (b:=w.heap.size) (Nat.le_refl _))
   clear xr RR RB hb5 HVN
   go_wp2_with fail
   exact bodyPost_ret (results_arr Tryz.results127 (by rfl) KLd.out) rfl ⟨rfl,BR.out⟩
set_option maxRecDepth 20000 in
set_option maxHeartbeats 8000000 in
theorem part_3_3 (w:World):Calls Tryz.prog 127 #[.int .i64 3,.int .i64 3] w fun e w'=>e=.returned (numV 7237005577332262213973186563042994240829374041602535252466099000494570602494)∧Below w.heap.size w w':=by
 obtain⟨i0,hi,hz0,hz1,hz2⟩:=info_parts sinfo64
 obtain⟨Q,hQ⟩:∃ Q,PN+3=Q:=⟨_,rfl⟩
 have hQB:Q<65536^16:=by rw[← hQ];decide +kernel
 have hE:Q/8=7237005577332262213973186563042994240829374041602535252466099000494570602494:=by rw[← hQ];decide +kernel
 have KA:=Lib.hid (fun g b w (ha:OwnN w g 16 PN) (hb:IsN w (some ⟨b,0,none⟩) 1 1 3)=>radd_any (some ⟨g,0,none⟩) (some ⟨b,0,none⟩) 16 16 1 1 PN 3 w (ha.is 16 (Nat.le_refl _)) hb (by omega) (by omega))
 rw[hQ] at KA
 have KP:=Lib.hid rpl_any
 have hEB:7237005577332262213973186563042994240829374041602535252466099000494570602494<B64^4:=by decide +kernel
 have KT:=Lib.hid (fun q ca w (h:IsN w (some ⟨q,0,none⟩) 16 ca 7237005577332262213973186563042994240829374041602535252466099000494570602494)=>rto0 (some ⟨q,0,none⟩) 16 ca 7237005577332262213973186563042994240829374041602535252466099000494570602494 w h hEB)
 have hEL:7237005577332262213973186563042994240829374041602535252466099000494570602494<65536^16:=by decide +kernel
 obtain⟨E,hEE⟩:∃ E,7237005577332262213973186563042994240829374041602535252466099000494570602494=E:=⟨_,rfl⟩
 rw[hEE] at KT hE hEL ⊢
 have HD:Hid (∀ i,dg E i=dg Q i/8+dg Q (i+1)*8192%65536):=fun i=>by
  rw[← hE]
  unfold dg
  rw[Nat.div_div_eq_div_mul,Nat.mul_comm 8,← Nat.div_div_eq_div_mul,Nat.pow_succ,← Nat.div_div_eq_div_mul]
  generalize Q/65536^i=M
  omega
 have HEL:=Lib.hid hEL
 generalize PN=p at *
 clear hQ hE hEE hEB hEL
 obtain⟨xr,xz,xB⟩:=z1_at 23 w
 simp only[numV_agg] at KT ⊢
 go_enter Tryz.func127,Tryz.ntmps127
 go_wp2_with fail
 change Calls _ _ _ (Z1 23 w) _
 generalize Z1 23 w=X at *
 refine (KP.out X).mono ?_
 rintro e w1 ⟨g1,rfl,ho1,hg1,hb1⟩
 have XR1:=Lib.hid ((xr.keep hb1).alloc (.cells #[.int .u64 3] 22))
 have XB1:=Lib.hid (b_alloc (b_callsS hb1 xB (Nat.le_refl _)) (.cells #[.int .u64 3] 22))
 have HO1:=Lib.hid (ho1.below ((Below.refl w1.heap.size w1).alloc (Nat.le_refl _) (.cells #[.int .u64 3] 22)))
 have HC1:=Lib.hid (alloc_new w1 (.cells #[.int .u64 3] 22))
 clear xr xB ho1 hb1 hg1
 go_wp2_with fail
 refine (KA.out g1 w1.heap.size _ HO1.out (one_limbs (m:=3) (by decide) HC1.out)).mono ?_
 rintro e w4 ⟨g4,rfl,ho4,hg4,hb4⟩
 have XR4:=Lib.hid (XR1.out.keep hb4)
 have XB4:=Lib.hid (b_callsS hb4 XB1.out (Nat.le_refl _))
 have HO4:Hid (OwnN w4 g4 17 Q):=ho4
 clear XR1 XB1 HO1 HC1 hb4 ho4 hg4 KA KP
 go_wp2_with fail
 have HO5:=HO4
 have hg5:g4<w4.heap.size:=lt_blk HO5.out.1
 generalize g4=g5 at *
 have hwB:w.heap.size<w4.heap.size:=lt_blk XR4.out
 clear HO4
 generalize hBB:w4.heap.size=B at *
 go_loopw [6,7] (fun v i wr=>∃ j:Nat,j≤16∧i=.int .i64 (j:Int)∧wr.ownsRow B 22 1 v j (rowH (dg E) j)∧OwnN wr g5 17 Q∧IsA wr w.heap.size 0 23∧B≤wr.heap.size∧Below w.heap.size w wr) (fun _ i _=>16-(Go.RowKit.intOf i).toNat)
 case atStart=>exact⟨0,by omega,rfl,World.ownsRow_nil _ _ _ _,HO5.out,XR4.out,by omega,XB4.out⟩
 case round =>
  obtain⟨j,hj,rfl,hown,hoq,rr,hBw,rb⟩:=hrel
  clear HO5 XR4 XB4 hBB
  have hbs:=rb.size
  have hlr:=lt_blk rr
  by_cases hlt:j<16
  ·have q1:(j:Int)<16:=by omega
   have q2:(0:Int)≤(j:Int):=by omega
   obtain⟨cj,_⟩:=arr_get hoq.1 (rowH_get (dg Q) 17 j (by omega))
   have hd:=HD.out j
   have hx:=dg_lt Q j
   have hy:=dg_lt Q (j+1)
   have HOW:=Lib.hid hown
   have HOQ:=Lib.hid hoq
   have RR:=Lib.hid rr
   have RB:=Lib.hid rb
   have q3:(j:Int)+1<17:=by omega
   obtain⟨cj1,_⟩:=arr_get hoq.1 (rowH_get (dg Q) 17 (j+1) (by omega))
   have HS:Hid (rowH (dg E) (j+1)=rowH (dg E) j++[.int .u64 (dg E j:Int)]):=rowH_snoc _ _
   obtain⟨x,hxx⟩:∃ x,dg Q j=x:=⟨_,rfl⟩
   obtain⟨y,hyy⟩:∃ y,dg Q (j+1)=y:=⟨_,rfl⟩
   obtain⟨e,hee⟩:∃ e,dg E j=e:=⟨_,rfl⟩
   rw[hxx] at cj hd hx
   rw[hyy] at cj1 hd hy
   rw[hee] at hd HS
   have hv:((x:Int)/8+(y:Int)*8192%65536)=(e:Int):=by omega
   have HV:=Lib.hid hv
   clear hown hoq rr rb hd hxx hyy hee hv
   go_wp2_with (at_builtin;refine wpList_append_own _ (by rfl) (.tmp 48) (.tmp 50) 95 (by rfl) B 22 i0 (.int .u64 0) 1 8 Tryz.underlying95 hi hz0 hz1 hz2 rfl (by decide) _ j _ (by simp[Act.eval];rfl) (by exact HOW.out.alloc _) ⟨wr.heap.size,0,none⟩ 1 1 [.int .u64 ((x:Int)/8+(y:Int)*8192%65536)] (by simp[Act.eval]) rfl (by exact news_new wr #[_] _) (by simp[Value.oneCell']) (by unfold maxLen;omega) (by omega) (by simp;omega) ?_;intro v2 w2 hown2 hgrow2 _)
   go_roundw
   case rel =>
    have hq:∀ q,q<B→q<wr.heap.size→(some q:Option Nat)≠Value.ownBlock _:=fun q h1 _ e=>absurd (HOW.out.lt q e.symm).1 (by omega)
    refine⟨j+1,by omega,congrArg (Value.int .i64) (by omega),?_,?_,?_,by have:=hgrow2.size;rw[alloc_size1] at this;omega,?_⟩
    ·rw[HS.out,← HV.out];exact hown2
    ·exact⟨(hgrow2.block g5 (by rw[alloc_size1];have:=lt_blk HOQ.out.1;omega) (hq g5 (by omega) (lt_blk HOQ.out.1))).trans (alloc_keep HOQ.out.1 _),HOQ.out.2⟩
    ·exact (RR.out.alloc _).grown hgrow2 (hq w.heap.size (by omega) (by omega))
    ·exact (b_alloc RB.out _).grown hgrow2 (by rw[alloc_size1];omega) (fun q h=>by have:=(HOW.out.lt q h).1;omega)
   case measure =>
    simp[Go.RowKit.intOf]
    omega
  ·obtain rfl:j=16:=by omega
   obtain⟨gv,cv,rfl,hv⟩:=own_isN16 hown HEL.out
   have HVN:=Lib.hid hv
   have RR:=Lib.hid rr
   have RB:=Lib.hid rb
   clear hown hoq rr rb hv HD
   go_wp2_with fail
   refine (KT.out gv cv wr HVN.out).mono ?_
   rintro e w5 ⟨rfl,hb5⟩
   have xr:=isA_zero' (RR.out.keep hb5)
   obtain⟨⟨d0,d1,d2,d3⟩,e0,e1,e2,e3⟩:=fourV xr
   have KLd:=Lib.hid (load_arr (isA_set (n:=E) xr))
   have BR:=Lib.hid (b_set4 (b_callsS hb5 RB.out (Nat.le_refl _)) (v0:=.int .u64 (wd E 0:Int)) (v1:=.int .u64 (wd E 1:Int)) (v2:=.int .u64 (wd E 2:Int)) (v3:=.int .u64 (wd E 3:Int)) (b:=w.heap.size) (Nat.le_refl _))
   clear xr RR RB hb5 HVN
   go_wp2_with fail
   exact bodyPost_ret (results_arr Tryz.results127 (by rfl) KLd.out) rfl ⟨rfl,BR.out⟩
set_option maxRecDepth 20000 in
set_option maxHeartbeats 8000000 in
theorem part_m1_2 (w:World):Calls Tryz.prog 127 #[.int .i64 (-1),.int .i64 2] w fun e w'=>e=.returned (numV 14474011154664524427946373126085988481658748083205070504932198000989141204987)∧Below w.heap.size w w':=by
 obtain⟨i0,hi,hz0,hz1,hz2⟩:=info_parts sinfo64
 obtain⟨Q,hQ⟩:∃ Q,PN-1=Q:=⟨_,rfl⟩
 have hQB:Q<65536^16:=by rw[← hQ];decide +kernel
 have hE:Q/4=14474011154664524427946373126085988481658748083205070504932198000989141204987:=by rw[← hQ];decide +kernel
 have KL:=Lib.hid (fun g b w (ha:OwnN w g 16 PN) (hb:w.cell? ⟨b,0,none⟩=some (.int .u64 (18446744073709551615:Int)))=>radd_loose g b 18446744073709551615 PN w (by decide) ha hb)
 have KD:=Lib.hid (fun g b w (ha:OwnN w g 16 PN) (hb:IsN w (some ⟨b,0,none⟩) 1 1 1)=>rsub_any (some ⟨g,0,none⟩) (some ⟨b,0,none⟩) 16 16 1 1 PN 1 w (ha.is 16 (Nat.le_refl _)) hb (by decide +kernel))
 rw[hQ] at KD
 have KP:=Lib.hid rpl_any
 have hEB:14474011154664524427946373126085988481658748083205070504932198000989141204987<B64^4:=by decide +kernel
 have KT:=Lib.hid (fun q ca w (h:IsN w (some ⟨q,0,none⟩) 16 ca 14474011154664524427946373126085988481658748083205070504932198000989141204987)=>rto0 (some ⟨q,0,none⟩) 16 ca 14474011154664524427946373126085988481658748083205070504932198000989141204987 w h hEB)
 have hEL:14474011154664524427946373126085988481658748083205070504932198000989141204987<65536^16:=by decide +kernel
 obtain⟨E,hEE⟩:∃ E,14474011154664524427946373126085988481658748083205070504932198000989141204987=E:=⟨_,rfl⟩
 rw[hEE] at KT hE hEL ⊢
 have HD:Hid (∀ i,dg E i=dg Q i/4+dg Q (i+1)*16384%65536):=fun i=>by
  rw[← hE]
  unfold dg
  rw[Nat.div_div_eq_div_mul,Nat.mul_comm 4,← Nat.div_div_eq_div_mul,Nat.pow_succ,← Nat.div_div_eq_div_mul]
  generalize Q/65536^i=M
  omega
 have HEL:=Lib.hid hEL
 generalize PN=p at *
 clear hQ hE hEE hEB hEL
 obtain⟨xr,xz,xB⟩:=z1_at 23 w
 simp only[numV_agg] at KT ⊢
 go_enter Tryz.func127,Tryz.ntmps127
 go_wp2_with fail
 change Calls _ _ _ (Z1 23 w) _
 generalize Z1 23 w=X at *
 refine (KP.out X).mono ?_
 rintro e w1 ⟨g1,rfl,ho1,hg1,hb1⟩
 have XR1:=Lib.hid ((xr.keep hb1).alloc (.cells #[.int .u64 18446744073709551615] 22))
 have XB1:=Lib.hid (b_alloc (b_callsS hb1 xB (Nat.le_refl _)) (.cells #[.int .u64 18446744073709551615] 22))
 have HO1:=Lib.hid (ho1.below ((Below.refl w1.heap.size w1).alloc (Nat.le_refl _) (.cells #[.int .u64 18446744073709551615] 22)))
 have HC1:=Lib.hid (alloc_new w1 (.cells #[.int .u64 18446744073709551615] 22))
 clear xr xB ho1 hb1 hg1
 go_wp2_with fail
 refine (KL.out g1 w1.heap.size _ HO1.out (one_cell HC1.out)).mono ?_
 rintro e w2 ⟨v2,rfl,hb2⟩
 have XR2:=Lib.hid (XR1.out.keep hb2)
 have XB2:=Lib.hid (b_callsS hb2 XB1.out (Nat.le_refl _))
 clear XR1 XB1 HO1 HC1 hb2 KL
 go_wp2_with fail
 refine (KP.out w2).mono ?_
 rintro e w3 ⟨g3,rfl,ho3,hg3,hb3⟩
 have XR3:=Lib.hid ((XR2.out.keep hb3).alloc (.cells #[.int .u64 1] 22))
 have XB3:=Lib.hid (b_alloc (b_callsS hb3 XB2.out (Nat.le_refl _)) (.cells #[.int .u64 1] 22))
 have HO3:=Lib.hid (ho3.below ((Below.refl w3.heap.size w3).alloc (Nat.le_refl _) (.cells #[.int .u64 1] 22)))
 have HC3:=Lib.hid (one_limbs (m:=1) (by decide) (alloc_new w3 (.cells #[.int .u64 1] 22)))
 clear XR2 XB2 ho3 hb3 hg3
 go_wp2_with fail
 refine (KD.out g3 w3.heap.size _ HO3.out HC3.out).mono ?_
 rintro e w4 ⟨rfl,ho4,hb4⟩
 have XR4:=Lib.hid (XR3.out.keep hb4)
 have XB4:=Lib.hid (b_callsS hb4 XB3.out (Nat.le_refl _))
 have HO4:=Lib.hid ho4
 clear XR3 XB3 HO3 HC3 hb4 ho4 KD KP
 go_wp2_with fail
 have HO5:Hid (OwnN w4 (w3.heap.size+1) 16 Q):=by
  have h:=HO4.out
  rw[alloc_size1] at h
  exact h
 have hg5:w3.heap.size+1<w4.heap.size:=lt_blk HO5.out.1
 generalize w3.heap.size+1=g5 at *
 have hwB:w.heap.size<w4.heap.size:=lt_blk XR4.out
 clear HO4
 generalize hBB:w4.heap.size=B at *
 go_loopw [6,7] (fun v i wr=>∃ j:Nat,j≤16∧i=.int .i64 (j:Int)∧wr.ownsRow B 22 1 v j (rowH (dg E) j)∧OwnN wr g5 16 Q∧IsA wr w.heap.size 0 23∧B≤wr.heap.size∧Below w.heap.size w wr) (fun _ i _=>16-(Go.RowKit.intOf i).toNat)
 case atStart=>exact⟨0,by omega,rfl,World.ownsRow_nil _ _ _ _,HO5.out,XR4.out,by omega,XB4.out⟩
 case round =>
  obtain⟨j,hj,rfl,hown,hoq,rr,hBw,rb⟩:=hrel
  clear HO5 XR4 XB4 hBB
  have hbs:=rb.size
  have hlr:=lt_blk rr
  by_cases hlt:j<16
  ·have q1:(j:Int)<16:=by omega
   have q2:(0:Int)≤(j:Int):=by omega
   obtain⟨cj,_⟩:=arr_get hoq.1 (rowH_get (dg Q) 16 j (by omega))
   have hd:=HD.out j
   have hx:=dg_lt Q j
   have hy:=dg_lt Q (j+1)
   have HOW:=Lib.hid hown
   have HOQ:=Lib.hid hoq
   have RR:=Lib.hid rr
   have RB:=Lib.hid rb
   by_cases hj1:j+1<16
   ·have q3:(j:Int)+1<16:=by omega
    obtain⟨cj1,_⟩:=arr_get hoq.1 (rowH_get (dg Q) 16 (j+1) hj1)
    have HS:Hid (rowH (dg E) (j+1)=rowH (dg E) j++[.int .u64 (dg E j:Int)]):=rowH_snoc _ _
    obtain⟨x,hxx⟩:∃ x,dg Q j=x:=⟨_,rfl⟩
    obtain⟨y,hyy⟩:∃ y,dg Q (j+1)=y:=⟨_,rfl⟩
    obtain⟨e,hee⟩:∃ e,dg E j=e:=⟨_,rfl⟩
    rw[hxx] at cj hd hx
    rw[hyy] at cj1 hd hy
    rw[hee] at hd HS
    have hv:((x:Int)/4+(y:Int)*16384%65536)=(e:Int):=by omega
    have HV:=Lib.hid hv
    clear hown hoq rr rb hd hxx hyy hee hv
    go_wp2_with (at_builtin;refine wpList_append_own _ (by rfl) (.tmp 48) (.tmp 50) 95 (by rfl) B 22 i0 (.int .u64 0) 1 8 Tryz.underlying95 hi hz0 hz1 hz2 rfl (by decide) _ j _ (by simp[Act.eval];rfl) (by exact HOW.out.alloc _) ⟨wr.heap.size,0,none⟩ 1 1 [.int .u64 ((x:Int)/4+(y:Int)*16384%65536)] (by simp[Act.eval]) rfl (by exact news_new wr #[_] _) (by simp[Value.oneCell']) (by unfold maxLen;omega) (by omega) (by simp;omega) ?_;intro v2 w2 hown2 hgrow2 _)
    go_roundw
    case rel =>
     have hq:∀ q,q<B→q<wr.heap.size→(some q:Option Nat)≠Value.ownBlock _:=fun q h1 _ e=>absurd (HOW.out.lt q e.symm).1 (by omega)
     refine⟨j+1,by omega,congrArg (Value.int .i64) (by omega),?_,?_,?_,by have:=hgrow2.size;rw[alloc_size1] at this;omega,?_⟩
     ·rw[HS.out,← HV.out];exact hown2
     ·exact⟨(hgrow2.block g5 (by rw[alloc_size1];have:=lt_blk HOQ.out.1;omega) (hq g5 (by omega) (lt_blk HOQ.out.1))).trans (alloc_keep HOQ.out.1 _),HOQ.out.2⟩
     ·exact (RR.out.alloc _).grown hgrow2 (hq w.heap.size (by omega) (by omega))
     ·exact (b_alloc RB.out _).grown hgrow2 (by rw[alloc_size1];omega) (fun q h=>by have:=(HOW.out.lt q h).1;omega)
    case measure =>
     simp[Go.RowKit.intOf]
     omega
   ·have q3:¬ (j:Int)+1<16:=by omega
    have HS:Hid (rowH (dg E) (j+1)=rowH (dg E) j++[.int .u64 (dg E j:Int)]):=rowH_snoc _ _
    obtain⟨x,hxx⟩:∃ x,dg Q j=x:=⟨_,rfl⟩
    obtain⟨y,hyy⟩:∃ y,dg Q (j+1)=y:=⟨_,rfl⟩
    obtain⟨e,hee⟩:∃ e,dg E j=e:=⟨_,rfl⟩
    rw[hxx] at cj hd hx
    rw[hyy] at hd hy
    rw[hee] at hd HS
    have hy0:y=0:=by rw[← hyy];exact dg_out hQB (by omega)
    have hv:((x:Int)/4)=(e:Int):=by omega
    have HV:=Lib.hid hv
    clear hown hoq rr rb hd hxx hyy hee hv hy0
    go_wp2_with (at_builtin;refine wpList_append_own _ (by rfl) (.tmp 48) (.tmp 50) 95 (by rfl) B 22 i0 (.int .u64 0) 1 8 Tryz.underlying95 hi hz0 hz1 hz2 rfl (by decide) _ j _ (by simp[Act.eval];rfl) (by exact HOW.out.alloc _) ⟨wr.heap.size,0,none⟩ 1 1 [.int .u64 ((x:Int)/4)] (by simp[Act.eval]) rfl (by exact news_new wr #[_] _) (by simp[Value.oneCell']) (by unfold maxLen;omega) (by omega) (by simp;omega) ?_;intro v2 w2 hown2 hgrow2 _)
    go_roundw
    case rel =>
     have hq:∀ q,q<B→q<wr.heap.size→(some q:Option Nat)≠Value.ownBlock _:=fun q h1 _ e=>absurd (HOW.out.lt q e.symm).1 (by omega)
     refine⟨j+1,by omega,congrArg (Value.int .i64) (by omega),?_,?_,?_,by have:=hgrow2.size;rw[alloc_size1] at this;omega,?_⟩
     ·rw[HS.out,← HV.out];exact hown2
     ·exact⟨(hgrow2.block g5 (by rw[alloc_size1];have:=lt_blk HOQ.out.1;omega) (hq g5 (by omega) (lt_blk HOQ.out.1))).trans (alloc_keep HOQ.out.1 _),HOQ.out.2⟩
     ·exact (RR.out.alloc _).grown hgrow2 (hq w.heap.size (by omega) (by omega))
     ·exact (b_alloc RB.out _).grown hgrow2 (by rw[alloc_size1];omega) (fun q h=>by have:=(HOW.out.lt q h).1;omega)
    case measure =>
     simp[Go.RowKit.intOf]
     omega
  ·obtain rfl:j=16:=by omega
   obtain⟨gv,cv,rfl,hv⟩:=own_isN16 hown HEL.out
   have HVN:=Lib.hid hv
   have RR:=Lib.hid rr
   have RB:=Lib.hid rb
   clear hown hoq rr rb hv HD
   go_wp2_with fail
   refine (KT.out gv cv wr HVN.out).mono ?_
   rintro e w5 ⟨rfl,hb5⟩
   have xr:=isA_zero' (RR.out.keep hb5)
   obtain⟨⟨d0,d1,d2,d3⟩,e0,e1,e2,e3⟩:=fourV xr
   have KLd:=Lib.hid (load_arr (isA_set (n:=E) xr))
   have BR:=Lib.hid (b_set4 (b_callsS hb5 RB.out (Nat.le_refl _)) (v0:=.int .u64 (wd E 0:Int)) (v1:=.int .u64 (wd E 1:Int)) (v2:=.int .u64 (wd E 2:Int)) (v3:=.int .u64 (wd E 3:Int)) (b:=w.heap.size) (Nat.le_refl _))
   clear xr RR RB hb5 HVN
   go_wp2_with fail
   exact bodyPost_ret (results_arr Tryz.results127 (by rfl) KLd.out) rfl ⟨rfl,BR.out⟩
def E2:Nat:=(PN-1)/2
theorem E2_B:E2<B64^4:=by decide +kernel
theorem part_P2 (w:World):Calls Tryz.prog 127 #[.int .i64 (-2),.int .i64 0] w fun e w'=>e=.returned (numV P2)∧Below w.heap.size w w':=by
 have h:=part_m2 w
 rw[show 57896044618658097711785492504343953926634992332820282019728792003956564819947=P2 by decide +kernel] at h
 exact h
theorem part_E2 (w:World):Calls Tryz.prog 127 #[.int .i64 (-1),.int .i64 1] w fun e w'=>e=.returned (numV E2)∧Below w.heap.size w w':=by
 have h:=part_m1_1 w
 rw[show 28948022309329048855892746252171976963317496166410141009864396001978282409974=E2 by decide +kernel] at h
 exact h
theorem part_P3 (w:World):Calls Tryz.prog 127 #[.int .i64 3,.int .i64 3] w fun e w'=>e=.returned (numV P3)∧Below w.heap.size w w':=by
 have h:=part_3_3 w
 rw[show 7237005577332262213973186563042994240829374041602535252466099000494570602494=P3 by decide +kernel] at h
 exact h
theorem part_P4 (w:World):Calls Tryz.prog 127 #[.int .i64 (-1),.int .i64 2] w fun e w'=>e=.returned (numV P4)∧Below w.heap.size w w':=by
 have h:=part_m1_2 w
 rw[show 14474011154664524427946373126085988481658748083205070504932198000989141204987=P4 by decide +kernel] at h
 exact h
theorem rpow_iV (w:World):Calls Tryz.prog 126 #[numV 2,numV P4] w fun e w'=>e=.returned (numV iV)∧Below w.heap.size w w':=by
 have h:=rpow_any 2 P4 w (by decide +kernel) P4_B
 rw[pow_is 2 P4 iV p4_lt (by decide +kernel)] at h
 exact h
set_option maxHeartbeats 4000000 in
theorem rinv_any (a:Nat) (w:World) (ha:a<PN):Calls Tryz.prog 69 #[numV a] w fun e w'=>e=.returned (numV (a^P2%PN))∧Below w.heap.size w w':=by
 have KT:=Lib.hid part_P2
 have KP:=Lib.hid (fun w=>rpow_any a P2 w ha P2_B)
 obtain⟨R,hR⟩:∃ R,a^P2%PN=R:=⟨_,rfl⟩
 rw[hR] at KP ⊢
 obtain⟨q,hq⟩:∃ q,P2=q:=⟨_,rfl⟩
 rw[hq] at KT KP
 obtain⟨xa,xr,xz,xB⟩:=a2_at a 23 23 w
 simp only[numV_agg] at KT KP ⊢
 clear hR hq ha
 go_enter Tryz.func69,Tryz.ntmps69
 go_wp2_with fail
 change Code.wp _ _ _ _ (A2 a 23 23 w)
 generalize A2 a 23 23 w=X at *
 have hC:C4 X w.heap.size a:=cells4 xa
 have hCd:C4 X.drew w.heap.size a:=hC
 have XR:=Lib.hid xr
 have XBl:=xB
 have hne1:w.heap.size≠w.heap.size+1:=by omega
 clear xa xr xz xB
 go_region_held3 (fun w'=>w'.cell? ⟨w.heap.size,0,none⟩=some (.int .u64 (wd a 0:Int))∧w'.cell? ⟨w.heap.size,1,none⟩=some (.int .u64 (wd a 1:Int))∧w'.cell? ⟨w.heap.size,2,none⟩=some (.int .u64 (wd a 2:Int))∧w'.cell? ⟨w.heap.size,3,none⟩=some (.int .u64 (wd a 3:Int))) (first | (with_reducible exact hCd) | (focus ((repeat (first | (with_reducible assumption) | (with_reducible apply C4.alloc) | (with_reducible apply C4.drew) | (with_reducible apply C4.far) | (with_reducible apply C4.calls) | exact Nat.le_refl _ | omega | (simp;done)));done))) (first
  | (go_at_call 127;go_must (refine (KT.out _).mono ?_);rintro e w3 ⟨rfl,hb3⟩)
  | (go_at_call 126;go_must (refine (KP.out _).mono ?_);rintro e w4 ⟨rfl,hb4⟩
     have hbX:Below X.heap.size X w4:=b_callsS hb4 (b_callsS hb3 (b_drew (Below.refl _ _)) (Nat.le_refl _)) (Nat.le_refl _)
     have xr4:=isA_zero' (isA_calls hbX XR.out (Nat.le_refl _))
     obtain⟨⟨d0,d1,d2,d3⟩,e0,e1,e2,e3⟩:=fourV xr4))
 rename_i hH
 clear hH hC hCd
 have KL:=Lib.hid (load_arr (isA_set (n:=R) xr4))
 have BR:=Lib.hid (b_set4 (b_callsS hbX XBl (Nat.le_refl _)) (v0:=.int .u64 (wd R 0:Int)) (v1:=.int .u64 (wd R 1:Int)) (v2:=.int .u64 (wd R 2:Int)) (v3:=.int .u64 (wd R 3:Int)) (b:=w.heap.size+1) (by omega))
 go_wp2_with fail
 exact bodyPost_ret (results_arr Tryz.results69 (by rfl) KL.out) rfl ⟨rfl,BR.out⟩
end Go.Proofs.YtnaldciakclccaaGreat
