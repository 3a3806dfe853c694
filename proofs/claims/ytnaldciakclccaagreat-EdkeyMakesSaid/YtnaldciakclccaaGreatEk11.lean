/- The reference's P, p, fold (layer 19): contracts. The reference's Mod, and the law's El and is (layer 19): contracts. The reference's Small, Mul, Add, Sub (layer 19): contracts. The reference's Pow (layer 19): its contract. The reference's part (layer 19): p and a number, divided by a power of 2. -/
import Derived.Deep.OwnRows
import Derived.Test.YtnaldciakclccaaGreatEk10
import Derived.Test.YtnaldciakclccaaGreatEk07
namespace Go.Proofs.YtnaldciakclccaaGreat
set_option maxRecDepth 20000
set_option linter.unusedSimpArgs false
set_option linter.unusedVariables false
open Go.RowKit
theorem rp_any (w:World):Calls Tryz.prog 197 #[] w fun e w'=>e=.returned (numV PN)∧Below w.heap.size w w':=by
 have kl:=load_arr (W:=w.alloc (.cells (numL PN).toArray 23)) (b:=w.heap.size) (n:=PN) (alloc_new _ _)
 have e1:(numL PN).toArray=#[.int .u64 18446744073709551597,.int .u64 18446744073709551615,.int .u64 18446744073709551615,.int .u64 9223372036854775807]:=by
  have h:=num_PN
  unfold numV at h
  unfold numL
  injection h
 rw[e1,num_PN] at kl
 rw[num_PN]
 have KL:=Lib.hid kl
 clear kl e1
 go_enter Tryz.func197,Tryz.ntmps197
 go_wp2_with fail
 exact bodyPost_ret (results_arr Tryz.results197 (by rfl) KL.out) rfl ⟨rfl,gr_alloc (Below.refl _ _) _⟩
theorem rpl_any (w:World):Calls Tryz.prog 163 #[] w fun e w'=>∃ g,e=.returned (.slice (some ⟨g,0,none⟩) 16 16)∧OwnN w' g 16 PN∧w.heap.size≤g∧Below w.heap.size w w':=by
 have K1:=Lib.hid rp_any
 have K2:=Lib.hid (fun w=>rof_any PN w PN_B)
 generalize PN=p at K1 K2 ⊢
 simp only[numV_agg] at K1 K2
 go_enter Tryz.func163,Tryz.ntmps163
 go_wp2_with fail
 refine (K1.out _).mono ?_
 rintro e w1 ⟨rfl,hb1⟩
 go_wp2_with fail
 refine (K2.out _).mono ?_
 rintro e w2 ⟨g,rfl,ho,hg,hb2⟩
 have HO:=Lib.hid ho
 clear ho
 go_wp2_with fail
 go_ret
 exact⟨g,rfl,HO.out,Nat.le_trans hb1.size hg,hb1.trans (hb2.mono hb1.size)⟩
theorem B16_is:(65536:Nat)^16=B64^4:=by decide +kernel
/-- A number's next one, with what stands above 2^256 counted 38 times. -/
theorem great_mod (n:Nat):(n%65536^16+n/65536^16*38)%PN=n%PN:=by
 have h:=fold_mod (n/B64^4) (n%B64^4)
 rw[B16_is,Nat.add_comm,Nat.mul_comm _ 38,← h,Nat.mul_comm,Nat.div_add_mod]
theorem great_less (n:Nat) (h:65536^16≤n):n%65536^16+n/65536^16*38<n:=by
 have h1:=Nat.div_add_mod n (65536^16)
 have h2:0<n/65536^16:=Nat.div_pos h (by decide)
 have h3:n/65536^16*38<n/65536^16*65536^16:=Nat.mul_lt_mul_of_pos_left (by decide) h2
 rw[Nat.mul_comm] at h1
 omega
theorem rto0 (a:Option Addr) (la ca n:Nat) (w:World) (ha:IsN w a la ca n) (hn:n<B64^4) :
    Calls Tryz.prog 105 #[.slice a la ca,.int .i64 0] w fun e w'=>e=.returned (numV n)∧Below w.heap.size w w':=by
 have h:=rto_any a la ca n 0 w ha (by omega)
 rw[Nat.pow_zero,Nat.div_one,Nat.mod_eq_of_lt hn] at h
 exact h
/-- One limb in a block of its own. -/
theorem one_limb {W:World} {b:Nat} (h:W.heap[b]?=some (.cells #[.int .u64 38] 22 (0,0))):IsN W (some ⟨b,0,none⟩) 1 1 38:=by
 refine⟨by decide,by omega,.inr ⟨b,rfl,Nat.le_refl _,lt_blk h,fun i hi=>?_⟩⟩
 obtain rfl:i=0:=by omega
 simp[World.cell?,h]
 decide
set_option maxHeartbeats 8000000 in
theorem fold_any (g la ca n:Nat) (w:World) (h:IsN w (some ⟨g,0,none⟩) la ca n) (h16:16≤la) (hl:la≤60) :
    Calls Tryz.prog 125 #[.slice (some ⟨g,0,none⟩) la ca] w fun e w'=>e=.returned (numV (n%PN))∧Below w.heap.size w w':=by
 obtain⟨xr,xz,xB⟩:=z1_at 23 w
 have HN:=Lib.hid (And.intro (IsN_below h xB) (And.intro h16 hl))
 have HX:=Lib.hid (And.intro xr xB)
 obtain⟨R,hR⟩:∃ R,n%PN=R:=⟨_,rfl⟩
 have HR:=Lib.hid hR
 rw[hR]
 have KG:=Lib.hid great_any
 have KM:=Lib.hid rmulO_any
 have KA:=Lib.hid radd_any
 have KP:=Lib.hid rpl_any
 have KL:=Lib.hid rless_any
 have KS:=Lib.hid rsub_any
 have KT:=Lib.hid rto0
 simp only[numV_agg] at KT ⊢
 clear h xr xB h16 hl hR
 go_enter Tryz.func125,Tryz.ntmps125
 go_wp2_with fail
 change Code.wp _ _ _ _ (Z1 23 w)
 generalize Z1 23 w=X at *
 go_loopg [0] n (fun gk s0 wr=>∃ g la ca,s0=.slice (some ⟨g,0,none⟩) la ca∧IsN wr (some ⟨g,0,none⟩) la ca gk∧16≤la∧la≤60∧gk%PN=R∧IsA wr w.heap.size 0 23∧Below w.heap.size w wr)
 case atStart=>exact⟨g,la,ca,rfl,HN.out.1,HN.out.2.1,HN.out.2.2,HR.out,HX.out.1,HX.out.2⟩
 case round =>
  obtain⟨g,la,ca,rfl,hin,h16,hl,hm,rr,rb⟩:=hrel
  clear HN HX HR xz
  obtain⟨hca,hgl,_⟩:=IsN_cells hin (by omega)
  have hbs:=rb.size
  have KG1:=KG.out g la ca gk wr hin h16 (by omega)
  by_cases hgr:65536^16≤gk
  ·rw[decide_eq_true hgr] at KG1
   have la16:16<la:=by
    rcases Nat.lt_or_ge 16 la with h | h
    ·exact h
    ·have h1:=hin.1
     have h2:65536^la≤65536^16:=Nat.pow_le_pow_right (by decide) h
     omega
   have HG1:=Lib.hid KG1
   have HIN:=Lib.hid (And.intro hin (And.intro hm hgr))
   have RR:=Lib.hid rr
   have RB:=Lib.hid rb
   have i1:(16:Int)≤(la:Int):=by omega
   have i2:(16:Int)≤(ca:Int):=by omega
   have i3:(la:Int)≤(ca:Int):=by omega
   clear KG1 hin hm hgr rr rb
   go_wp2_with fail
   refine HG1.out.mono ?_
   rintro e w1 ⟨rfl,hb1⟩
   clear HG1
   have hs1:=hb1.size
   have HIN1:=Lib.hid (IsN_below HIN.out.1 hb1)
   have RR1:=Lib.hid (RR.out.keep hb1)
   have RB1:=Lib.hid (b_calls hb1 RB.out hbs)
   clear RR RB hb1
   have j1:(16:Int)<(ca:Int):=by omega
   have j2:¬ ca≤16:=by omega
   have j3:¬ ca=16:=by omega
   have HO:Hid (∀ W,Below w1.heap.size w1 W→IsO W g 16 (la-16) (gk/65536^16)):=fun W hW=>(IsO_high HIN1.out la16).below hW
   have HLo:Hid (∀ W,Below w1.heap.size w1 W→IsN W (some ⟨g,0,none⟩) 16 ca (gk%65536^16)):=fun W hW=>IsN_below (IsN_low HIN1.out h16) hW
   obtain⟨H,hH⟩:∃ H,gk/65536^16=H:=⟨_,rfl⟩
   obtain⟨lo,hlo⟩:∃ lo,gk%65536^16=lo:=⟨_,rfl⟩
   have hgm:=great_mod gk
   have hgl:=great_less gk HIN.out.2.2
   rw[hH] at HO hgm hgl
   rw[hlo] at HLo hgm hgl
   have HGM:=Lib.hid (And.intro (hgm.trans HIN.out.2.1) hgl)
   clear hH hlo hgm hgl
   go_wp2_with fail
   go_region_held3 (fun w'=>True) (first | (with_reducible exact trivial) | go_keep) (first
    | (go_at_call 110;(refine (KM.out g _ (la-16) _ 1 1 H 38 _ ?_ ?_ ?_ ?_ ?_ ?_).mono ?_);(focus (refine HO.out _ ?_;(repeat (first | (with_reducible exact Below.refl _ _) | (with_reducible apply b_alloc) | (with_reducible apply b_drew)));done));(focus (refine one_limb ?_;(first | (with_reducible exact alloc_new _ _) | (with_reducible exact drew_keep (alloc_new _ _)));done));(focus (omega;done));(focus (omega;done));(focus (omega;done));(focus (omega;done));rintro e w3 ⟨g3,rfl,ho3,hg3,hb3⟩)
    | (go_at_call 107;(refine (KA.out (some ⟨g,0,none⟩) (some ⟨g3,0,none⟩) 16 _ (la-16+1) (la-16+1) lo (H*38) _ ?_ ?_ ?_ ?_).mono ?_);(focus (refine HLo.out _ ?_;(repeat (first | (with_reducible assumption) | (with_reducible exact Below.refl _ _) | (with_reducible apply b_alloc) | (with_reducible apply b_drew) | (with_reducible apply b_callsS) | exact Nat.le_refl _ | (simp;done)));done));(focus (exact ho3.is _ (Nat.le_refl _);done));(focus (omega;done));(focus (omega;done));rintro e w4 ⟨g4,rfl,ho4,hg4,hb4⟩))
   rename_i hH
   clear hH
   have hb14:Below w1.heap.size w1 w4:=by
    (repeat (first | (with_reducible assumption) | (with_reducible exact Below.refl _ _) | (with_reducible apply b_alloc) | (with_reducible apply b_drew) | (with_reducible apply b_callsS) | exact Nat.le_refl _ | (simp;done)))
   have hm1:16≤max 16 (la-16+1)+1:=by have:=Nat.le_max_left 16 (la-16+1);omega
   have hm2:max 16 (la-16+1)+1≤60:=by have:=Nat.max_le.2 (And.intro (show 16≤59 by omega) (show la-16+1≤59 by omega));omega
   have HO4:=Lib.hid (And.intro (ho4.is _ (Nat.le_refl _)) (And.intro hm1 hm2))
   have RR4:=Lib.hid (isA_calls hb14 RR1.out (Nat.le_refl _))
   have RB4:=Lib.hid (b_callsS hb14 RB1.out (Nat.le_refl _))
   clear ho3 ho4 hb3 hb4 hb14 hm1 hm2 RR1 RB1 HO HLo
   generalize max 16 (la-16+1)+1=ml at *
   go_wp2_with fail
   go_roundg (lo+H*38)
   case rel=>exact⟨g4,ml,ml,rfl,HO4.out.1,HO4.out.2.1,HO4.out.2.2,HGM.out.1,RR4.out,RB4.out⟩
   case measure=>exact HGM.out.2
  ·rw[decide_eq_false hgr] at KG1
   have HG1:=Lib.hid KG1
   have HIN:=Lib.hid (And.intro hin (And.intro hm hgr))
   have RR:=Lib.hid rr
   have RB:=Lib.hid rb
   clear KG1 hin hm hgr rr rb
   go_wp2_with fail
   refine HG1.out.mono ?_
   rintro e w1 ⟨rfl,hb1⟩
   clear HG1
   go_wp2_with fail
   refine (KP.out _).mono ?_
   rintro e w2 ⟨gp,rfl,hop,hgp,hb2⟩
   have hb12:=b_callsS hb2 hb1 (Nat.le_refl _)
   have HIN2:=Lib.hid (IsN_below HIN.out.1 hb12)
   have RR2:=Lib.hid (RR.out.keep hb12)
   have RB2:=Lib.hid (b_callsS hb12 RB.out (Nat.le_refl _))
   have HOP:=Lib.hid hop
   have HM:=Lib.hid HIN.out.2
   clear RR RB hb1 hb2 hb12 hop hgp HIN
   go_wp2_with fail
   generalize w2=Z at *
   go_loopg [0] gk (fun gq s0 wr=>∃ g la ca,s0=.slice (some ⟨g,0,none⟩) la ca∧IsN wr (some ⟨g,0,none⟩) la ca gq∧16≤la∧gq<65536^16∧gq%PN=R∧OwnN wr gp 16 PN∧IsA wr w.heap.size 0 23∧Below w.heap.size w wr)
   case atStart=>exact⟨g,la,ca,rfl,HIN2.out,h16,by have:=HM.out.2;omega,HM.out.1,HOP.out,RR2.out,RB2.out⟩
   case round =>
    obtain⟨g',la',ca',rfl,hin,h16',hgq,hm,hop,rr,rb⟩:=hrel
    clear HIN2 RR2 RB2 HOP HM
    have hbs2:=rb.size
    have KL1:=KL.out (some ⟨g',0,none⟩) (some ⟨gp,0,none⟩) la' ca' 16 16 gk PN wr hin (hop.is 16 (Nat.le_refl _))
    by_cases hlt:gk<PN
    ·rw[decide_eq_true hlt] at KL1
     have HL1:=Lib.hid KL1
     have hE:gk=R:=by rw[← hm,Nat.mod_eq_of_lt hlt]
     have KT1:=fun w' (hw:IsN w' (some ⟨g',0,none⟩) la' ca' gk)=>KT.out (some ⟨g',0,none⟩) la' ca' gk w' hw (of_PN hlt)
     have HT1:=Lib.hid KT1
     have HIN:=Lib.hid hin
     have RR:=Lib.hid rr
     have RB:=Lib.hid rb
     have HE:=Lib.hid hE
     clear KL1 hin hop rr rb hm hgq hlt hE KT1
     go_wp2_with fail
     refine HL1.out.mono ?_
     rintro e w3 ⟨rfl,nq,rfl⟩
     clear HL1
     have bq:Below wr.heap.size wr (wr.drewN nq):=below_drewN1 (Below.refl _ _) nq
     have HIN3:=Lib.hid (IsN_below HIN.out bq)
     have RR3:=Lib.hid (RR.out.keep bq)
     have RB3:=Lib.hid (b_callsS bq RB.out (Nat.le_refl _))
     clear HIN RR RB bq
     go_wp2_with fail
     generalize wr.drewN nq=Z3 at *
     refine (HT1.out Z3 HIN3.out).mono ?_
     rintro e w4 ⟨rfl,hb4⟩
     have xr:=isA_zero' (RR3.out.keep hb4)
     obtain⟨⟨d0,d1,d2,d3⟩,e0,e1,e2,e3⟩:=fourV xr
     have KLd:=Lib.hid (load_arr (isA_set (n:=gk) xr))
     have BR:=Lib.hid (b_set4 (b_callsS hb4 RB3.out (Nat.le_refl _)) (v0:=.int .u64 (wd gk 0:Int)) (v1:=.int .u64 (wd gk 1:Int)) (v2:=.int .u64 (wd gk 2:Int)) (v3:=.int .u64 (wd gk 3:Int)) (b:=w.heap.size) (Nat.le_refl _))
     clear xr RR3 RB3 HIN3 hb4 HT1
     go_wp2_with fail
     exact bodyPost_ret (results_arr Tryz.results125 (by rfl) KLd.out) rfl ⟨by rw[← HE.out];rfl,BR.out⟩
    ·rw[decide_eq_false hlt] at KL1
     have HL1:=Lib.hid KL1
     have KS1:=fun w' (hw:IsN w' (some ⟨g',0,none⟩) la' ca' gk) (hp:OwnN w' gp 16 PN)=>KS.out (some ⟨g',0,none⟩) (some ⟨gp,0,none⟩) la' ca' 16 16 gk PN w' hw (hp.is 16 (Nat.le_refl _)) (Nat.le_of_not_lt hlt)
     have HS1:=Lib.hid KS1
     have hle:PN≤gk:=Nat.le_of_not_lt hlt
     have HIN:=Lib.hid (And.intro hin hop)
     have RR:=Lib.hid rr
     have RB:=Lib.hid rb
     have HE:=Lib.hid (And.intro hm (And.intro hgq hle))
     clear KL1 hin hop rr rb hm hgq hlt hle KS1
     go_wp2_with fail
     refine HL1.out.mono ?_
     rintro e w3 ⟨rfl,nq,rfl⟩
     clear HL1
     have bq:Below wr.heap.size wr (wr.drewN nq):=below_drewN1 (Below.refl _ _) nq
     have HIN3:=Lib.hid (And.intro (IsN_below HIN.out.1 bq) (HIN.out.2.below bq))
     have RR3:=Lib.hid (RR.out.keep bq)
     have RB3:=Lib.hid (b_callsS bq RB.out (Nat.le_refl _))
     clear HIN RR RB bq
     go_wp2_with fail
     generalize wr.drewN nq=Z3 at *
     refine (HS1.out Z3 HIN3.out.1 HIN3.out.2).mono ?_
     rintro e w4 ⟨rfl,ho4,hb4⟩
     have HO4:=Lib.hid (And.intro (ho4.is la' (Nat.le_refl _)) (HIN3.out.2.below hb4))
     have RR4:=Lib.hid (RR3.out.keep hb4)
     have RB4:=Lib.hid (b_callsS hb4 RB3.out (Nat.le_refl _))
     clear RR3 RB3 HIN3 hb4 HS1 ho4
     go_wp2_with fail
     go_roundg (gk-PN)
     case rel =>
      have h1:=HE.out
      refine⟨_,la',la',rfl,HO4.out.1,h16',by omega,?_,HO4.out.2,RR4.out,RB4.out⟩
      rw[← h1.1]
      exact (Nat.mod_eq_sub_mod h1.2.2).symm
     case measure =>
      have h1:=HE.out
      have h2:=PN_pos
      omega
theorem C8.far {w:World} {b n c m d:Nat} {v0 v1 v2 v3:Value} (h:C8 w b n c m) (h1:b≠d) (h2:c≠d):C8 ((((w.setCell ⟨d,0,none⟩ v0).setCell ⟨d,1,none⟩ v1).setCell ⟨d,2,none⟩ v2).setCell ⟨d,3,none⟩ v3) b n c m:=C8.of (h.left.far h1) (h.right.far h2)
def A3r (a b:Nat) (w:World):World:=((w.alloc (.cells #[.int .u64 (wd a 0:Int),.int .u64 (wd a 1:Int),.int .u64 (wd a 2:Int),.int .u64 (wd a 3:Int)] 23)).alloc (.cells #[.int .u64 (wd b 0:Int),.int .u64 (wd b 1:Int),.int .u64 (wd b 2:Int),.int .u64 (wd b 3:Int)] 23)).alloc (.cells #[.int .u64 0,.int .u64 0,.int .u64 0,.int .u64 0] 23)
theorem a3r_at (a b:Nat) (w:World):IsA (A3r a b w) w.heap.size a 23∧IsA (A3r a b w) (w.heap.size+1) b 23∧IsA (A3r a b w) (w.heap.size+1+1) 0 23∧(A3r a b w).heap.size=w.heap.size+3∧Below w.heap.size w (A3r a b w):=by
 unfold A3r
 refine⟨(isA_a1 w a _ _).alloc _,(alloc_keep (alloc_new1 w _ _) _:_),isA_zero (alloc_new2 w _ _ _),by simp,gr_alloc (gr_alloc (gr_alloc (Below.refl _ _) _) _) _⟩
theorem rsmallp_any (a:Nat) (w:World) (ha:a<18446744073709551616):Calls Tryz.prog 68 #[.int .u64 (a:Int)] w fun e w'=>e=.returned (numV a)∧Below w.heap.size w w':=by
 have hx:(numL a).toArray=#[.int .u64 (a:Int),.int .u64 0,.int .u64 0,.int .u64 0]:=numL_small a ha
 have kl:=load_arr (W:=w.alloc (.cells (numL a).toArray 23)) (b:=w.heap.size) (n:=a) (alloc_new _ _)
 rw[hx] at kl
 have KL:=Lib.hid kl
 clear kl hx
 go_enter Tryz.func68,Tryz.ntmps68
 go_wp2_with fail
 exact bodyPost_ret (results_arr Tryz.results68 (by rfl) KL.out) rfl ⟨rfl,gr_alloc (Below.refl _ _) _⟩
set_option maxHeartbeats 8000000 in
theorem rmulp_any (a b:Nat) (w:World) (ha:a<B64^4) (hb:b<B64^4) :
    Calls Tryz.prog 67 #[numV a,numV b] w fun e w'=>e=.returned (numV (a*b%PN))∧Below w.heap.size w w':=by
 have KOa:=Lib.hid (fun w=>rof_any a w ha)
 have KOb:=Lib.hid (fun w=>rof_any b w hb)
 have KM:=Lib.hid (fun g h w (h1:OwnN w g 16 a) (h2:OwnN w h 16 b)=>rmul_any g h 16 16 16 16 a b w (h1.is 16 (Nat.le_refl _)) (h2.is 16 (Nat.le_refl _)) (by omega) (by omega) (by omega) (by omega))
 have KF:=Lib.hid (fun g w (h:OwnN w g 32 (a*b))=>fold_any g 32 32 (a*b) w (h.is 32 (Nat.le_refl _)) (by omega) (by omega))
 obtain⟨R,hR⟩:∃ R,a*b%PN=R:=⟨_,rfl⟩
 have HR:=Lib.hid hR
 rw[hR]
 obtain⟨xa,xb,xr,xz,xB⟩:=a3r_at a b w
 simp only[numV_agg] at KOa KOb ⊢
 clear hR ha hb
 go_enter Tryz.func67,Tryz.ntmps67
 go_wp2_with fail
 change Code.wp _ _ _ _ (A3r a b w)
 generalize A3r a b w=X at *
 have hC:C8 X w.heap.size a (w.heap.size+1) b:=C8.of (cells4 xa) (cells4 xb)
 have hCd:C8 X.drew w.heap.size a (w.heap.size+1) b:=hC
 have XR:=Lib.hid xr
 have XBl:=xB
 have hxz:w.heap.size+3≤X.heap.size:=by omega
 have hne1:w.heap.size≠w.heap.size+1+1:=by omega
 have hne2:w.heap.size+1≠w.heap.size+1+1:=by omega
 clear xa xb xr xz xB
 go_region_held3 (fun w'=>w'.cell? ⟨w.heap.size,0,none⟩=some (.int .u64 (wd a 0:Int))∧w'.cell? ⟨w.heap.size,1,none⟩=some (.int .u64 (wd a 1:Int))∧w'.cell? ⟨w.heap.size,2,none⟩=some (.int .u64 (wd a 2:Int))∧w'.cell? ⟨w.heap.size,3,none⟩=some (.int .u64 (wd a 3:Int))∧w'.cell? ⟨w.heap.size+1,0,none⟩=some (.int .u64 (wd b 0:Int))∧w'.cell? ⟨w.heap.size+1,1,none⟩=some (.int .u64 (wd b 1:Int))∧w'.cell? ⟨w.heap.size+1,2,none⟩=some (.int .u64 (wd b 2:Int))∧w'.cell? ⟨w.heap.size+1,3,none⟩=some (.int .u64 (wd b 3:Int))) (first | (with_reducible exact hCd) | (focus ((repeat (first | (with_reducible assumption) | (with_reducible apply C8.alloc) | (with_reducible apply C8.drew) | (with_reducible apply C8.far) | (with_reducible apply C8.calls) | exact Nat.le_refl _ | omega | (simp;done)));done))) (first
  | (go_at_call_of 108 (Value.agg #[.int .u64 (wd a 0:Int),.int .u64 (wd a 1:Int),.int .u64 (wd a 2:Int),.int .u64 (wd a 3:Int)]);go_must (refine (KOa.out _).mono ?_);rintro e w3 ⟨g1,rfl,ho1,hg1,hb3⟩)
  | (go_at_call_of 108 (Value.agg #[.int .u64 (wd b 0:Int),.int .u64 (wd b 1:Int),.int .u64 (wd b 2:Int),.int .u64 (wd b 3:Int)]);go_must (refine (KOb.out _).mono ?_);rintro e w4 ⟨g2,rfl,ho2,hg2,hb4⟩)
  | (go_at_call 110;(refine (KM.out g1 g2 _ ?_ ?_).mono ?_);(focus (exact ho1.below hb4;done));(focus (exact ho2;done));rintro e w5 ⟨g3,rfl,ho3,hg3,hb5⟩)
  | (go_at_call 125;(refine (KF.out g3 _ ?_).mono ?_);(focus (exact ho3;done));rintro e wz ⟨rfl,hbz⟩;rw[HR.out,numV_agg]
     have xz0:IsA wz (w.heap.size+1+1) 0 23:=isA_calls (show Below X.heap.size X wz from by (repeat (first | (with_reducible assumption) | (with_reducible exact Below.refl _ _) | (with_reducible apply b_drew) | (with_reducible apply b_callsS) | exact Nat.le_refl _ | (simp;done)))) XR.out (Nat.le_refl _)
     have xz1:=isA_zero' xz0
     obtain⟨⟨d0,d1,d2,d3⟩,e0,e1,e2,e3⟩:=fourV xz1))
 rename_i hH
 clear hH hC hCd
 have hbX:Below X.heap.size X wz:=by
  (repeat (first | (with_reducible assumption) | (with_reducible exact Below.refl _ _) | (with_reducible apply b_drew) | (with_reducible apply b_callsS) | exact Nat.le_refl _ | (simp;done)))
 have KL:=Lib.hid (load_arr (isA_set (n:=R) xz0))
 have BR:=Lib.hid (b_set4 (b_callsS hbX XBl (Nat.le_refl _)) (v0:=.int .u64 (wd R 0:Int)) (v1:=.int .u64 (wd R 1:Int)) (v2:=.int .u64 (wd R 2:Int)) (v3:=.int .u64 (wd R 3:Int)) (b:=w.heap.size+1+1) (by omega))
 go_wp2_with fail
 exact bodyPost_ret (results_arr Tryz.results67 (by rfl) KL.out) rfl ⟨rfl,BR.out⟩
set_option maxHeartbeats 8000000 in
theorem raddp_any (a b:Nat) (w:World) (ha:a<B64^4) (hb:b<B64^4) :
    Calls Tryz.prog 128 #[numV a,numV b] w fun e w'=>e=.returned (numV ((a+b)%PN))∧Below w.heap.size w w':=by
 have KOa:=Lib.hid (fun w=>rof_any a w ha)
 have KOb:=Lib.hid (fun w=>rof_any b w hb)
 have KM:=Lib.hid (fun g h w (h1:OwnN w g 16 a) (h2:OwnN w h 16 b)=>radd_any (some ⟨g,0,none⟩) (some ⟨h,0,none⟩) 16 16 16 16 a b w (h1.is 16 (Nat.le_refl _)) (h2.is 16 (Nat.le_refl _)) (by omega) (by omega))
 have KF:=Lib.hid (fun g w (h:OwnN w g 17 (a+b))=>fold_any g 17 17 (a+b) w (h.is 17 (Nat.le_refl _)) (by omega) (by omega))
 obtain⟨R,hR⟩:∃ R,(a+b)%PN=R:=⟨_,rfl⟩
 have HR:=Lib.hid hR
 rw[hR]
 obtain⟨xa,xb,xr,xz,xB⟩:=a3r_at a b w
 simp only[numV_agg] at KOa KOb ⊢
 clear hR ha hb
 go_enter Tryz.func128,Tryz.ntmps128
 go_wp2_with fail
 change Code.wp _ _ _ _ (A3r a b w)
 generalize A3r a b w=X at *
 have hC:C8 X w.heap.size a (w.heap.size+1) b:=C8.of (cells4 xa) (cells4 xb)
 have hCd:C8 X.drew w.heap.size a (w.heap.size+1) b:=hC
 have XR:=Lib.hid xr
 have XBl:=xB
 have hxz:w.heap.size+3≤X.heap.size:=by omega
 have hne1:w.heap.size≠w.heap.size+1+1:=by omega
 have hne2:w.heap.size+1≠w.heap.size+1+1:=by omega
 clear xa xb xr xz xB
 go_region_held3 (fun w'=>w'.cell? ⟨w.heap.size,0,none⟩=some (.int .u64 (wd a 0:Int))∧w'.cell? ⟨w.heap.size,1,none⟩=some (.int .u64 (wd a 1:Int))∧w'.cell? ⟨w.heap.size,2,none⟩=some (.int .u64 (wd a 2:Int))∧w'.cell? ⟨w.heap.size,3,none⟩=some (.int .u64 (wd a 3:Int))∧w'.cell? ⟨w.heap.size+1,0,none⟩=some (.int .u64 (wd b 0:Int))∧w'.cell? ⟨w.heap.size+1,1,none⟩=some (.int .u64 (wd b 1:Int))∧w'.cell? ⟨w.heap.size+1,2,none⟩=some (.int .u64 (wd b 2:Int))∧w'.cell? ⟨w.heap.size+1,3,none⟩=some (.int .u64 (wd b 3:Int))) (first | (with_reducible exact hCd) | (focus ((repeat (first | (with_reducible assumption) | (with_reducible apply C8.alloc) | (with_reducible apply C8.drew) | (with_reducible apply C8.far) | (with_reducible apply C8.calls) | exact Nat.le_refl _ | omega | (simp;done)));done))) (first
  | (go_at_call_of 108 (Value.agg #[.int .u64 (wd a 0:Int),.int .u64 (wd a 1:Int),.int .u64 (wd a 2:Int),.int .u64 (wd a 3:Int)]);go_must (refine (KOa.out _).mono ?_);rintro e w3 ⟨g1,rfl,ho1,hg1,hb3⟩)
  | (go_at_call_of 108 (Value.agg #[.int .u64 (wd b 0:Int),.int .u64 (wd b 1:Int),.int .u64 (wd b 2:Int),.int .u64 (wd b 3:Int)]);go_must (refine (KOb.out _).mono ?_);rintro e w4 ⟨g2,rfl,ho2,hg2,hb4⟩)
  | (go_at_call 107;(refine (KM.out g1 g2 _ ?_ ?_).mono ?_);(focus (exact ho1.below hb4;done));(focus (exact ho2;done));rintro e w5 ⟨g3,rfl,ho3,hg3,hb5⟩)
  | (go_at_call 125;(refine (KF.out g3 _ ?_).mono ?_);(focus (exact ho3;done));rintro e wz ⟨rfl,hbz⟩;rw[HR.out,numV_agg]
     have xz0:IsA wz (w.heap.size+1+1) 0 23:=isA_calls (show Below X.heap.size X wz from by (repeat (first | (with_reducible assumption) | (with_reducible exact Below.refl _ _) | (with_reducible apply b_drew) | (with_reducible apply b_callsS) | exact Nat.le_refl _ | (simp;done)))) XR.out (Nat.le_refl _)
     have xz1:=isA_zero' xz0
     obtain⟨⟨d0,d1,d2,d3⟩,e0,e1,e2,e3⟩:=fourV xz1))
 rename_i hH
 clear hH hC hCd
 have hbX:Below X.heap.size X wz:=by
  (repeat (first | (with_reducible assumption) | (with_reducible exact Below.refl _ _) | (with_reducible apply b_drew) | (with_reducible apply b_callsS) | exact Nat.le_refl _ | (simp;done)))
 have KL:=Lib.hid (load_arr (isA_set (n:=R) xz0))
 have BR:=Lib.hid (b_set4 (b_callsS hbX XBl (Nat.le_refl _)) (v0:=.int .u64 (wd R 0:Int)) (v1:=.int .u64 (wd R 1:Int)) (v2:=.int .u64 (wd R 2:Int)) (v3:=.int .u64 (wd R 3:Int)) (b:=w.heap.size+1+1) (by omega))
 go_wp2_with fail
 exact bodyPost_ret (results_arr Tryz.results128 (by rfl) KL.out) rfl ⟨rfl,BR.out⟩
set_option maxHeartbeats 8000000 in
theorem rsubp_any (a b:Nat) (w:World) (ha:a<B64^4) (hb:b<B64^4) (hle:b≤a+PN) :
    Calls Tryz.prog 114 #[numV a,numV b] w fun e w'=>e=.returned (numV ((a+PN-b)%PN))∧Below w.heap.size w w':=by
 have KOa:=Lib.hid (fun w=>rof_any a w ha)
 have KOb:=Lib.hid (fun w=>rof_any b w hb)
 have KP:=Lib.hid rpl_any
 have KM:=Lib.hid (fun g h w (h1:OwnN w g 16 a) (h2:OwnN w h 16 PN)=>radd_any (some ⟨g,0,none⟩) (some ⟨h,0,none⟩) 16 16 16 16 a PN w (h1.is 16 (Nat.le_refl _)) (h2.is 16 (Nat.le_refl _)) (by omega) (by omega))
 have KD:=Lib.hid (fun g h w (h1:OwnN w g 17 (a+PN)) (h2:OwnN w h 16 b)=>rsub_any (some ⟨g,0,none⟩) (some ⟨h,0,none⟩) 17 17 16 16 (a+PN) b w (h1.is 17 (Nat.le_refl _)) (h2.is 16 (Nat.le_refl _)) hle)
 have KF:=Lib.hid (fun g w (h:OwnN w g 17 (a+PN-b))=>fold_any g 17 17 (a+PN-b) w (h.is 17 (Nat.le_refl _)) (by omega) (by omega))
 obtain⟨R,hR⟩:∃ R,(a+PN-b)%PN=R:=⟨_,rfl⟩
 have HR:=Lib.hid hR
 rw[hR]
 obtain⟨xa,xb,xr,xz,xB⟩:=a3r_at a b w
 simp only[numV_agg] at KOa KOb ⊢
 clear hR ha hb hle
 go_enter Tryz.func114,Tryz.ntmps114
 go_wp2_with fail
 change Code.wp _ _ _ _ (A3r a b w)
 generalize A3r a b w=X at *
 have hC:C8 X w.heap.size a (w.heap.size+1) b:=C8.of (cells4 xa) (cells4 xb)
 have hCd:C8 X.drew w.heap.size a (w.heap.size+1) b:=hC
 have XR:=Lib.hid xr
 have XBl:=xB
 have hxz:w.heap.size+3≤X.heap.size:=by omega
 have hne1:w.heap.size≠w.heap.size+1+1:=by omega
 have hne2:w.heap.size+1≠w.heap.size+1+1:=by omega
 clear xa xb xr xz xB
 go_region_held3 (fun w'=>w'.cell? ⟨w.heap.size,0,none⟩=some (.int .u64 (wd a 0:Int))∧w'.cell? ⟨w.heap.size,1,none⟩=some (.int .u64 (wd a 1:Int))∧w'.cell? ⟨w.heap.size,2,none⟩=some (.int .u64 (wd a 2:Int))∧w'.cell? ⟨w.heap.size,3,none⟩=some (.int .u64 (wd a 3:Int))∧w'.cell? ⟨w.heap.size+1,0,none⟩=some (.int .u64 (wd b 0:Int))∧w'.cell? ⟨w.heap.size+1,1,none⟩=some (.int .u64 (wd b 1:Int))∧w'.cell? ⟨w.heap.size+1,2,none⟩=some (.int .u64 (wd b 2:Int))∧w'.cell? ⟨w.heap.size+1,3,none⟩=some (.int .u64 (wd b 3:Int))) (first | (with_reducible exact hCd) | (focus ((repeat (first | (with_reducible assumption) | (with_reducible apply C8.alloc) | (with_reducible apply C8.drew) | (with_reducible apply C8.far) | (with_reducible apply C8.calls) | exact Nat.le_refl _ | omega | (simp;done)));done))) (first
  | (go_at_call_of 108 (Value.agg #[.int .u64 (wd a 0:Int),.int .u64 (wd a 1:Int),.int .u64 (wd a 2:Int),.int .u64 (wd a 3:Int)]);go_must (refine (KOa.out _).mono ?_);rintro e w3 ⟨g1,rfl,ho1,hg1,hb3⟩)
  | (go_at_call_of 108 (Value.agg #[.int .u64 (wd b 0:Int),.int .u64 (wd b 1:Int),.int .u64 (wd b 2:Int),.int .u64 (wd b 3:Int)]);go_must (refine (KOb.out _).mono ?_);rintro e w4 ⟨g2,rfl,ho2,hg2,hb4⟩)
  | (go_at_call 163;go_must (refine (KP.out _).mono ?_);rintro e w5 ⟨g3,rfl,ho3,hg3,hb5⟩)
  | (go_at_call 107;(refine (KM.out g1 g3 _ ?_ ?_).mono ?_);(focus (exact ho1.below hb5;done));(focus (exact ho3;done));rintro e w6 ⟨g4,rfl,ho4,hg4,hb6⟩)
  | (go_at_call 154;(refine (KD.out g4 g2 _ ?_ ?_).mono ?_);(focus (exact ho4.below hb4;done));(focus (exact ho2;done));rintro e w7 ⟨rfl,ho7,hb7⟩)
  | (go_at_call 125;(refine (KF.out _ _ ?_).mono ?_);(focus (exact ho7;done));rintro e wz ⟨rfl,hbz⟩;rw[HR.out,numV_agg]
     have xz0:IsA wz (w.heap.size+1+1) 0 23:=isA_calls (show Below X.heap.size X wz from by (repeat (first | (with_reducible assumption) | (with_reducible exact Below.refl _ _) | (with_reducible apply b_drew) | (with_reducible apply b_callsS) | exact Nat.le_refl _ | (simp;done)))) XR.out (Nat.le_refl _)
     have xz1:=isA_zero' xz0
     obtain⟨⟨d0,d1,d2,d3⟩,e0,e1,e2,e3⟩:=fourV xz1))
 rename_i hH
 clear hH hC hCd
 have hbX:Below X.heap.size X wz:=by
  (repeat (first | (with_reducible assumption) | (with_reducible exact Below.refl _ _) | (with_reducible apply b_drew) | (with_reducible apply b_callsS) | exact Nat.le_refl _ | (simp;done)))
 have KL:=Lib.hid (load_arr (isA_set (n:=R) xz0))
 have BR:=Lib.hid (b_set4 (b_callsS hbX XBl (Nat.le_refl _)) (v0:=.int .u64 (wd R 0:Int)) (v1:=.int .u64 (wd R 1:Int)) (v2:=.int .u64 (wd R 2:Int)) (v3:=.int .u64 (wd R 3:Int)) (b:=w.heap.size+1+1) (by omega))
 go_wp2_with fail
 exact bodyPost_ret (results_arr Tryz.results114 (by rfl) KL.out) rfl ⟨rfl,BR.out⟩
def outN (a k i:Nat):Nat:=a^(k%2^i)%PN
def sqN (a i:Nat):Nat:=a^(2^i)%PN
theorem outN_lt (a k i:Nat):outN a k i<PN:=Nat.mod_lt _ PN_pos
theorem sqN_lt (a i:Nat):sqN a i<PN:=Nat.mod_lt _ PN_pos
theorem sqN_next (a i:Nat):sqN a (i+1)=sqN a i*sqN a i%PN:=by
 unfold sqN
 rw[← Nat.mul_mod,← Nat.pow_add,Nat.pow_succ,Nat.mul_two]
theorem outN_next (a k i:Nat):outN a k (i+1)=if bitN k i=1 then outN a k i*sqN a i%PN else outN a k i:=by
 have h:k%2^(i+1)=k%2^i+2^i*bitN k i:=by
  unfold bitN
  rw[Nat.pow_succ,Nat.mod_mul]
 have hb:=bitN_lt k i
 unfold outN sqN
 rw[h]
 split
 ·rename_i hb1
  rw[hb1,Nat.mul_one,Nat.pow_add,← Nat.mul_mod]
 ·rename_i hb1
  have h0:bitN k i=0:=by omega
  rw[h0,Nat.mul_zero,Nat.add_zero]
theorem outN_0 (a k:Nat):outN a k 0=1:=by
 unfold outN
 rw[Nat.pow_zero,Nat.mod_one,Nat.pow_zero]
 decide +kernel
theorem sqN_0 (a:Nat) (ha:a<PN):sqN a 0=a:=by
 unfold sqN
 rw[Nat.pow_zero,Nat.pow_one,Nat.mod_eq_of_lt ha]
theorem OwnN.far {w:World} {b c len n:Nat} {v0 v1 v2 v3:Value} (h:OwnN w b len n) (hne:b≠c):OwnN ((((w.setCell ⟨c,0,none⟩ v0).setCell ⟨c,1,none⟩ v1).setCell ⟨c,2,none⟩ v2).setCell ⟨c,3,none⟩ v3) b len n:=⟨far_keep h.1 hne,h.2⟩
theorem far_heap {w:World} {b c:Nat} {v0 v1 v2 v3:Value} (hne:c≠b):((((w.setCell ⟨b,0,none⟩ v0).setCell ⟨b,1,none⟩ v1).setCell ⟨b,2,none⟩ v2).setCell ⟨b,3,none⟩ v3).heap[c]?=w.heap[c]?:=set4_far hne
theorem B256 (k:Nat) (hk:k<B64^4):k%2^256=k:=Nat.mod_eq_of_lt (by rw[show (2:Nat)^256=B64^4 by decide +kernel];exact hk)
set_option maxHeartbeats 8000000 in
theorem rpow_any (a k:Nat) (w:World) (ha:a<PN) (hk:k<B64^4):Calls Tryz.prog 126 #[numV a,numV k] w fun e w'=>e=.returned (numV (a^k%PN))∧Below w.heap.size w w':=by
 have KO:=Lib.hid (fun w=>rof_any k w hk)
 have KS:=Lib.hid (fun w=>rsmallp_any 1 w (by decide))
 obtain⟨c1,hc1⟩:∃ c1,c1=1:=⟨1,rfl⟩
 have KS:Hid (∀ w,Calls Tryz.prog 68 #[.int .u64 1] w fun e w'=>e=.returned (numV c1)∧Below w.heap.size w w'):=fun w=>by rw[hc1];exact KS.out w
 have KB:=Lib.hid (fun g i w (h:OwnN w g 16 k) (hi:i≤100000)=>rbit_any (some ⟨g,0,none⟩) 16 16 k i w (h.is 16 (Nat.le_refl _)) hi)
 have KM:=Lib.hid rmulp_any
 have hend:outN a k 256=a^k%PN:=by unfold outN;rw[B256 k hk]
 have H0:=Lib.hid (And.intro ((outN_0 a k).trans hc1.symm) (sqN_0 a ha))
 have HE:=Lib.hid hend
 rw[← hend]
 obtain⟨xa,xk,xr,xz,xB⟩:=a3r_at a k w
 simp only[numV_agg] at KO KS KM ⊢
 obtain⟨⟨p0,p1,p2,p3⟩,_⟩:=fourV xa
 obtain⟨⟨q0,q1,q2,q3⟩,_⟩:=fourV xk
 clear ha hk hc1 hend
 go_enter Tryz.func126,Tryz.ntmps126
 go_wp2_with fail
 change Calls _ _ _ (A3r a k w) _
 generalize A3r a k w=X at *
 refine (KO.out X).mono ?_
 rintro e w1 ⟨g,rfl,ho,hg,hb1⟩
 have XA:=Lib.hid (xa.keep hb1)
 have XR:=Lib.hid (xr.keep hb1)
 have XB:=Lib.hid (b_callsS hb1 xB (Nat.le_refl _))
 have HO:=Lib.hid ho
 have hgs:g<w1.heap.size:=lt_blk ho.1
 have hs1:w.heap.size+3≤w1.heap.size:=by have:=hb1.size;omega
 clear xa xk xr xB hb1 ho p0 p1 p2 p3 q0 q1 q2 q3 xz hg
 go_wp2_with fail
 refine (KS.out w1).mono ?_
 rintro e w2 ⟨rfl,hb2⟩
 have hs2:=hb2.size
 have xa2:=(XA.out.keep hb2).alloc (.cells #[.int .u64 (wd c1 0:Int),.int .u64 (wd c1 1:Int),.int .u64 (wd c1 2:Int),.int .u64 (wd c1 3:Int)] 23)
 have XR2:=Lib.hid ((XR.out.keep hb2).alloc (.cells #[.int .u64 (wd c1 0:Int),.int .u64 (wd c1 1:Int),.int .u64 (wd c1 2:Int),.int .u64 (wd c1 3:Int)] 23))
 have XB2:=Lib.hid (b_alloc (b_callsS hb2 XB.out (Nat.le_refl _)) (.cells #[.int .u64 (wd c1 0:Int),.int .u64 (wd c1 1:Int),.int .u64 (wd c1 2:Int),.int .u64 (wd c1 3:Int)] 23))
 have HO2:=Lib.hid ((HO.out.below hb2).below ((Below.refl w2.heap.size w2).alloc (Nat.le_refl _) (.cells #[.int .u64 (wd c1 0:Int),.int .u64 (wd c1 1:Int),.int .u64 (wd c1 2:Int),.int .u64 (wd c1 3:Int)] 23)))
 have N6:Hid (IsA (w2.alloc (.cells #[.int .u64 (wd c1 0:Int),.int .u64 (wd c1 1:Int),.int .u64 (wd c1 2:Int),.int .u64 (wd c1 3:Int)] 23)) w2.heap.size c1 23):=(alloc_new w2 _ :)
 have hz2:(w2.alloc (.cells #[.int .u64 (wd c1 0:Int),.int .u64 (wd c1 1:Int),.int .u64 (wd c1 2:Int),.int .u64 (wd c1 3:Int)] 23)).heap.size=w2.heap.size+1:=alloc_size1 _ _
 have hz2':w2.heap.size+1≤(w2.alloc (.cells #[.int .u64 (wd c1 0:Int),.int .u64 (wd c1 1:Int),.int .u64 (wd c1 2:Int),.int .u64 (wd c1 3:Int)] 23)).heap.size:=by omega
 obtain⟨⟨p0,p1,p2,p3⟩,_⟩:=fourV xa2
 clear hz2 XA XR XB HO hb2 xa2
 have hX3:Hid (IsA ((w2.alloc (.cells #[.int .u64 (wd c1 0:Int),.int .u64 (wd c1 1:Int),.int .u64 (wd c1 2:Int),.int .u64 (wd c1 3:Int)] 23)).alloc (.cells #[.int .u64 (wd a 0:Int),.int .u64 (wd a 1:Int),.int .u64 (wd a 2:Int),.int .u64 (wd a 3:Int)] 23)) (w2.alloc (.cells #[.int .u64 (wd c1 0:Int),.int .u64 (wd c1 1:Int),.int .u64 (wd c1 2:Int),.int .u64 (wd c1 3:Int)] 23)).heap.size a 23):=(alloc_new _ _ :)
 go_wp2_with fail
 have XR3:=Lib.hid (XR2.out.alloc (.cells #[.int .u64 (wd a 0:Int),.int .u64 (wd a 1:Int),.int .u64 (wd a 2:Int),.int .u64 (wd a 3:Int)] 23))
 have XB3:=Lib.hid (b_alloc XB2.out (.cells #[.int .u64 (wd a 0:Int),.int .u64 (wd a 1:Int),.int .u64 (wd a 2:Int),.int .u64 (wd a 3:Int)] 23))
 have HO3:=Lib.hid (HO2.out.below ((Below.refl (w2.alloc (.cells #[.int .u64 (wd c1 0:Int),.int .u64 (wd c1 1:Int),.int .u64 (wd c1 2:Int),.int .u64 (wd c1 3:Int)] 23)).heap.size _).alloc (Nat.le_refl _) (.cells #[.int .u64 (wd a 0:Int),.int .u64 (wd a 1:Int),.int .u64 (wd a 2:Int),.int .u64 (wd a 3:Int)] 23)))
 have N6b:=Lib.hid (N6.out.alloc (.cells #[.int .u64 (wd a 0:Int),.int .u64 (wd a 1:Int),.int .u64 (wd a 2:Int),.int .u64 (wd a 3:Int)] 23))
 have N7:Hid (IsA ((w2.alloc (.cells #[.int .u64 (wd c1 0:Int),.int .u64 (wd c1 1:Int),.int .u64 (wd c1 2:Int),.int .u64 (wd c1 3:Int)] 23)).alloc (.cells #[.int .u64 (wd a 0:Int),.int .u64 (wd a 1:Int),.int .u64 (wd a 2:Int),.int .u64 (wd a 3:Int)] 23)) (w2.heap.size+1) a 23):=by
  have h:=hX3.out
  rw[alloc_size1] at h
  exact h
 clear XR2 XB2 HO2 N6 hX3 p0 p1 p2 p3
 generalize (w2.alloc (.cells #[.int .u64 (wd c1 0:Int),.int .u64 (wd c1 1:Int),.int .u64 (wd c1 2:Int),.int .u64 (wd c1 3:Int)] 23)).alloc (.cells #[.int .u64 (wd a 0:Int),.int .u64 (wd a 1:Int),.int .u64 (wd a 2:Int),.int .u64 (wd a 3:Int)] 23)=V at *
 have hb6:w.heap.size+3≤w2.heap.size:=by omega
 have hgb:g<w2.heap.size:=by omega
 clear hz2'
 generalize w2.heap.size=b6 at *
 go_loopw [8] (fun i wr=>∃ j:Nat,j≤256∧i=.int .i64 (j:Int)∧IsA wr b6 (outN a k j) 23∧IsA wr (b6+1) (sqN a j) 23∧OwnN wr g 16 k∧g<b6∧IsA wr (w.heap.size+1+1) 0 23∧Below w.heap.size w wr) (fun i _=>256-(Go.RowKit.intOf i).toNat)
 case atStart=>exact⟨0,by omega,rfl,by rw[H0.out.1];exact N6b.out,by rw[H0.out.2];exact N7.out,HO3.out,hgb,XR3.out,XB3.out⟩
 case round =>
  obtain⟨j,hj,rfl,r6,r7,hok,hgb,rr,rb⟩:=hrel
  clear N6b N7 HO3 XR3 XB3 H0 hgs hs2
  have hbs:=rb.size
  have hl7:=lt_blk r7
  by_cases hlt:j<256
  ·have q1:(j:Int)<256:=by omega
   have KB1:=Lib.hid (KB.out g j wr hok (by omega))
   have hnx:=outN_next a k j
   have hsx:=sqN_next a j
   have ho1:=outN_lt a k j
   have hs1':=sqN_lt a j
   have hb2:=bitN_lt k j
   have hbn:((k/2^j%2:Nat):Int)=(bitN k j:Int):=rfl
   rw[hbn] at KB1
   obtain⟨bt,hbt⟩:∃ bt,bitN k j=bt:=⟨_,rfl⟩
   rw[hbt] at KB1 hnx hb2
   obtain⟨O,hO⟩:∃ O,outN a k j=O:=⟨_,rfl⟩
   obtain⟨Q,hQ⟩:∃ Q,sqN a j=Q:=⟨_,rfl⟩
   rw[hO] at r6 hnx ho1
   rw[hQ] at r7 hnx hsx hs1'
   have KMO:=Lib.hid (fun w=>KM.out O Q w (of_PN ho1) (of_PN hs1'))
   have KMQ:=Lib.hid (fun w=>KM.out Q Q w (of_PN hs1') (of_PN hs1'))
   obtain⟨O2,hO2⟩:∃ O2,O*Q%PN=O2:=⟨_,rfl⟩
   obtain⟨Q2,hQ2⟩:∃ Q2,Q*Q%PN=Q2:=⟨_,rfl⟩
   rw[hO2] at KMO hnx
   rw[hQ2] at KMQ hsx
   have R6:=Lib.hid r6
   have R7:=Lib.hid r7
   have HOK:=Lib.hid hok
   have RR:=Lib.hid rr
   have RB:=Lib.hid rb
   have HNX:=Lib.hid hnx
   have HSX:=Lib.hid hsx
   clear hbn hbt hO hQ hO2 hQ2 r6 r7 hok rr rb hnx hsx ho1 hs1'
   go_wp2_with fail
   refine KB1.out.mono ?_
   rintro e w3 ⟨rfl,rfl⟩
   clear KB1
   by_cases h1:bt=1
   ·have b1:(bt:Int)=1:=by omega
    rw[b1]
    have hN:=HNX.out
    rw[if_pos h1] at hN
    have HN:=Lib.hid hN
    clear b1 h1 hN HNX hb2
    obtain⟨⟨p0,p1,p2,p3⟩,_⟩:=fourV R6.out
    obtain⟨⟨q0,q1',q2,q3⟩,_⟩:=fourV R7.out
    go_wp2_with fail
    refine (KMO.out _).mono ?_
    rintro e w4 ⟨rfl,hb4⟩
    have hs4:=hb4.size
    have r6:=R6.out.keep hb4
    obtain⟨⟨d0,d1,d2,d3⟩,e0,e1,e2,e3⟩:=fourV r6
    have R6':=Lib.hid (isA_set (n:=O2) r6)
    have r7:=(R7.out.keep hb4).far (c:=b6) (v0:=.int .u64 (wd O2 0:Int)) (v1:=.int .u64 (wd O2 1:Int)) (v2:=.int .u64 (wd O2 2:Int)) (v3:=.int .u64 (wd O2 3:Int)) (by omega)
    have HOK':=Lib.hid ((HOK.out.below hb4).far (c:=b6) (v0:=.int .u64 (wd O2 0:Int)) (v1:=.int .u64 (wd O2 1:Int)) (v2:=.int .u64 (wd O2 2:Int)) (v3:=.int .u64 (wd O2 3:Int)) (by omega))
    have RR':=Lib.hid ((RR.out.keep hb4).far (c:=b6) (v0:=.int .u64 (wd O2 0:Int)) (v1:=.int .u64 (wd O2 1:Int)) (v2:=.int .u64 (wd O2 2:Int)) (v3:=.int .u64 (wd O2 3:Int)) (by omega))
    have RB':=Lib.hid (b_set4 (b_callsS hb4 RB.out (Nat.le_refl _)) (v0:=.int .u64 (wd O2 0:Int)) (v1:=.int .u64 (wd O2 1:Int)) (v2:=.int .u64 (wd O2 2:Int)) (v3:=.int .u64 (wd O2 3:Int)) (b:=b6) (by omega))
    have hZs:((((w4.setCell ⟨b6,0,none⟩ (.int .u64 (wd O2 0:Int))).setCell ⟨b6,1,none⟩ (.int .u64 (wd O2 1:Int))).setCell ⟨b6,2,none⟩ (.int .u64 (wd O2 2:Int))).setCell ⟨b6,3,none⟩ (.int .u64 (wd O2 3:Int))).heap.size=w4.heap.size:=by simp only[set_size]
    clear R6 R7 HOK RR RB r6 hb4 p0 p1 p2 p3 q0 q1' q2 q3
    have hf:b6+1≠b6:=by omega
    have r7w:=r7
    rw[IsA,far_heap hf] at r7w
    obtain⟨⟨c0,c1',c2,c3⟩,_⟩:=fourV r7w
    have R7':=Lib.hid r7
    clear r7 r7w
    go_wp2_with fail
    generalize (((w4.setCell ⟨b6,0,none⟩ (.int .u64 (wd O2 0:Int))).setCell ⟨b6,1,none⟩ (.int .u64 (wd O2 1:Int))).setCell ⟨b6,2,none⟩ (.int .u64 (wd O2 2:Int))).setCell ⟨b6,3,none⟩ (.int .u64 (wd O2 3:Int))=Z at *
    refine (KMQ.out Z).mono ?_
    rintro e w5 ⟨rfl,hb5⟩
    have hs5:=hb5.size
    have r7:=R7'.out.keep hb5
    clear d0 d1 d2 d3 e0 e1 e2 e3
    obtain⟨⟨d0,d1,d2,d3⟩,e0,e1,e2,e3⟩:=fourV r7
    have R7'':=Lib.hid (isA_set (n:=Q2) r7)
    have R6'':=Lib.hid ((R6'.out.keep hb5).far (c:=b6+1) (v0:=.int .u64 (wd Q2 0:Int)) (v1:=.int .u64 (wd Q2 1:Int)) (v2:=.int .u64 (wd Q2 2:Int)) (v3:=.int .u64 (wd Q2 3:Int)) (by omega))
    have HOK'':=Lib.hid ((HOK'.out.below hb5).far (c:=b6+1) (v0:=.int .u64 (wd Q2 0:Int)) (v1:=.int .u64 (wd Q2 1:Int)) (v2:=.int .u64 (wd Q2 2:Int)) (v3:=.int .u64 (wd Q2 3:Int)) (by omega))
    have RR'':=Lib.hid ((RR'.out.keep hb5).far (c:=b6+1) (v0:=.int .u64 (wd Q2 0:Int)) (v1:=.int .u64 (wd Q2 1:Int)) (v2:=.int .u64 (wd Q2 2:Int)) (v3:=.int .u64 (wd Q2 3:Int)) (by omega))
    have RB'':=Lib.hid (b_set4 (b_callsS hb5 RB'.out (Nat.le_refl _)) (v0:=.int .u64 (wd Q2 0:Int)) (v1:=.int .u64 (wd Q2 1:Int)) (v2:=.int .u64 (wd Q2 2:Int)) (v3:=.int .u64 (wd Q2 3:Int)) (b:=b6+1) (by omega))
    clear R6' R7' HOK' RR' RB' r7 hb5
    go_wp2_with fail
    go_roundw
    case rel=>exact⟨j+1,by omega,congrArg (Value.int .i64) (by omega),by rw[HN.out];exact R6''.out,by rw[HSX.out];exact R7''.out,HOK''.out,hgb,RR''.out,RB''.out⟩
    case measure =>
     simp[Go.RowKit.intOf]
     omega
   ·have b1:(bt:Int)=0:=by omega
    rw[b1]
    have hN:=HNX.out
    rw[if_neg h1] at hN
    have HN:=Lib.hid hN
    clear b1 h1 hN HNX hb2
    obtain⟨⟨q0,q1',q2,q3⟩,_⟩:=fourV R7.out
    go_wp2_with fail
    refine (KMQ.out _).mono ?_
    rintro e w5 ⟨rfl,hb5⟩
    have hs5:=hb5.size
    have r7:=R7.out.keep hb5
    obtain⟨⟨d0,d1,d2,d3⟩,e0,e1,e2,e3⟩:=fourV r7
    have R7'':=Lib.hid (isA_set (n:=Q2) r7)
    have R6'':=Lib.hid ((R6.out.keep hb5).far (c:=b6+1) (v0:=.int .u64 (wd Q2 0:Int)) (v1:=.int .u64 (wd Q2 1:Int)) (v2:=.int .u64 (wd Q2 2:Int)) (v3:=.int .u64 (wd Q2 3:Int)) (by omega))
    have HOK'':=Lib.hid ((HOK.out.below hb5).far (c:=b6+1) (v0:=.int .u64 (wd Q2 0:Int)) (v1:=.int .u64 (wd Q2 1:Int)) (v2:=.int .u64 (wd Q2 2:Int)) (v3:=.int .u64 (wd Q2 3:Int)) (by omega))
    have RR'':=Lib.hid ((RR.out.keep hb5).far (c:=b6+1) (v0:=.int .u64 (wd Q2 0:Int)) (v1:=.int .u64 (wd Q2 1:Int)) (v2:=.int .u64 (wd Q2 2:Int)) (v3:=.int .u64 (wd Q2 3:Int)) (by omega))
    have RB'':=Lib.hid (b_set4 (b_callsS hb5 RB.out (Nat.le_refl _)) (v0:=.int .u64 (wd Q2 0:Int)) (v1:=.int .u64 (wd Q2 1:Int)) (v2:=.int .u64 (wd Q2 2:Int)) (v3:=.int .u64 (wd Q2 3:Int)) (b:=b6+1) (by omega))
    clear R6 R7 HOK RR RB r7 hb5 q0 q1' q2 q3
    go_wp2_with fail
    go_roundw
    case rel=>exact⟨j+1,by omega,congrArg (Value.int .i64) (by omega),by rw[HN.out];exact R6''.out,by rw[HSX.out];exact R7''.out,HOK''.out,hgb,RR''.out,RB''.out⟩
    case measure =>
     simp[Go.RowKit.intOf]
     omega
  ·obtain rfl:j=256:=by omega
   obtain⟨O,hO⟩:∃ O,outN a k 256=O:=⟨_,rfl⟩
   rw[hO] at r6
   have HO2:=Lib.hid hO
   have xr:=isA_zero' rr
   obtain⟨⟨p0,p1,p2,p3⟩,_⟩:=fourV r6
   obtain⟨⟨d0,d1,d2,d3⟩,e0,e1,e2,e3⟩:=fourV xr
   have KL:=Lib.hid (load_arr (isA_set (n:=O) xr))
   have BR:=Lib.hid (b_set4 rb (v0:=.int .u64 (wd O 0:Int)) (v1:=.int .u64 (wd O 1:Int)) (v2:=.int .u64 (wd O 2:Int)) (v3:=.int .u64 (wd O 3:Int)) (b:=w.heap.size+1+1) (by omega))
   clear hO r6 r7 hok rr rb xr
   go_wp2_with fail
   exact bodyPost_ret (results_arr Tryz.results126 (by rfl) KL.out) rfl ⟨by rw[HO2.out];rfl,BR.out⟩
theorem info_parts {P:Program} {t:TypeId} {z:Value} {s b:Nat} (h:(P.info? t).map (fun i=>(i.zero,i.size,i.bytes))=some (some z,s,b)):∃ i,P.info? t=some i∧i.zero=some z∧i.size=s∧i.bytes=b:=by
 cases hi:P.info? t with
 | none=>rw[hi] at h;cases h
 | some i =>
   rw[hi] at h
   simp at h
   exact⟨i,rfl,h.1,h.2.1,h.2.2⟩
theorem limb_raw (b k:Nat) (z:Nat) (w:World) (h:w.cell? ⟨b,0,none⟩=some (.int .u64 (z:Int))) (hk:k≤1000) :
    Calls Tryz.prog 153 #[.slice (some ⟨b,0,none⟩) 1 1,.int .i64 (k:Int)] w fun e w'=>e=.returned (.int .u64 ((if k=0 then z else 0:Nat):Int))∧w'=w:=by
 by_cases h0:k=0
 ·subst h0
  rw[if_pos rfl]
  go_enter Tryz.func153,Tryz.ntmps153
  go_wp2_with fail
  go_ret
  exact⟨rfl,rfl⟩
 ·rw[if_neg h0]
  have t0:¬ (k:Int)<0:=by omega
  have t1:(1:Int)≤(k:Int):=by omega
  go_enter Tryz.func153,Tryz.ntmps153
  go_wp2_with fail
  go_ret
  exact⟨rfl,rfl⟩
set_option maxHeartbeats 4000000 in
/-- The sum with a word that is no limb: it comes back, whatever it is. -/
theorem radd_loose (g b z n:Nat) (w:World) (hz:z<18446744073709551616) (ha:OwnN w g 16 n) (hb:w.cell? ⟨b,0,none⟩=some (.int .u64 (z:Int))) :
    Calls Tryz.prog 107 #[.slice (some ⟨g,0,none⟩) 16 16,.slice (some ⟨b,0,none⟩) 1 1] w fun e w'=>∃ v,e=.returned v∧Below w.heap.size w w':=by
 have HA:=Lib.hid (ha.is 16 (Nat.le_refl _))
 have HB:=Lib.hid hb
 have m1:=fun w=>make_limbs 17 (max (16:Int) 1+1) (by decide) (by omega) w
 clear ha hb
 go_enter Tryz.func107,Tryz.ntmps107
 go_wp2_with fail
 clear m1
 go_loopw [6,7] (fun o i wr=>∃ k o':Nat,∃ p:Nat→Nat,k≤17∧i=.int .i64 (k:Int)∧o=.int .u64 (o':Int)∧o'<18446744073709551616∧wr.heap[w.heap.size]?=some (.cells (rowH p 17).toArray 22 (0,0))∧Below w.heap.size w wr) (fun _ i _=>17-(intOf i).toNat)
 case atStart=>exact⟨0,0,fun _=>0,by omega,rfl,rfl,by omega,alloc_new _ _,gr_alloc (Below.refl _ _) _⟩
 case round =>
  obtain⟨k,o,p,hk,rfl,rfl,ho,y0,hbl⟩:=hrel
  by_cases hlt:k<17
  ·have q1:(k:Int)<17:=by omega
   have KA:=Lib.hid (limb_any (some ⟨g,0,none⟩) 16 16 n k wr (IsN_below HA.out hbl) (by omega))
   have KB:=Lib.hid (limb_raw b k z wr ((hbl.cell (cell_in HB.out)).trans HB.out) (by omega))
   have hx:=dg_lt n k
   have hy:(if k=0 then z else 0)<18446744073709551616:=by split <;> omega
   obtain⟨x,hxx⟩:∃ x,dg n k=x:=⟨_,rfl⟩
   obtain⟨y,hyy⟩:∃ y,(if k=0 then z else 0)=y:=⟨_,rfl⟩
   rw[hxx] at KA hx
   rw[hyy] at KB hy
   obtain⟨s1,hs1⟩:∃ s1,(x+y)%18446744073709551616=s1:=⟨_,rfl⟩
   obtain⟨s2,hs2⟩:∃ s2,(s1+o)%18446744073709551616=s2:=⟨_,rfl⟩
   have w1:IntKind.u64.wrap ((x:Int)+(y:Int))=(s1:Int):=by rw[IntKind.wrap_u64];omega
   have w2:IntKind.u64.wrap ((s1:Int)+(o:Int))=(s2:Int):=by rw[IntKind.wrap_u64];omega
   have b2:s2<18446744073709551616:=by omega
   obtain⟨c1,f1⟩:=arr_get y0 (rowH_get p _ k hlt)
   have HSET:=Lib.hid (arr_set (i:=k) y0 (.int .u64 ((s2%65536:Nat):Int)))
   clear hxx hyy hs1 hs2 y0
   go_wp2_with fail
   refine KA.out.mono ?_
   rintro e w' ⟨rfl,rfl⟩
   go_wp2_with fail
   refine KB.out.mono ?_
   rintro e w' ⟨rfl,rfl⟩
   go_wp2_with fail
   go_roundw
   case rel =>
    have e1:(s2:Int)%65536=((s2%65536:Nat):Int):=by omega
    have e2:(s2:Int)/65536=((s2/65536:Nat):Int):=by omega
    rw[e1,e2]
    refine⟨k+1,s2/65536,upd p k (s2%65536),by omega,by go_num,rfl,by omega,?_,hbl.setCell (p:=⟨w.heap.size,k,none⟩) (Nat.le_refl _) _⟩
    rw[← rowH_set];exact HSET.out
   case measure=>simp[intOf];omega
  ·obtain rfl:k=17:=by omega
   clear y0
   go_wp2_with fail
   go_ret
   exact⟨_,rfl,hbl⟩
end Go.Proofs.YtnaldciakclccaaGreat
