/- Lemmas of this proof. -/
import Derived.Test.YtnaldciakclccaaGreatEv22
import Derived.Test.YtnaldciakclccaaGreatEv23
import Derived.Test.YtnaldciakclccaaGreatEv24
import Derived.Test.YtnaldciakclccaaGreatEv14
import Derived.Test.YtnaldciakclccaaGreatEv21
import Derived.Test.YtnaldciakclccaaGreatEv01
namespace Go.Proofs.YtnaldciakclccaaGreat
set_option maxRecDepth 20000
set_option maxHeartbeats 8000000
set_option linter.unusedSimpArgs false
set_option linter.unusedVariables false
open Go.RowKit
theorem Jb (k:Nat):(Fc k).size=k:=by
 show (List.replicate k (0:UInt8)).toArray.size=k
 simp
theorem VZ (n e:Nat) (hn:n≤1099511627776) (he:8≤e):8*n/256^e=0:=by
 obtain⟨d,rfl⟩:∃ d,e=8+d:=⟨e-8,by omega⟩
 rw[Nat.pow_add,← Nat.div_div_eq_div_mul,Nat.div_eq_of_lt (show 8*n<256^8 by omega),Nat.zero_div]
theorem fS (n k:Nat):dk ((n:Int)*8) k=((8*n/256^k:Nat):Int):=by
 unfold dk
 rw[Int.natCast_ediv,show ((8*n:Nat):Int)=(n:Int)*8 by omega]
theorem ed (m:Nat):ofI ((m:Int)%256)=UInt8.ofNat (m%256):=by
 unfold ofI
 congr 1
theorem ZX (n z v:Nat) (hn:n≤1099511627776):(128::List.replicate z (0:UInt8))++(List.replicate v (0:UInt8)++Do ((n:Int)*8) 8)=(List.range (1+z+(v+8))).map fun k=>UInt8.ofNat (KJ n (1+z+(v+8)) k):=by
 have e:1+z+(v+8)=1+(z+v)+8:=by omega
 rw[e,List.range_add,List.range_add,List.map_append,List.map_append,List.map_map,List.map_map,← List.append_assoc]
 congr 1
 ·rw[show (List.range 1)=[0] from rfl]
  have h:(List.range (z+v)).map ((fun k=>UInt8.ofNat (KJ n (1+(z+v)+8) k)) ∘ fun x=>1+x)=List.replicate (z+v) 0:=by
   rw[List.eq_replicate_iff]
   refine⟨by simp,fun b hb=>?_⟩
   obtain⟨k,hk,rfl⟩:=List.mem_map.1 hb
   rw[List.mem_range] at hk
   simp only[Function.comp]
   unfold KJ
   rw[if_neg (by omega),VZ n _ hn (by omega)]
   rfl
  rw[h,← List.replicate_append_replicate]
  rfl
 ·rw[PZ]
  refine List.map_congr_left fun k hk=>?_
  rw[List.mem_range] at hk
  simp only[Function.comp]
  unfold KJ
  rw[if_neg (by omega),fS,ed,show 1+(z+v)+8-1-(1+(z+v)+k)=8-1-k by omega]
theorem Ve (n size width z v:Nat) (hn:n≤1099511627776) (hv:width=v+8) (hz:(size-(n+1+width)%size)%size=z):Pv z++(Fc v++⟨(Do ((n:Int)*8) 8).toArray⟩)=Gf n size width:=by
 have hL:M0 n size width=1+z+(v+8):=by unfold M0;rw[hz,hv]
 unfold Gf
 rw[hL,← ZX n z v hn]
 rfl
theorem dq (n size width:Nat) (w:World) (h1:n≤1099511627776) (h2:16≤size) (h3:size≤256) (h4:8≤width) (h5:width≤16) :
    Calls Tryz.prog 120 #[.int .i64 (n:Int),.int .i64 (size:Int),.int .i64 (width:Int)] w fun e w'=>e=.returned (.string (Gf n size width))∧Below w.heap.size w w':=by
 have i1:¬ (n:Int)<0:=by omega
 have i2:¬ (1099511627776:Int)<(n:Int):=by omega
 have i3:¬ (size:Int)<16:=by omega
 have i4:¬ (256:Int)<(size:Int):=by omega
 have i5:¬ (width:Int)<8:=by omega
 have i6:¬ (16:Int)<(width:Int):=by omega
 have i7:¬ (size:Int)=0:=by omega
 go_enter Tryz.func120,Tryz.ntmps120
 go_wp2_with fail
 go_loopw [7,8] (fun s i wr=>∃ k:Nat,k+8≤width∧i=.int .i64 ((k:Int)+8)∧s=.string (Fc k)∧Below w.heap.size w wr) (fun _ i _=>width-(intOf i).toNat)
 case atStart=>exact⟨0,by omega,rfl,rfl,Below.refl _ _⟩
 case round =>
  obtain⟨k,hk,rfl,rfl,hb⟩:=hrel
  by_cases hlt:k+8<width
  ·have p1:(k:Int)+8<(width:Int):=by omega
   have r1:IntKind.i64.wrap ((k:Int)+8+1)=(k:Int)+8+1:=IntWalk.i64_in _ (by omega)
   have kb:(convert 90 9 (.slice (some ⟨wr.heap.size,0,none⟩) 1 1)).run Tryz.prog (wr.alloc (.cells #[.int .u8 0] 5))=.ok (.string ⟨#[0]⟩) (wr.alloc (.cells #[.int .u8 0] 5)):=JM 0 (by omega) wr
   have HW:=Lh (hb.alloc hb.size (.cells #[.int .u8 0] 5))
   have s1:(Fc k).size=k:=Jb k
   have ka:Fc k++⟨#[0]⟩=Fc (k+1):=QA k
   have hk9:k≤8:=by omega
   clear hb
   go_wp2_with fail
   go_roundw
   case rel=>exact⟨k+1,by omega,congrArg (Value.int .i64) (by omega),rfl,HW.out⟩
   case measure =>
    simp[intOf]
    omega
  ·obtain rfl:width=k+8:=by omega
   go_wp2_with fail
   refine (LD ((n:Int)*8) 8 wr (by omega) (by omega) (by omega)).mono ?_
   rintro e w1 ⟨rfl,hb1⟩
   obtain⟨E,hE⟩:=exzb ((⟨(Do ((n:Int)*8) 8).toArray⟩:ByteArray))
   have sE:E.size=8:=by rw[← hE];exact DF ((n:Int)*8) 8
   rw[hE]
   have HE:=Lh hE
   clear hE
   have sk:(Fc k).size=k:=Jb k
   have hk9:k≤8:=by omega
   have kb:(convert 90 9 (.slice (some ⟨w1.heap.size,0,none⟩) 1 1)).run Tryz.prog (w1.alloc (.cells #[.int .u8 128] 5))=.ok (.string ⟨#[128]⟩) (w1.alloc (.cells #[.int .u8 128] 5)):=JM 128 (by omega) w1
   have HW:=Lh ((hb.trans (hb1.mono hb.size)).alloc (hb.trans (hb1.mono hb.size)).size (.cells #[.int .u8 128] 5))
   clear hb hb1
   go_wp2_with fail
   obtain⟨q,hq⟩:=exzb ((n+1+(k+8))%size)
   obtain⟨z,hz⟩:=exzb ((size-q)%size)
   have hz9:z<size:=by rw[← hz];exact Nat.mod_lt _ (by omega)
   have HQ:=Lh hq
   have HZ:=Lh hz
   clear hq hz kb
   go_loopw [9] (fun s wr=>∃ j:Nat,j≤z∧s=.string (Pv j)∧Below w.heap.size w wr) (fun s _=>match s with | .string b=>300-b.size | _=>0)
   case atStart=>exact⟨0,by omega,rfl,HW.out⟩
   case round =>
    clear HW
    obtain⟨j,hj,rfl,hb⟩:=hrel
    have hh:=Yk (n+1+(k+8)) size j q z (by omega) HQ.out HZ.out hj
    obtain⟨M,hM⟩:=exzb ((n+1+(k+8)+j)%size)
    rw[hM] at hh
    have sj:(Pv j).size=j+1:=NQ j
    have z1:(z:Int)<(size:Int):=by omega
    have j1:(j:Int)≤(z:Int):=by omega
    have r1:IntKind.i64.wrap ((n:Int)+((j:Int)+1))=(n:Int)+((j:Int)+1):=IntWalk.i64_in _ (by omega)
    have r2:IntKind.i64.wrap ((n:Int)+((j:Int)+1)+((k:Int)+8))=(n:Int)+((j:Int)+1)+((k:Int)+8):=IntWalk.i64_in _ (by omega)
    have t1:((n:Int)+((j:Int)+1)+((k:Int)+8)).tmod (size:Int)=(M:Int):=by
     rw[show (n:Int)+((j:Int)+1)+((k:Int)+8)=((n+1+(k+8)+j:Nat):Int) by omega,Int.tmod_eq_emod_of_nonneg (by omega),← Int.natCast_emod,hM]
    clear hM
    by_cases hjz:j=z
    ·have m0:M=0:=hh.2 hjz
     subst m0
     have HF:=Lh (Ve n size (k+8) z k h1 rfl (by rw[HQ.out,HZ.out]))
     have HJ:=Lh hjz
     clear hh hjz
     go_wp2_with fail
     have hf:=HF.out
     rw[HE.out,← HJ.out] at hf
     go_ret
     exact⟨congrArg (fun s=>Ending.returned (Value.string s)) hf,hb⟩
    ·have m0:¬ (M:Int)=0:=fun h=>hjz (hh.1 (by omega))
     have kb:(convert 90 9 (.slice (some ⟨wr.heap.size,0,none⟩) 1 1)).run Tryz.prog (wr.alloc (.cells #[.int .u8 0] 5))=.ok (.string ⟨#[0]⟩) (wr.alloc (.cells #[.int .u8 0] 5)):=JM 0 (by omega) wr
     have HW:=Lh (hb.alloc hb.size (.cells #[.int .u8 0] 5))
     have HA:=Lh (XQ j)
     have HS:=Lh (NQ (j+1))
     have HJ:=Lh (show j+1≤z by omega)
     clear hb hh hjz
     go_wp2_with fail
     go_roundw
     case rel=>exact⟨j+1,HJ.out,congrArg Value.string HA.out,HW.out⟩
     case measure =>
      show 300-(Pv j++⟨#[0]⟩).size<300-(Pv j).size
      rw[HA.out,HS.out,sj]
      have:=HJ.out
      omega
def CP (h k:List Nat) (bl:List (List UInt8)):List Nat:=bl.foldl (fun h b=>Fu h k (Bd ⟨b.toArray⟩ 16)) h
def FV (h:List Nat):List UInt8:=h.flatMap fun x:Nat=>Do (x:Int) 8
theorem I1 (h k:List Nat) (bl:List (List UInt8)) (b:List UInt8):CP h k (bl++[b])=Fu (CP h k bl) k (Bd ⟨b.toArray⟩ 16):=by simp[CP]
theorem UU (h:List Nat) (x:Nat):FV (h++[x])=FV h++Do (x:Int) 8:=by simp[FV]
theorem Jg:∀ h:List Nat,(FV h).length=8*h.length
 | []=>rfl
 | x::h=>by
   show (Do (x:Int) 8++FV h).length=_
   rw[List.length_append,DF,Jg h,List.length_cons]
   omega
theorem Xa (h k m:List Nat):(Fu h k m).length=8:=by simp[Fu]
theorem Xq (h k m:List Nat):∀ x ∈ Fu h k m,x<M64:=fun x hx=>by
 unfold Fu at hx
 obtain⟨i,_,rfl⟩:=List.mem_map.1 hx
 exact Nat.mod_lt _ (by decide)
theorem FT (h k:List Nat) (lh:h.length=8) (bh:∀ x ∈ h,x<M64) (bl:List (List UInt8)):(CP h k bl).length=8∧∀ x ∈ CP h k bl,x<M64:=by
 rcases bl.eq_nil_or_concat with rfl | ⟨t,b,rfl⟩
 ·exact⟨lh,bh⟩
 ·rw[List.concat_eq_append,I1]
  exact⟨Xa _ _ _,Xq _ _ _⟩
theorem Wx (a b:List UInt8):(⟨a.toArray⟩:ByteArray)++⟨b.toArray⟩=⟨(a++b).toArray⟩:=by
 apply ByteArray.ext
 simp
theorem QI (a b:List UInt8):Value.string ((⟨a.toArray⟩:ByteArray)++⟨b.toArray⟩)=Cd (a++b):=by rw[Wx];rfl
theorem GX (S:ByteArray):(⟨S.data.toList.toArray⟩:ByteArray)=S:=by
 apply ByteArray.ext
 simp
theorem J6 {w:World} {base n:Nat} {v:Value} {l:List (List UInt8)} (h:w.ownsRow base 9 1 v n (l.map Cd)) (h0:0<n) (hn:l.length=n) :
    ∃ g cap,v=.slice (some ⟨g,0,none⟩) n cap∧base≤g∧g<w.heap.size∧∀ i,i<n→w.cell? ⟨g,i,none⟩=some (Cd (l.getD i [])):=by
 obtain⟨hl,⟨_,h1⟩ | ⟨g,cap,cur,rfl,h1,h2,h3,h4,h5,h6⟩⟩:=h
 ·omega
 ·refine⟨g,cap,rfl,h1,?_,fun i hi=>?_⟩
  ·apply Nat.lt_of_not_le
   intro hle
   rw[Array.getElem?_eq_none hle] at h2
   simp at h2
  ·have hx:(cur.toList.take (n*1))[i]?=(l.map Cd)[i]?:=congrArg (fun l:List Value=>l[i]?) h6
   have hil:i<l.length:=by omega
   rw[List.getElem?_take,if_pos (by omega)] at hx
   have hc:w.cell? ⟨g,i,none⟩=cur.toList[i]?:=by simp[World.cell?,h2]
   rw[hc,hx]
   simp[hil]
theorem PH {w:World} {base:Nat} {v:Value} {l:List (List UInt8)} (h:w.ownsRow base 9 1 v 0 (l.map Cd)):∃ a cap,v=.slice a 0 cap:=by
 obtain⟨hl,⟨rfl,h1⟩ | ⟨g,cap,cur,rfl,h1⟩⟩:=h
 ·exact⟨none,0,rfl⟩
 ·exact⟨_,_,rfl⟩
theorem JR {α:Type} (l:List α) (d:α) (k:Nat) (h:k<l.length):l.take (k+1)=l.take k++[l.getD k d]:=by
 rw[List.take_succ_eq_append_getElem h,List.getD_eq_getElem?_getD,List.getElem?_eq_getElem h]
 rfl
theorem dd (x:Nat) (w:World) (hx:x<M64):Calls Tryz.prog 104 #[.int .u64 (x:Int),.int .i64 8] w fun e w'=>e=.returned (Cd (Do (x:Int) 8))∧Below w.heap.size w w' :=
 LD x 8 w (by omega) (by unfold M64 at hx;omega) (by omega)
theorem Oe (n:Nat):M0 n 128 16≤400:=by
 unfold M0
 omega
theorem WB (S:ByteArray) (hS:S.size≤4000) (gh ch gk ck:Nat) (h k:List Nat) (w:World) (lh:h.length=8) (lk:k.length=80) (bh:∀ x ∈ h,x<M64) (bk:∀ x ∈ k,x<M64) (wh:IsW w gh h) (wk:IsW w gk k) (hch:8≤ch) (hck:80≤ck) :
    Calls Tryz.prog 59 #[.string S,.slice (some ⟨gh,0,none⟩) 8 ch,.slice (some ⟨gk,0,none⟩) 80 ck] w fun e w'=>∃ bl q,DY 128 (S.data.toList++(Gf S.size 128 16).data.toList) bl q∧e=.returned (Cd (FV (CP h k bl)))∧Below w.heap.size w w':=by
 have hs9:(S.size:Int)≤4000:=by omega
 have KP:=Lh (fun w=>dq S.size 128 16 w (by omega) (by omega) (by omega) (by omega) (by omega))
 have hlen:(S.data.toList++(Gf S.size 128 16).data.toList).length≤10000:=by
  have h1:=Oe S.size
  have h2:(Gf S.size 128 16).data.toList.length=M0 S.size 128 16:=by unfold Gf;simp
  rw[List.length_append,h2]
  have h3:S.data.toList.length=S.size:=by simp
  omega
 have KC:=Lh (fun w=>a8 128 _ w (by omega) (by omega) hlen)
 have e1:Cd (S.data.toList++(Gf S.size 128 16).data.toList)=.string (S++Gf S.size 128 16):=by
  rw[← QI,GX,GX]
 rw[e1] at KC
 obtain⟨T,hT⟩:=exzb (S.data.toList++(Gf S.size 128 16).data.toList)
 rw[hT] at KC hlen ⊢
 obtain⟨PS,hPS⟩:=exzb (Gf S.size 128 16)
 rw[hPS] at KP KC
 have hpz:PS.size≤400:=by
  rw[← hPS,show (Gf S.size 128 16).size=M0 S.size 128 16 by show (Gf S.size 128 16).data.size=_;unfold Gf;simp]
  exact Oe _
 have hpi:(PS.size:Int)≤400:=by omega
 have HH:=Lh wh
 have HK:=Lh wk
 have HOK:=Lh (FT h k lh bh)
 have KST:=Lh (fun (s:ByteArray) (hs:s.size=128) (g c:Nat) (H:List Nat) (W:World) (lH:H.length=8) (bH:∀ x ∈ H,x<M64) (wH:IsW W g H) (wK:IsW W gk k) (hc:8≤c)=>Xo s hs g c gk ck H k W lH lk bH bk wH wK hc hck)
 clear hT hPS e1 wh wk lh lk bh bk hck
 go_enter Tryz.func59,Tryz.ntmps59
 go_wp2_with fail
 refine (KP.out _).mono ?_
 rintro e w1 ⟨rfl,hb1⟩
 go_wp2_with fail
 refine (KC.out _).mono ?_
 rintro e w2 ⟨v,bl,q,rfl,hown,hcut,hb2⟩
 have HC:=Lh hcut
 have HB2:=Lh (hb1.trans (hb2.mono hb1.size))
 have H2:=Lh ((HH.out.below hb1).below hb2)
 have K2:=Lh ((HK.out.below hb1).below hb2)
 have hbl:bl.length≤10000:=by
  have h1:=congrArg List.length hcut.1
  have h2:=GI (by omega) hcut.2.1
  rw[List.length_append] at h1
  omega
 have hbi:(bl.length:Int)≤10000:=by omega
 have HOW:=Lh hown
 obtain⟨va,vc,rfl⟩:∃ a c,v=.slice a bl.length c:=by
  by_cases h0:bl.length=0
  ·rw[h0] at hown ⊢
   exact PH hown
  ·obtain⟨g,c,h1,_⟩:=J6 hown (by omega) rfl
   exact⟨_,c,h1⟩
 clear hcut hb1 hb2 HH HK hown hlen KP KC
 go_wp2_with fail
 go_loopw [1,9] (fun v i wr=>∃ t:Nat,t≤bl.length∧i=.int .i64 (t:Int)∧(∃ g c,v=.slice (some ⟨g,0,none⟩) 8 c∧8≤c∧IsW wr g (CP h k (bl.take t)))∧Below w2.heap.size w2 wr) (fun _ i _=>bl.length-(Go.RowKit.intOf i).toNat)
 case atStart=>exact⟨0,by omega,rfl,⟨gh,ch,rfl,hch,H2.out⟩,Below.refl _ _⟩
 case round =>
  obtain⟨t,ht,rfl,⟨g,c,rfl,hc,hw⟩,hbe⟩:=hrel
  by_cases hlt:t<bl.length
  ·have p1:(t:Int)<(bl.length:Int):=by omega
   have HN:=Lh (JR bl [] t hlt)
   obtain⟨g0,c0,hv,_,hg0,hcell⟩:=J6 HOW.out (by omega) rfl
   cases hv
   have m0:wr.cell? ⟨g0,t,none⟩=some (Cd (bl.getD t [])):=(hbe.cell (p:=⟨g0,t,none⟩) hg0).trans (hcell t hlt)
   have hb64:(bl.getD t []).length=128:=by
    rw[List.getD_eq_getElem?_getD,List.getElem?_eq_getElem hlt]
    exact HC.out.2.1 _ (List.getElem_mem hlt)
   obtain⟨b,hb⟩:=exzb (bl.getD t [])
   rw[hb] at m0 hb64 HN
   have hok:=HOK.out (bl.take t)
   have KS:=Lh (KST.out ⟨b.toArray⟩ (by show b.toArray.size=128;simpa using hb64) g c (CP h k (bl.take t)) wr hok.1 hok.2 hw (K2.out.below hbe) hc)
   rw[← I1,← HN.out] at KS
   have HBE:=Lh hbe
   have sz:=hbe.size
   unfold Cd at m0
   clear hcell hb hb64 hok hw hbe HN
   go_wp2_with fail
   refine KS.out.mono ?_
   rintro e w3 ⟨v3,rfl,hown3,hb3⟩
   obtain⟨g3,c3,rfl,_,hc3,hw3⟩:=Ju hown3 (by omega) (HOK.out (bl.take (t+1))).1
   have HW3:=Lh hw3
   have HB3:=Lh (HBE.out.trans (hb3.mono HBE.out.size))
   clear hown3 hb3 hw3 m0 KS HBE
   go_wp2_with fail
   go_roundw
   case rel=>exact⟨t+1,by omega,congrArg (Value.int .i64) (by omega),⟨g3,c3,rfl,hc3,HW3.out⟩,HB3.out⟩
   case measure =>
    simp[Go.RowKit.intOf]
    omega
  ·obtain rfl:t=bl.length:=by omega
   have p1:¬ (bl.length:Int)<(bl.length:Int):=by omega
   have hall:bl.take bl.length=bl:=List.take_length
   rw[hall] at hw
   have hok:=HOK.out bl
   have hk:=HC.out
   have HBE:=Lh (HB2.out.trans (hbe.mono HB2.out.size))
   have HE:Hid (∃ bl' q',DY 128 T bl' q'∧FV (CP h k bl)=FV (CP h k bl')):=⟨bl,q,hk,rfl⟩
   have HW:=Lh hw
   obtain⟨H,hH⟩:=exzb (CP h k bl)
   rw[hH] at HW HE hok
   have HOK2:=Lh hok
   clear hall hw hok hk hbe hH HB2 H2 K2 HOW HC KST HOK
   go_wp2_with fail
   go_loopw [10,11] (fun o i wq=>∃ t:Nat,t≤8∧i=.int .i64 (t:Int)∧o=Cd (FV (H.take t))∧Below wr.heap.size wr wq) (fun _ i _=>8-(Go.RowKit.intOf i).toNat)
   case atStart=>exact⟨0,by omega,rfl,rfl,Below.refl _ _⟩
   case round =>
    obtain⟨t,ht,rfl,rfl,hbe⟩:=hrel
    by_cases hlt:t<8
    ·have p2:(t:Int)<8:=by omega
     have m0:=(HW.out.below hbe).2 t (by rw[HOK2.out.1];exact hlt)
     have hx:H.getD t 0<M64:=by
      have hl:t<H.length:=by rw[HOK2.out.1];exact hlt
      rw[List.getD_eq_getElem?_getD,List.getElem?_eq_getElem hl]
      exact HOK2.out.2 _ (List.getElem_mem hl)
     have HN:=Lh (JR H 0 t (by rw[HOK2.out.1];exact hlt))
     obtain⟨x,hxx⟩:=exzb (H.getD t 0)
     rw[hxx] at m0 hx HN
     have KPu:=Lh (fun w=>dd x w hx)
     have HBQ:=Lh hbe
     obtain⟨D,hD⟩:=exzb (FV (H.take t))
     have HD:Hid (FV (H.take (t+1))=D++Do (x:Int) 8):=by show _=_;rw[HN.out,UU,hD]
     have hDl:D.length≤64:=by rw[← hD,Jg,List.length_take];omega
     have hDi:(D.length:Int)≤64:=by omega
     rw[hD]
     obtain⟨R,hR⟩:=exzb (Do (x:Int) 8)
     rw[hR] at HD KPu
     have hRl:R.length=8:=by rw[← hR,DF]
     have hRi:(R.length:Int)=8:=by omega
     unfold Cd at KPu ⊢
     clear hbe hx hxx hD hR HN
     go_wp2_with fail
     refine (KPu.out _).mono ?_
     rintro e w5 ⟨rfl,hb5⟩
     have HB5:=Lh (HBQ.out.trans (hb5.mono HBQ.out.size))
     clear hb5 m0 KPu HBQ
     go_wp2_with fail
     go_roundw
     case rel=>exact⟨t+1,by omega,congrArg (Value.int .i64) (by omega),by rw[HD.out];exact QI D R,HB5.out⟩
     case measure =>
      simp[Go.RowKit.intOf]
      omega
    ·obtain rfl:t=8:=by omega
     have p2:¬ (8:Int)<8:=by omega
     have HT8:Hid (H.take 8=H):=List.take_of_length_le (by rw[HOK2.out.1];exact Nat.le_refl _)
     have HB6:=Lh (HBE.out.trans (hbe.mono HBE.out.size))
     clear hbe HBE HW
     go_wp2_with fail
     go_ret
     obtain⟨bl',q',h1,h2⟩:=HE.out
     exact⟨bl',⟨q',h1⟩,by rw[HT8.out,h2];rfl,HB6.out⟩
theorem FF:Bf.length=80∧∀ x ∈ Bf,x<M64:=by decide +kernel
theorem Cj:Bt.length=8∧∀ x ∈ Bt,x<M64:=by decide +kernel
theorem Rz (S:ByteArray) (hS:S.size≤4000) (w:World) :
    Calls Tryz.prog 21 #[.string S] w fun e w'=>∃ bl q,DY 128 (S.data.toList++(Gf S.size 128 16).data.toList) bl q∧e=.returned (Cd (FV (CP Bt Bf bl)))∧Below w.heap.size w w':=by
 go_enter Tryz.func21,Tryz.ntmps21
 go_wp2_with fail
 refine (RP _).mono ?_
 rintro e w1 ⟨v1,rfl,hown1,hb1⟩
 obtain⟨g1,c1,rfl,_,hc1,hw1⟩:=Ju hown1 (by omega) Cj.1
 clear hown1
 go_wp2_with fail
 refine (WS _).mono ?_
 rintro e w2 ⟨v2,rfl,hown2,hb2⟩
 obtain⟨g2,c2,rfl,_,hc2,hw2⟩:=Ju hown2 (by omega) FF.1
 have KO:=Lh (WB S hS g1 c1 g2 c2 Bt Bf w2 Cj.1 FF.1 Cj.2 FF.2 (hw1.below hb2) hw2 hc1 hc2)
 have HB:=Lh (hb1.trans (hb2.mono hb1.size))
 clear hown2 hw1 hw2 hb1 hb2
 go_wp2_with fail
 refine KO.out.mono ?_
 rintro e w3 ⟨bl,q,hcut,rfl,hb3⟩
 have HC:=Lh hcut
 have HB3:=Lh (HB.out.trans (hb3.mono HB.out.size))
 clear hcut hb3 KO HB
 go_wp2_with fail
 go_ret
 exact⟨bl,q,HC.out,rfl,HB3.out⟩
def Dl (w:World) (h g:Nat) (L:List UInt8):Prop :=
 h≠g∧∃ bl q,DY 128 L bl q∧w.heap[h]?=some (.cells (hrow g (CP Bt Bf bl) Bf).toArray 165 (0,0))∧Cx w g 128 q L.length
structure Two (w w':World) (h g:Nat):Prop where
 os:w'.os=w.os
 tape:w'.tape=w.tape
 output:w'.output=w.output
 size:w.heap.size≤w'.heap.size
 block:∀ i,i<w.heap.size→i≠h→i≠g→w'.heap[i]?=w.heap[i]?
theorem Two.trans {a b c:World} {h g:Nat} (x:Two a b h g) (y:Two b c h g):Two a c h g :=
 ⟨y.os.trans x.os,y.tape.trans x.tape,y.output.trans x.output,Nat.le_trans x.size y.size,fun i hi h1 h2=>(y.block i (Nat.lt_of_lt_of_le hi x.size) h1 h2).trans (x.block i hi h1 h2)⟩
theorem Two.of_below {a b:World} {h g:Nat} (x:Below a.heap.size a b):Two a b h g:=⟨x.os,x.tape,x.output,x.size,fun i hi _ _=>x.block i hi⟩
theorem Two.of_h {a b:World} {h g:Nat} (x:a.grownBy b (some h)):Two a b h g:=⟨x.os,x.tape,x.output,x.size,fun i hi h1 _=>x.block i hi (by simpa using h1)⟩
theorem Two.of_g {a b:World} {h g:Nat} (x:a.grownBy b (some g)):Two a b h g:=⟨x.os,x.tape,x.output,x.size,fun i hi _ h2=>x.block i hi (by simpa using h2)⟩
theorem Two.refl (w:World) (h g:Nat):Two w w h g:=⟨rfl,rfl,rfl,Nat.le_refl _,fun _ _ _ _=>rfl⟩
theorem Dl.lt {w:World} {h g:Nat} {L:List UInt8} (x:Dl w h g L):h<w.heap.size∧g<w.heap.size:=by
 obtain⟨_,bl,q,_,hh,hb⟩:=x
 exact⟨(Array.getElem?_eq_some_iff.1 hh).1,hb.lt⟩
theorem Dl.of {w w':World} {h g:Nat} {L:List UInt8} (x:Dl w h g L) (e1:w'.heap[h]?=w.heap[h]?) (e2:w'.heap[g]?=w.heap[g]?):Dl w' h g L:=by
 obtain⟨hne,bl,q,hc,hh,hb⟩:=x
 exact⟨hne,bl,q,hc,e1.trans hh,hb.of_block e2⟩
theorem Dl.below {w w':World} {h g:Nat} {L:List UInt8} (x:Dl w h g L) (b:Below w.heap.size w w'):Dl w' h g L :=
 x.of (b.block h x.lt.1) (b.block g x.lt.2)
theorem Vd (h k:List Nat) (a b:List (List UInt8)):CP h k (a++b)=CP (CP h k a) k b:=by unfold CP;rw[List.foldl_append]
theorem RM (h k:List Nat) (bl:List (List UInt8)) (j:Nat) (hj:j<bl.length):CP h k (bl.take (j+1))=Fu (CP h k (bl.take j)) k (Bd ⟨(bl.getD j []).toArray⟩ 16):=by
 rw[JR bl [] j hj,I1]
theorem YY {W:World} {base:Nat} {v:Value} {bl:List (List UInt8)} (h:W.ownsRow base 9 1 v bl.length (bl.map Cd)) :
    ∃ a cap,v=.slice a bl.length cap∧∀ i,i<bl.length→∃ g1,a=some ⟨g1,0,none⟩∧base≤g1∧g1<W.heap.size∧W.cell? ⟨g1,i,none⟩=some (Cd (bl.getD i [])):=by
 by_cases h0:bl.length=0
 ·rw[h0] at h
  obtain⟨a,cap,rfl⟩:=PH h
  exact⟨a,cap,by rw[h0],fun i hi=>by omega⟩
 ·obtain⟨g,cap,rfl,h1,h2,h3⟩:=J6 h (by omega) rfl
  exact⟨_,cap,rfl,fun i hi=>⟨g,rfl,h1,h2,h3 i hi⟩⟩
theorem Hc (h g cap:Nat) (a:Option Addr) (L:List UInt8) (ss:List (List UInt8)) (w:World) (hH:Dl w h g L)
    (hs:ss=[]∨∃ b off,a=some ⟨b,off,none⟩∧b≠h∧b≠g∧∀ i,(hi:i<ss.length)→w.cell? ⟨b,off+i,none⟩=some (Cd ss[i])) (hss:ss.length≤1000) (hn:L.length+ss.flatten.length≤1099511627776) :
    Calls Tryz.prog 89 #[.pointer (some ⟨h,0,none⟩),.slice a ss.length cap] w fun e w'=>e=.returned (.tuple #[])∧Dl w' h g (L++ss.flatten)∧Two w w' h g:=by
 have hlt:=hH.lt
 obtain⟨hne,bl0,q0,hc0,hh,hb⟩:=hH
 have hqlt:=hc0.2.2
 have KW:=Lh (Sz g 128 L.length cap a q0 ss w hb hqlt (by decide) (hs.imp id fun ⟨b,off,e,_,h2,h3⟩=>⟨b,off,e,h2,h3⟩) hss hn)
 obtain⟨c0,_⟩:=Af (i:=0) (v:=.pointer (some ⟨g,0,none⟩)) hh rfl
 have HH:=Lh hh
 have HC0:=Lh hc0
 have HLT:=Lh hlt
 have HN:=Lh hn
 have HQL:=Lh hqlt
 have HNE:=Lh hne
 clear hs hss hn hh hb hc0 hlt hqlt hne
 go_enter Tryz.func89,Tryz.ntmps89
 go_wp2_with fail
 refine KW.out.mono ?_
 rintro e w1 ⟨v,bl,q',rfl,hown,hcut,hbuf,hgr⟩
 have h1:=(hgr.block h HLT.out.1 (by simpa using HNE.out)).trans HH.out
 have hlen:bl.length≤1099511627776+128:=by
  have hf:=GI (by decide:0<128) hcut.2.1
  have e:=congrArg List.length hcut.1
  rw[List.length_append,List.length_append] at e
  have:=HN.out
  have:=HQL.out
  omega
 obtain⟨a2,cap2,rfl,hcell⟩:=YY hown
 obtain⟨S0,hS0⟩:=exzb (CP Bt Bf bl0)
 have hok:=FT Bt Bf Cj.1 Cj.2 bl0
 rw[hS0] at h1 hok
 have H1:=Lh h1
 have HS0:=Lh hS0
 have HOK:=Lh hok
 have HCU:=Lh hcut
 have HBU:=Lh hbuf
 have HGR:=Lh hgr
 have HCE:=Lh hcell
 have HLE:=Lh hlen
 clear h1 hS0 hok hcut hbuf hgr hcell hlen hown HH KW c0
 go_wp2_with fail
 go_loopw [16] (fun i W=>∃ j:Nat,j≤bl.length∧i=.int .i64 (j:Int)∧W.heap[h]?=some (.cells (hrow g (CP S0 Bf (bl.take j)) Bf).toArray 165 (0,0))∧w1.grownBy W (some h)) (fun i _=>bl.length-(intOf i).toNat)
 case atStart=>exact⟨0,by omega,rfl,H1.out,IW _ _⟩
 case round =>
  clear H1
  obtain⟨j,hj,rfl,rh,rg⟩:=hrel
  by_cases hlt:j<bl.length
  ·have p1:(j:Int)<(bl.length:Int):=by omega
   obtain⟨g1,rfl,hg1,hgl,hc⟩:=HCE.out j hlt
   have hgh:g1≠h:=by have:=HLT.out.1;omega
   have ck:wr.cell? ⟨g1,j,none⟩=some (Cd (bl.getD j [])):=by
    rw[← hc]
    exact World.cell?_of_block (w:=w1) (a:=⟨g1,j,none⟩) (rg.block g1 hgl (by simpa using hgh))
   have hBl:(bl.getD j []).length=128:=by
    rw[List.getD_eq_getElem?_getD,List.getElem?_eq_getElem hlt]
    exact HCU.out.2.1 _ (List.getElem_mem _)
   have hnx:=RM S0 Bf bl j hlt
   have hok2:=FT S0 Bf HOK.out.1 HOK.out.2 (bl.take j)
   obtain⟨B,hB⟩:∃ B:ByteArray,B=⟨(bl.getD j []).toArray⟩:=⟨_,rfl⟩
   have hBs:B.size=128:=by rw[hB];exact hBl
   rw[show Cd (bl.getD j [])=.string B by rw[hB];rfl] at ck
   rw[← hB] at hnx
   have KT:=Lh (U7 h g (CP S0 Bf (bl.take j)) Bf B wr rh hok2.1 FF.1 hok2.2 FF.2 hBs)
   rw[← hnx] at KT
   have RG:=Lh rg
   have HLJ:=Lh hlt
   have wj:IntKind.i64.wrap ((j:Int)+1)=(j:Int)+1:=by have:=HLE.out;rw[IntKind.wrap_i64];omega
   have lj:(j:Int)+1≤1099511627776+128:=by have:=HLE.out;omega
   clear rh rg hc hgh hBl hnx hok2 hB hBs hg1 hgl hlt hj
   go_wp2_with fail
   refine KT.out.mono ?_
   rintro e w2 ⟨rfl,eh,eg⟩
   have EH:=Lh eh
   have EG:=Lh (LB RG.out eg)
   clear eh eg KT RG ck
   go_wp2_with fail
   go_roundw
   case rel=>exact⟨j+1,HLJ.out,rfl,EH.out,EG.out⟩
   case measure =>
    have:=HLJ.out
    simp[intOf]
    omega
  ·have p1:¬ (j:Int)<(bl.length:Int):=by omega
   have hjl:j=bl.length:=by omega
   subst hjl
   rw[List.take_length] at rh
   have RH:=Lh rh
   have RG:=Lh rg
   clear rh rg hj hlt
   go_wp2_with fail
   first
    | refine bodyPost_end (results_none Tryz.results89 _ _ _) rfl ?_
    | refine bodyPost_ret (results_none Tryz.results89 _ _ _) rfl ?_
   have rh:=RH.out
   rw[← HS0.out,← Vd] at rh
   refine⟨rfl,⟨HNE.out,bl0++bl,q',HC0.out.next HCU.out,rh,?_⟩,(Two.of_g HGR.out).trans (Two.of_h RG.out)⟩
   rw[List.length_append]
   exact HBU.out.of_block (RG.out.block g (Nat.lt_of_lt_of_le HLT.out.2 HGR.out.size) (by simpa using Ne.symm HNE.out))
def Rl (b:UInt8):List UInt8:=[ofI (hexd ((b.toNat:Int)/16)),ofI (hexd ((b.toNat:Int)%16))]
def Ha (l:List UInt8):List UInt8:=l.flatMap Rl
theorem UN (x:Int) (x0:0≤x) (x1:x<16):48≤hexd x∧hexd x<103:=by unfold hexd;split <;> omega
theorem L2 (b:UInt8):[Value.int .u8 (hexd ((b.toNat:Int)/16)),Value.int .u8 (hexd ((b.toNat:Int)%16))]=(Rl b).map bc:=by
 obtain⟨b0,b1⟩:=Iq b
 have h1:=UN ((b.toNat:Int)/16) (by omega) (by omega)
 have h2:=UN ((b.toNat:Int)%16) (by omega) (by omega)
 unfold Rl
 rw[List.map_cons,List.map_cons,List.map_nil,LY _ (by omega) (by omega),LY _ (by omega) (by omega)]
theorem M7 {α:Type} (l:List UInt8) (f:UInt8→List α):((List.range l.length).flatMap fun k=>f (l.getD k 0))=l.flatMap f:=by
 have h:(List.range l.length).map (fun k=>l.getD k 0)=l:=by
  apply List.ext_getElem
  ·simp
  ·intro i h1 h2
   simp at h1
   simp[h1]
 rw[← List.flatMap_map,h]
theorem bd (s:ByteArray) (w:World) (hs:s.size≤100000) :
    Calls Tryz.prog 20 #[.string s] w fun e w'=>e=.returned (.string ⟨(Ha s.data.toList).toArray⟩)∧Below w.heap.size w w':=by
 have kb:=fun (w:World) (s:ByteArray)=>run_bytes_of_string (P:=Tryz.prog) w 9 90 5 s Tryz.underlying9 Tryz.underlying90 Tryz.underlying5
 have kg:=grownCap_ge w s.size 0 5
 go_enter Tryz.func20,Tryz.ntmps20
 go_wp2_with fail
 generalize grownCap w s.size 0 5=cap at kg ⊢
 have hsz:s.data.toList.length=s.size:=Array.length_toList
 refine (Su 2 (fun k=>(Rl (s.data.toList.getD k 0)).map bc) w.heap.size 0 s.size cap _ (fun i=>bc (s.data.toList.getD i 0)) _ (fun _=>rfl) (fun _=>by simp) kg hs (by omega)
  (by exact fun i hi=>by rw[Nat.zero_add];exact Kp w s cap _ _ i hi) ?_).mono ?_
 ·intro W v q xs k c hk hbase hown hcells hq
  obtain⟨b0,b1⟩:=Iq (s.data.toList.getD k 0)
  refine (ai v q xs _ w.heap.size (0+k) 1 c (s.data.toList.getD k 0).toNat W b0 b1 (by omega) hown (hcells 0 (by omega)) hq hbase (by simp)).mono ?_
  rintro e w' ⟨v',rfl,ho,hb⟩
  rw[L2] at ho
  exact⟨v',rfl,ho,hb⟩
 ·rintro e w1 ⟨v',rfl,ho,hb⟩
  have hL:(List.range s.size).flatMap (fun k=>(Rl (s.data.toList.getD k 0)).map bc)=(Ha s.data.toList).map bc:=by
   rw[← hsz,M7 s.data.toList (fun b=>(Rl b).map bc)]
   simp[Ha,List.map_flatMap]
  rw[hL] at ho
  have ks:=DH (P:=Tryz.prog) (t:=90) (ty:=9) Tryz.underlying90 Tryz.underlying5 Tryz.underlying9 ho
  clear kb hL
  go_wp2_with fail
  go_ret
  exact⟨rfl,GO (below_drewN (Al (Below.refl _ _) _) 1) hb⟩
def Pk (x:Int):List UInt8:=(List.range 8).map fun i=>ofI (x/2^(56-8*i)%256)
theorem SC (x:Int):((List.range 8).map fun i=>Value.int .u8 (x/2^(56-8*i)%256))=(Pk x).map bc:=by
 unfold Pk
 rw[List.map_map]
 apply List.map_congr_left
 intro i _
 exact (TB _).symm
theorem SX (bl off n cap:Nat) (A0:Option Addr) (X:Nat→Int) (w:World) (hA:1≤n→A0=some ⟨bl,off,none⟩) (hbl:1≤n→bl<w.heap.size) (hcap:n≤cap) (hn:n≤10000)
    (hcell:∀ i,i<n→w.cell? ⟨bl,off+i,none⟩=some (.int .u64 (X i))) :
    Calls Tryz.prog 145 #[.slice A0 n cap] w fun e w'=>e=.returned (.string ⟨((List.range n).flatMap fun k=>Pk (X k)).toArray⟩)∧Below w.heap.size w w':=by
 have HA:=Lh hA
 have HB:=Lh hbl
 have HC:=Lh hcell
 clear hA hbl hcell
 go_enter Tryz.func145,Tryz.ntmps145
 go_wp2_with fail
 refine (OU 8 (fun k=>(Pk (X k)).map bc) bl off n cap A0 (fun i=>.int .u64 (X i)) w HA.out HB.out hcap (by omega) (by omega) HC.out ?_).mono ?_
 ·intro W v q xs k c hk hbase hown hcells hq
  refine (Ty v q xs _ bl (off+k) 1 c (X k) W (by omega) hown (hcells 0 (by omega)) hq hbase (HB.out (by omega))).mono ?_
  rintro e w' ⟨v',rfl,ho,hb⟩
  rw[SC] at ho
  exact⟨v',rfl,ho,hb⟩
 ·rintro e w1 ⟨v',rfl,ho,hb⟩
  have hL:(List.range n).flatMap (fun k=>(Pk (X k)).map bc)=((List.range n).flatMap fun k=>Pk (X k)).map bc:=by simp[List.map_flatMap]
  rw[hL] at ho
  have ks:=DH (P:=Tryz.prog) (t:=90) (ty:=9) Tryz.underlying90 Tryz.underlying5 Tryz.underlying9 ho
  clear hL
  go_wp2_with fail
  go_ret
  exact⟨rfl,hb⟩
theorem Vx (x:Int):Pk x=Do x 8:=by simp[Pk,Do,dk,List.range_succ]
theorem Zx (l:List Nat) (h:l.length=8):((List.range 8).flatMap fun k=>Pk (l.getD k 0:Int))=FV l:=by
 simp only[Vx]
 match l,h with
 | [a,b,c,d,e,f,g,i],_=>rfl
theorem WM (bl off cap:Nat) (l:List Nat) (w:World) (h:l.length=8) (hbl:bl<w.heap.size) (hcap:8≤cap) (hcell:∀ i,i<8→w.cell? ⟨bl,off+i,none⟩=some (.int .u64 (l.getD i 0:Int))) :
    Calls Tryz.prog 145 #[.slice (some ⟨bl,off,none⟩) 8 cap] w fun e w'=>e=.returned (Cd (FV l))∧Below w.heap.size w w':=by
 have K:=SX bl off 8 cap (some ⟨bl,off,none⟩) (fun i=>(l.getD i 0:Int)) w (fun _=>rfl) (fun _=>hbl) hcap (by decide) hcell
 rw[Zx l h] at K
 exact K
theorem Y5 (h g:Nat) (L:List UInt8) (w:World) (hH:Dl w h g L):Calls Tryz.prog 144 #[.pointer (some ⟨h,0,none⟩)] w fun e w'=>e=.returned (.int .i64 (L.length:Int))∧w=w':=by
 obtain⟨hne,bl0,q0,hc0,hh,hb⟩:=hH
 obtain⟨c0,_⟩:=Af (i:=0) (v:=.pointer (some ⟨g,0,none⟩)) hh rfl
 have KL:=Lh (ZF g 128 L.length q0 w hb)
 clear hb hh hc0
 go_enter Tryz.func144,Tryz.ntmps144
 go_wp2_with fail
 refine KL.out.mono ?_
 rintro e w1 ⟨rfl,rfl⟩
 go_wp2_with fail
 go_ret
 exact⟨rfl,rfl⟩
theorem ac (g:Nat) (hs ks:List Nat) (h8:hs.length=8) (k64:ks.length=80):(hrow g hs ks).length=89:=by
 unfold hrow
 rw[List.length_cons,List.length_append,CJ,CJ,h8,k64]
theorem Zl (g:Nat) (hs ks:List Nat):∀ v ∈ hrow g hs ks,v.oneCell'=true:=fun v hv=>by
 unfold hrow Cw at hv
 rcases List.mem_cons.1 hv with rfl | hv
 ·rfl
 ·rcases List.mem_append.1 hv with hv | hv
  ·obtain⟨x,_,rfl⟩:=List.mem_map.1 hv
   rfl
  ·obtain⟨x,_,rfl⟩:=List.mem_map.1 hv
   rfl
theorem Nc (h g:Nat) (L:List UInt8) (w:World) (hH:Dl w h g L):Calls Tryz.prog 88 #[.pointer (some ⟨h,0,none⟩)] w fun e w'=>∃ c g',e=.returned (.pointer (some ⟨c,0,none⟩))∧w.heap.size≤c∧w.heap.size≤g'∧Dl w' c g' L∧Below w.heap.size w w':=by
 have hlt:=hH.lt
 obtain⟨hne,bl0,q0,hc0,hh,hb⟩:=hH
 have hok:=FT Bt Bf Cj.1 Cj.2 bl0
 obtain⟨S0,hS0⟩:=exzb (CP Bt Bf bl0)
 rw[hS0] at hok hh
 have hl:=ac g S0 Bf hok.1 FF.1
 have ho:=Zl g S0 Bf
 have HH:=Lh hh
 have HS0:=Lh hS0
 have HC0:=Lh hc0
 have HB:=Lh hb
 have HLT:=Lh hlt
 obtain⟨R,hR⟩:=exzb (hrow g S0 Bf)
 rw[hR] at HH hl ho
 have HR:=Lh hR
 have HL:=Lh hl
 have HO:=Lh ho
 clear hS0 hok hh hb hc0 hne hl ho hR hlt
 go_enter Tryz.func88,Tryz.ntmps88
 have eB:=below_setRow (C9 w (.cells Tryz.zeroCells165 165)).2 (Nat.le_refl _) R.toArray
 have EC:=Lh (setRow_heap _ w.heap.size _ R.toArray _ _ (C9 w (.cells Tryz.zeroCells165 165)).1)
 have e0:=(Af (i:=0) (v:=.pointer (some ⟨g,0,none⟩)) (DM HH.out eB) (by rw[← HR.out];rfl)).1
 have KC:=Lh (aG g 128 L.length q0 _ (HB.out.of_block (eB.block g HLT.out.2)))
 have EB:=Lh eB
 have E0:=Lh e0
 have ES:Hid (w.heap.size<((w.alloc (.cells Tryz.zeroCells165 165)).setRow w.heap.size R.toArray).heap.size):=(Array.getElem?_eq_some_iff.1 EC.out).1
 clear eB e0
 repeat (first
  | (refine wp_load_row 165 (.tmp 7) rfl h (by simp[Act.eval];done) 165 R.toArray (0,0) _ HH.out Tryz.underlying165 rfl (by rw[List.size_toArray,HL.out];kernel_rfl) ?_;simp only[nmA])
  | (refine wp_store_row 165 (.tmp 3) (.tmp 8) rfl w.heap.size R.toArray (by simp[Act.eval];done) (by simp[Act.eval];done) 165 Tryz.zeroCells165 (C9 w (.cells Tryz.zeroCells165 165)).1 (by rw[List.size_toArray,HL.out];kernel_rfl) (by rw[show R.toArray.size=89 from HL.out];kernel_rfl) (Array.all_eq_true_iff_forall_mem.2 (fun v hv=>HO.out v (by simpa using hv))) ?_
     generalize (w.alloc (.cells Tryz.zeroCells165 165)).setRow w.heap.size R.toArray=W1 at *
     have c1:=E0.out)
  | go_step)
 clear c1
 refine KC.out.mono ?_
 rintro e w2 ⟨rfl,hb2,hB2⟩
 have e2:=DM EC.out hB2
 obtain⟨s1,s2⟩:=Af (i:=0) (v:=.pointer (some ⟨g,0,none⟩)) e2 (by rw[← HR.out];rfl)
 have GC:=AF (i:=0) e2 (.pointer (some ⟨W1.heap.size,0,none⟩))
 rw[show R.set 0 (.pointer (some ⟨W1.heap.size,0,none⟩))=hrow W1.heap.size S0 Bf by rw[← HR.out];rfl] at GC
 have hne2:W1.heap.size≠w.heap.size:=by have:=ES.out;omega
 have GB:=hb2.of_block (heap_setCell_other w2 ⟨w.heap.size,0,none⟩ W1.heap.size (.pointer (some ⟨W1.heap.size,0,none⟩)) hne2)
 have GE:=(EB.out.trans (hB2.mono (Nat.le_of_lt ES.out))).setCell (p:=⟨w.heap.size,0,none⟩) (Nat.le_refl _) (.pointer (some ⟨W1.heap.size,0,none⟩))
 have GC:=Lh GC
 have GB:=Lh GB
 have GE:=Lh GE
 clear hb2 hB2 e2 KC EC EB hne2
 go_wp2_with fail
 go_ret
 refine⟨_,W1.heap.size,rfl,Nat.le_refl _,Nat.le_of_lt ES.out,⟨by have:=ES.out;omega,bl0,q0,HC0.out,?_,GB.out⟩,GE.out⟩
 rw[HS0.out]
 exact GC.out
theorem PX (t:Nat) (ht:t<80) (w:World):Calls Tryz.prog 137 #[.int .i64 (t:Int)] w fun e w'=>e=.returned (.int .i64 (Bn.getD t 0:Int))∧Below w.heap.size w w':=by
 have h:=List.all_eq_true.1 Ix t (List.mem_range.2 ht)
 simp only[Bool.and_eq_true,decide_eq_true_eq] at h
 have:∀ x ∈ Bn,x≤9000:=by decide +kernel
 have ht2:t<Bn.length:=ht
 refine (WW t (Bn.getD t 0) w h.1.1.1 h.1.1.2 ?_ (by omega)).mono ?_
 ·rw[List.getD_eq_getElem?_getD,List.getElem?_eq_getElem ht2]
  exact Nat.le_trans (this _ (List.getElem_mem ht2)) (by decide)
 ·rintro e w' ⟨rfl,rfl⟩
  exact⟨rfl,Below.refl _ _⟩
theorem Kr:(∀ x ∈ Eb,x<4722366482869645213696)∧∀ x ∈ Fa,x<4722366482869645213696:=by decide +kernel
theorem Jn:B64^2=65536^8∧B64^3=65536^12:=by decide +kernel
theorem Vf (t:Nat) (ht:t<8) (w:World):Calls Tryz.prog 136 #[.int .i64 (Bn.getD t 0:Int)] w fun e w'=>e=.returned (.int .u64 (Eb.getD t 0%18446744073709551616:Nat))∧Below w.heap.size w w':=by
 have h:=List.all_eq_true.1 Ix t (List.mem_range.2 (by omega))
 have c:=List.all_eq_true.1 He t (List.mem_range.2 ht)
 simp only[Bool.and_eq_true,decide_eq_true_eq] at h c
 refine (Wj (Bn.getD t 0) w h.1.2 h.2).mono ?_
 rintro e w' ⟨x,hx,rfl,hb⟩
 have e1:x=Eb.getD t 0:=by
  refine T9 hx (cQ _) ?_ ?_ ?_
  ·show _*_≤_
   rw[Jn.1,← Nat.pow_two]
   exact c.1.1
  ·show ¬ _*_≤_
   rw[Jn.1,← Nat.pow_two]
   exact Nat.not_le.2 c.1.2
  ·have ht2:t<Eb.length:=ht
   rw[List.getD_eq_getElem?_getD,List.getElem?_eq_getElem ht2]
   exact Kr.1 _ (List.getElem_mem ht2)
 rw[e1,wd0]
 exact⟨rfl,hb⟩
theorem cM (t:Nat) (ht:t<80) (w:World):Calls Tryz.prog 138 #[.int .i64 (Bn.getD t 0:Int)] w fun e w'=>e=.returned (.int .u64 (Fa.getD t 0%18446744073709551616:Nat))∧Below w.heap.size w w':=by
 have h:=List.all_eq_true.1 Ix t (List.mem_range.2 ht)
 have c:=List.all_eq_true.1 Lb t (List.mem_range.2 ht)
 simp only[Bool.and_eq_true,decide_eq_true_eq] at h c
 have e3:∀ a:Nat,a*a*a=a^3:=fun a=>by rw[Nat.pow_succ,Nat.pow_two]
 refine (dj (Bn.getD t 0) w h.1.2 h.2).mono ?_
 rintro e w' ⟨x,hx,rfl,hb⟩
 have e1:x=Fa.getD t 0:=by
  refine T9 hx (cD _) ?_ ?_ ?_
  ·show _*_*_≤_
   rw[Jn.2,e3]
   exact c.1.1
  ·show ¬ _*_*_≤_
   rw[Jn.2,e3]
   exact Nat.not_le.2 c.1.2
  ·have ht2:t<Fa.length:=ht
   rw[List.getD_eq_getElem?_getD,List.getElem?_eq_getElem ht2]
   exact Kr.2 _ (List.getElem_mem ht2)
 rw[e1,wd0]
 exact⟨rfl,hb⟩
def fill (l:List Nat) (n i:Nat):List Nat:=l.take i++List.replicate (n-i) 0
theorem LI (l:List Nat) (n i:Nat) (hl:l.length=n) (hi:i≤n):(fill l n i).length=n:=by
 unfold fill
 rw[List.length_append,List.length_take,List.length_replicate]
 omega
theorem RE (l:List Nat) (n:Nat) (hl:l.length=n):fill l n n=l:=by
 unfold fill
 rw[List.take_of_length_le (by omega)]
 simp
theorem PD (l:List Nat) (n i:Nat) (hl:l.length=n) (h:i<n):(fill l n i).set i (l.getD i 0)=fill l n (i+1):=by
 unfold fill
 obtain⟨d,hd⟩:∃ d,n-i=d+1:=⟨n-i-1,by omega⟩
 rw[JQ l i (by omega),hd,show n-(i+1)=d by omega,List.replicate_succ,List.set_append_right _ _ (by rw[List.length_take];omega),List.length_take,show i-min i l.length=0 by omega,List.set_cons_zero,List.append_assoc]
 rfl
theorem WX (g:Nat) (hs ks:List Nat) (i x:Nat) (h8:hs.length=8):(hrow g hs ks).set (9+i) (.int .u64 (x:Int))=hrow g hs (ks.set i x):=by
 unfold hrow Cw
 rw[show 9+i=(8+i)+1 by omega,List.set_cons_succ,List.set_append_right _ _ (by rw[List.length_map];omega),List.length_map,show 8+i-hs.length=i by omega,List.map_set]
theorem J5 {w w':World} {g size wr:Nat} {q:List UInt8} (h:Cx w g size q wr) (hb:Below w.heap.size w w'):Cx w' g size q wr:=h.of_block (hb.block g h.lt)
theorem WU (v:Value):Array.foldl (fun (cs:Array Value) (x:Value × Nat)=>cs.setIfInBounds x.snd x.fst) Tryz.zeroCells165 (Tryz.zeroCells163.setIfInBounds 0 v).zipIdx 0 89=(v::(Cw (List.replicate 8 0)++Cw (List.replicate 80 0))).toArray:=by kernel_rfl
theorem Qn (w:World):Calls Tryz.prog 86 #[] w fun e w'=>∃ c g',e=.returned (.pointer (some ⟨c,0,none⟩))∧w.heap.size≤c∧w.heap.size≤g'∧Dl w' c g' []∧Below w.heap.size w w':=by
 have KN:=Lh (fc 128 w (by decide) (by decide))
 have HMIX:=Lh (show Tryz.prog.follows .mixedOrders=true by kernel_rfl)
 go_enter Tryz.func86,Tryz.ntmps86
 go_wp2_with fail
 refine KN.out.mono ?_
 rintro e w1 ⟨rfl,hb1,hB1⟩
 have HB1:=Lh hb1
 have BB1:=Lh hB1
 clear hb1 hB1 KN
 go_wp2_with fail
 rw[WU]
 generalize Value.agg (Value.pointer (some ⟨w.heap.size,0,none⟩)::(Cw (List.replicate 8 0)++Cw (List.replicate 80 0))).toArray=z6
 generalize Value.agg (Tryz.zeroCells163.setIfInBounds 0 (Value.pointer (some ⟨w.heap.size,0,none⟩)))=z5
 have x1:=(C9 w1 (.cells (hrow w.heap.size (fill Bt 8 0) (List.replicate 80 0)).toArray 165)).1
 have xB:=(C9 w1 (.cells (hrow w.heap.size (fill Bt 8 0) (List.replicate 80 0)).toArray 165)).2
 have xg:=J5 HB1.out xB
 have xE:=BB1.out.trans (xB.mono BB1.out.size)
 have xl:=HB1.out.lt
 have xs:=BB1.out.size
 change Code.wp _ _ _ _ (w1.alloc (.cells (hrow w.heap.size (fill Bt 8 0) (List.replicate 80 0)).toArray 165))
 generalize w1.alloc (.cells (hrow w.heap.size (fill Bt 8 0) (List.replicate 80 0)).toArray 165)=X at x1 xg xE ⊢
 have hne:w1.heap.size≠w.heap.size:=by omega
 generalize w1.heap.size=c at *
 have HC:=Lh (And.intro hne xs)
 have X1:=Lh x1
 have XG:=Lh xg
 have XE:=Lh xE
 clear x1 xB xg xE xl xs HB1 BB1
 obtain⟨g,hg⟩:=exzb (w.heap.size)
 have HG:=Lh hg
 rw[hg] at X1 XG hne ⊢
 clear hg
 go_loopw [8] (fun v W=>∃ i:Nat,i≤8∧v=.int .i64 (i:Int)∧W.heap[c]?=some (.cells (hrow g (fill Bt 8 i) (List.replicate 80 0)).toArray 165 (0,0))∧Cx W g 128 [] 0∧Below w.heap.size w W) (fun v _=>8-(intOf v).toNat)
 case atStart=>exact⟨0,by omega,rfl,X1.out,XG.out,by have:=XE.out;exact this⟩
 case round =>
  clear X1 XG XE
  obtain⟨i,hi,rfl,rc,rg,rb⟩:=hrel
  by_cases hlt:i<8
  ·have p1:(i:Int)<8:=by omega
   have KP:=Lh (fun w=>PX i (by omega) w)
   have KR:=Lh (fun w=>Vf i hlt w)
   have c8:=List.all_eq_true.1 He i (List.mem_range.2 hlt)
   simp only[Bool.and_eq_true,decide_eq_true_eq] at c8
   have hst:=Qg g (fill Bt 8 i) (List.replicate 80 0) i (Bt.getD i 0) (by rw[LI _ _ _ Cj.1 hi];exact hlt)
   rw[PD _ _ _ Cj.1 hlt] at hst
   have hv0:=Dp g (fill Bt 8 i) (List.replicate 80 0) i (by rw[LI _ _ _ Cj.1 hi];exact hlt)
   generalize Bn.getD i 0=p at *
   rw[c8.2] at KR
   generalize Bt.getD i 0=y at *
   have HV0:=Lh hv0
   have HST:=Lh hst
   have RC:=Lh rc
   have RG:=Lh rg
   have RB:=Lh rb
   have HLI:=Lh hlt
   have wi:IntKind.i64.wrap ((i:Int)+1)=(i:Int)+1:=by rw[IntKind.wrap_i64];omega
   clear c8 hst hv0 rc rg rb hi hlt
   go_wp2_with fail
   refine Ak 9 HMIX.out (by decide) (by kernel_rfl) (by kernel_rfl) ?_
   repeat (first
    | (refine AZ (by rfl) (by rfl) ?_;simp only[nmA])
    | (refine Bp (v:=?_) (by rfl) (by rfl) (fun d os=>?_) ?_;rotate_left;(focus (go_simp;(try with_reducible rfl);done));simp only[nmA]))
   refine Gw (args:=?_) (v:=?_) (f:=137) (by rfl) (by rfl) (fun d os=>?_) (fun d os=>?_) ?_;rotate_left 3;(focus (with_reducible exact KP.out _;done));rotate_left;(focus (go_simp;done));simp only[nmA]
   repeat (first
    | (refine AZ (by rfl) (by rfl) ?_;simp only[nmA])
    | (refine Bp (v:=?_) (by rfl) (by rfl) (fun d os=>?_) ?_;rotate_left;(focus (go_simp;(try with_reducible rfl);done));simp only[nmA]))
   refine Gw (args:=?_) (v:=?_) (f:=136) (by rfl) (by rfl) (fun d os=>?_) (fun d os=>?_) ?_;rotate_left 3;(focus (with_reducible exact KR.out _;done));rotate_left;(focus (go_simp;done));simp only[nmA]
   repeat (first
    | (refine AZ (by rfl) (by rfl) ?_;simp only[nmA])
    | (refine Bp (v:=?_) (by rfl) (by rfl) (fun d os=>?_) ?_;rotate_left;(focus (go_simp;(try with_reducible rfl);done));simp only[nmA]))
   repeat (first
    | (refine AZ (by rfl) (by rfl) ?_;simp only[nmA])
    | (refine Bp (v:=?_) (by rfl) (by rfl) (fun d os=>?_) ?_;rotate_left;(focus (go_simp;(try with_reducible rfl);done));simp only[nmA]))
   refine Px (fun d os=>?_)
   have BW:=below_regrown wr d os
   have ec:=DM RC.out BW
   have eg:=J5 RG.out BW
   have eb:=RB.out.trans (BW.mono RB.out.size)
   generalize Sort.grow (redrawn wr d) os=W at ec eg eb ⊢
   obtain⟨s1,s2⟩:=Af ec HV0.out
   have VC:=Lh (AF ec (.int .u64 (y:Int)) (i:=1+i))
   have VG:=Lh (eg.of_block (heap_setCell_other W ⟨c,1+i,none⟩ g (.int .u64 (y:Int)) (Ne.symm hne)))
   have VB:=Lh (eb.setCell (p:=⟨c,1+i,none⟩) HC.out.2 (.int .u64 (y:Int)))
   clear BW RC RG RB ec eg eb
   change wpAny _ _ _ _ 1 _ _ _
   refine Ej (i:=9) (by kernel_rfl) rfl (fun K hK=>?_)
   go_simp
   refine hK _ _ ?_
   clear hK K s1 s2
   refine wpAny_done (by kernel_rfl) ?_ _
   go_wp2_with fail
   have h1:=HLI.out
   have vc:=VC.out
   rw[HST.out] at vc
   first
    | exact⟨⟨i+1,by omega,rfl,vc,VG.out,VB.out⟩,by simp[intOf];omega⟩
    | (go_roundw
       case rel=>exact⟨i+1,by omega,rfl,vc,VG.out,VB.out⟩
       case measure=>(simp[intOf];omega))
  ·have hi8:i=8:=by omega
   subst hi8
   have p1:¬ ((8:Nat):Int)<8:=by omega
   rw[RE _ _ Cj.1] at rc
   rw[show List.replicate 80 0=fill Bf 80 0 from rfl] at rc
   have X1:=Lh rc
   have XG:=Lh rg
   have XE:=Lh rb
   clear rc rg rb hi hlt
   go_wp2_with fail
   go_loopw [21] (fun v W=>∃ i:Nat,i≤80∧v=.int .i64 (i:Int)∧W.heap[c]?=some (.cells (hrow g Bt (fill Bf 80 i)).toArray 165 (0,0))∧Cx W g 128 [] 0∧Below w.heap.size w W) (fun v _=>80-(intOf v).toNat)
   case atStart=>exact⟨0,by omega,rfl,X1.out,XG.out,XE.out⟩
   case round =>
    clear X1 XG XE
    obtain⟨i,hi,rfl,rc,rg,rb⟩:=hrel
    by_cases hlt:i<80
    ·have p2:(i:Int)<80:=by omega
     have KP:=Lh (fun w=>PX i hlt w)
     have KR:=Lh (fun w=>cM i hlt w)
     have c8:=List.all_eq_true.1 Lb i (List.mem_range.2 hlt)
     simp only[Bool.and_eq_true,decide_eq_true_eq] at c8
     have hst:=WX g Bt (fill Bf 80 i) i (Bf.getD i 0) Cj.1
     rw[PD _ _ _ FF.1 hlt] at hst
     have hv0:=QG g Bt (fill Bf 80 i) i Cj.1 (by rw[LI _ _ _ FF.1 hi];exact hlt)
     generalize Bn.getD i 0=p at *
     rw[c8.2] at KR
     generalize Bf.getD i 0=y at *
     have HV0:=Lh hv0
     have HST:=Lh hst
     have RC:=Lh rc
     have RG:=Lh rg
     have RB:=Lh rb
     have HLI:=Lh hlt
     have wi:IntKind.i64.wrap ((i:Int)+1)=(i:Int)+1:=by rw[IntKind.wrap_i64];omega
     clear c8 hst hv0 rc rg rb hi hlt
     go_wp2_with fail
     refine Ak 9 HMIX.out (by decide) (by kernel_rfl) (by kernel_rfl) ?_
     repeat (first
      | (refine AZ (by rfl) (by rfl) ?_;simp only[nmA])
      | (refine Bp (v:=?_) (by rfl) (by rfl) (fun d os=>?_) ?_;rotate_left;(focus (go_simp;(try with_reducible rfl);done));simp only[nmA]))
     refine Gw (args:=?_) (v:=?_) (f:=137) (by rfl) (by rfl) (fun d os=>?_) (fun d os=>?_) ?_;rotate_left 3;(focus (with_reducible exact KP.out _;done));rotate_left;(focus (go_simp;done));simp only[nmA]
     repeat (first
      | (refine AZ (by rfl) (by rfl) ?_;simp only[nmA])
      | (refine Bp (v:=?_) (by rfl) (by rfl) (fun d os=>?_) ?_;rotate_left;(focus (go_simp;(try with_reducible rfl);done));simp only[nmA]))
     refine Gw (args:=?_) (v:=?_) (f:=138) (by rfl) (by rfl) (fun d os=>?_) (fun d os=>?_) ?_;rotate_left 3;(focus (with_reducible exact KR.out _;done));rotate_left;(focus (go_simp;done));simp only[nmA]
     repeat (first
      | (refine AZ (by rfl) (by rfl) ?_;simp only[nmA])
      | (refine Bp (v:=?_) (by rfl) (by rfl) (fun d os=>?_) ?_;rotate_left;(focus (go_simp;(try with_reducible rfl);done));simp only[nmA]))
     repeat (first
      | (refine AZ (by rfl) (by rfl) ?_;simp only[nmA])
      | (refine Bp (v:=?_) (by rfl) (by rfl) (fun d os=>?_) ?_;rotate_left;(focus (go_simp;(try with_reducible rfl);done));simp only[nmA]))
     refine Px (fun d os=>?_)
     have BW:=below_regrown wr d os
     have ec:=DM RC.out BW
     have eg:=J5 RG.out BW
     have eb:=RB.out.trans (BW.mono RB.out.size)
     generalize Sort.grow (redrawn wr d) os=W at ec eg eb ⊢
     obtain⟨s1,s2⟩:=Af ec HV0.out
     have VC:=Lh (AF ec (.int .u64 (y:Int)) (i:=9+i))
     have VG:=Lh (eg.of_block (heap_setCell_other W ⟨c,9+i,none⟩ g (.int .u64 (y:Int)) (Ne.symm hne)))
     have VB:=Lh (eb.setCell (p:=⟨c,9+i,none⟩) HC.out.2 (.int .u64 (y:Int)))
     clear BW RC RG RB ec eg eb
     change wpAny _ _ _ _ 1 _ _ _
     refine Ej (i:=9) (by kernel_rfl) rfl (fun K hK=>?_)
     go_simp
     refine hK _ _ ?_
     clear hK K s1 s2
     refine wpAny_done (by kernel_rfl) ?_ _
     go_wp2_with fail
     have h1:=HLI.out
     have vc:=VC.out
     rw[HST.out] at vc
     first
      | exact⟨⟨i+1,by omega,rfl,vc,VG.out,VB.out⟩,by simp[intOf];omega⟩
      | (go_roundw
         case rel=>exact⟨i+1,by omega,rfl,vc,VG.out,VB.out⟩
         case measure=>(simp[intOf];omega))
    ·have hi8:i=80:=by omega
     subst hi8
     have p2:¬ ((80:Nat):Int)<80:=by omega
     rw[RE _ _ FF.1] at rc
     have X1:=Lh rc
     have XG:=Lh rg
     have XE:=Lh rb
     clear rc rg rb hi hlt
     go_wp2_with fail
     go_ret
     refine⟨c,rfl,HC.out.2,g,Nat.le_of_eq HG.out,⟨by rw[← HG.out];exact HC.out.1,[],[],DY.nil (by decide),X1.out,XG.out⟩,XE.out⟩
theorem LC:∀ (n:Nat) (L:List UInt8),L.length≤n→∃ bl q,DY 128 L bl q
 | 0,L,h=>⟨[],L,DY.nil (by omega)⟩
 | n+1,L,h=>by
   by_cases hl:L.length<128
   ·exact⟨[],L,DY.nil hl⟩
   ·obtain⟨bl,q,h1,h2,h3⟩:=LC n (L.drop 128) (by rw[List.length_drop];omega)
    refine⟨L.take 128::bl,q,?_,?_,h3⟩
    ·rw[List.flatten_cons,List.append_assoc,← h1,List.take_append_drop]
    ·intro b hb
     rcases List.mem_cons.1 hb with rfl | hb
     ·rw[List.length_take];omega
     ·exact h2 b hb
def E8 (L:List UInt8):List UInt8:=(Gf L.length 128 16).data.toList
theorem Xp (L:List UInt8):(E8 L).length≤400:=by
 unfold E8 Gf
 simp only[List.length_map,List.length_range]
 exact Oe _
theorem Two.below {a b c:World} {h g N:Nat} (x:Below N a b) (y:Two b c h g) (hN:N≤b.heap.size) (h1:N≤h) (h2:N≤g):Below N a c :=
 x.trans ⟨y.os,y.tape,y.output,y.size,fun i hi=>y.block i (Nat.lt_of_lt_of_le hi hN) (by omega) (by omega)⟩
theorem Wc (W:World) (l:List (List UInt8)) (i:Nat) (hi:i<l.length):(W.alloc (.cells (l.map Cd).toArray 9)).cell? ⟨W.heap.size,0+i,none⟩=some (Cd l[i]):=by
 rw[Nat.zero_add]
 exact (Af (C9 W (.cells (l.map Cd).toArray 9)).1 (by simp[hi])).1
theorem Te (h g:Nat) (L:List UInt8) (ss:List (List UInt8)) (W:World) (hH:Dl W h g L) (hss:ss.length≤1000) (hn:L.length+ss.flatten.length≤1099511627776) :
    Calls Tryz.prog 89 #[.pointer (some ⟨h,0,none⟩),.slice (some ⟨W.heap.size,0,none⟩) ss.length ss.length] (W.alloc (.cells (ss.map Cd).toArray 9)) fun e w'=>e=.returned (.tuple #[])∧Dl w' h g (L++ss.flatten)∧Two W w' h g:=by
 have hb:=(C9 W (.cells (ss.map Cd).toArray 9)).2
 have hl:=hH.lt
 refine (Hc h g ss.length _ L ss _ (hH.below hb) (.inr ⟨W.heap.size,0,rfl,by omega,by omega,fun i hi=>Wc W ss i hi⟩) hss hn).mono ?_
 rintro e w' ⟨rfl,h1,h2⟩
 exact⟨rfl,h1,(Two.of_below hb).trans h2⟩
theorem gn (L:List UInt8) (hn:L.length≤1000000) (w:World):Calls Tryz.prog 143 #[.int .i64 (L.length:Int),.int .i64 128,.int .i64 16] w fun e w'=>e=.returned (Cd (E8 L))∧Below w.heap.size w w':=by
 refine (fy L.length 128 16 w (by omega) (by decide) (by decide) (by decide) (by decide)).mono ?_
 rintro e w' ⟨rfl,hb⟩
 refine⟨?_,hb⟩
 show Ending.returned (Value.string _)=Ending.returned (Value.string ⟨(Gf L.length 128 16).data.toList.toArray⟩)
 rw[GX]
theorem PK (h g:Nat) (L:List UInt8) (w:World) (hH:Dl w h g L) (hn:L.length≤1000000) (bl:List (List UInt8)) (q:List UInt8) (hc:DY 128 (L++E8 L) bl q) :
    Calls Tryz.prog 91 #[.pointer (some ⟨h,0,none⟩)] w fun e w'=>e=.returned (Cd (FV (CP Bt Bf bl)))∧Below w.heap.size w w':=by
 have KC:=Lh (Nc h g L w hH)
 have HH:=Lh hH
 have HN:=Lh hn
 have HC:=Lh hc
 clear hH hn hc
 go_enter Tryz.func91,Tryz.ntmps91
 go_wp2_with fail
 refine KC.out.mono ?_
 rintro e w1 ⟨c,g',rfl,hc1,hg1,hH1,hB1⟩
 have KL:=Lh (Y5 h g L w1 (HH.out.below hB1))
 have H1:=Lh hH1
 have B1:=Lh hB1
 have HCG:=Lh (And.intro hc1 hg1)
 clear hH1 hB1 hc1 hg1 KC HH
 go_wp2_with fail
 refine KL.out.mono ?_
 rintro e w2 ⟨rfl,rfl⟩
 go_wp2_with fail
 refine (gn L HN.out _).mono ?_
 rintro e w3 ⟨rfl,hB3⟩
 have H3:=H1.out.below hB3
 have hp:=Xp L
 have KW:Hid (Calls Tryz.prog 89 #[.pointer (some ⟨c,0,none⟩),.slice (some ⟨w3.heap.size,0,none⟩) 1 1] (w3.alloc (.cells #[Cd (E8 L)] 9)) fun e w'=>e=.returned (.tuple #[])∧Dl w' c g' (L++[E8 L].flatten)∧Two w3 w' c g') :=
  Te c g' L [E8 L] w3 H3 (by simp) (by have:=HN.out;simp;omega)
 have B3:=Lh (B1.out.trans (hB3.mono B1.out.size))
 clear hB3 H3 H1 B1 KL hp
 obtain⟨P,hP⟩:∃ P:ByteArray,Cd (E8 L)=.string P:=⟨_,rfl⟩
 rw[hP] at KW ⊢
 clear hP
 go_wp2_with fail
 refine KW.out.mono ?_
 rintro e w4 ⟨rfl,hH4,hT4⟩
 rw[List.flatten_cons,List.flatten_nil,List.append_nil] at hH4
 have B4:=Lh (Two.below B3.out hT4 B3.out.size HCG.out.1 HCG.out.2)
 obtain⟨hne4,bl4,q4,hc4,hh4,hb4⟩:=hH4
 obtain⟨rfl,rfl⟩:=DY.one HC.out hc4
 have hok:=FT Bt Bf Cj.1 Cj.2 bl
 have KP:=Lh (WM c 1 8 (CP Bt Bf bl) w4 hok.1 (Array.getElem?_eq_some_iff.1 hh4).1 (Nat.le_refl _) (fun i hi=>(Af hh4 (Dp g' _ Bf i (by rw[hok.1];exact hi))).1))
 clear hne4 hc4 hh4 hb4 hT4 hok HC KW
 go_wp2_with fail
 refine KP.out.mono ?_
 rintro e w5 ⟨rfl,hB5⟩
 have B5:=Lh (B4.out.trans (hB5.mono B4.out.size))
 clear hB5 B4 KP
 go_wp2_with fail
 go_ret
 exact⟨rfl,B5.out⟩
def DN (w:World) (a:Option Addr) (ss:List (List UInt8)):Prop :=
 ss=[]∨∃ b off,a=some ⟨b,off,none⟩∧b<w.heap.size∧∀ i,(hi:i<ss.length)→w.cell? ⟨b,off+i,none⟩=some (Cd ss[i])
theorem DN.below {w w':World} {a:Option Addr} {ss:List (List UInt8)} (h:DN w a ss) (hb:Below w.heap.size w w'):DN w' a ss :=
 h.imp id fun ⟨b,off,e,hl,hc⟩=>⟨b,off,e,Nat.lt_of_lt_of_le hl hb.size,fun i hi=>(hb.cell (p:=⟨b,off+i,none⟩) hl).trans (hc i hi)⟩
theorem cn (cap:Nat) (a:Option Addr) (ss:List (List UInt8)) (w:World) (hs:DN w a ss) (hss:ss.length≤1000) (hn:ss.flatten.length≤1000000) (bl:List (List UInt8)) (q:List UInt8) (hc:DY 128 (ss.flatten++E8 ss.flatten) bl q) :
    Calls Tryz.prog 54 #[.slice a ss.length cap] w fun e w'=>e=.returned (Cd (FV (CP Bt Bf bl)))∧Below w.heap.size w w':=by
 have HS:=Lh hs
 have HN:=Lh hn
 have HSS:=Lh hss
 have HC:=Lh hc
 clear hs hn hss hc
 go_enter Tryz.func54,Tryz.ntmps54
 go_wp2_with fail
 refine (Qn _).mono ?_
 rintro e w1 ⟨c,g',rfl,hc1,hg1,hH1,hB1⟩
 have KW:=Lh (Hc c g' cap a [] ss w1 hH1 (HS.out.imp id fun ⟨b,off,e,hl,hcl⟩=>⟨b,off,e,by omega,by omega,fun i hi=>(hB1.cell (p:=⟨b,off+i,none⟩) hl).trans (hcl i hi)⟩) HSS.out (by rw[List.length_nil,Nat.zero_add];exact Nat.le_trans HN.out (by decide)))
 have B1:=Lh hB1
 have HCG:=Lh (And.intro hc1 hg1)
 clear hH1 hB1 hc1 hg1 HS
 go_wp2_with fail
 refine KW.out.mono ?_
 rintro e w2 ⟨rfl,hH2,hT2⟩
 rw[List.nil_append] at hH2
 have KS:=Lh (PK c g' ss.flatten w2 hH2 HN.out bl q HC.out)
 have B2:=Lh (Two.below B1.out hT2 B1.out.size HCG.out.1 HCG.out.2)
 clear hH2 hT2 B1 KW
 go_wp2_with fail
 refine KS.out.mono ?_
 rintro e w3 ⟨rfl,hB3⟩
 have B3:=Lh (B2.out.trans (hB3.mono B2.out.size))
 clear hB3 B2 KS
 go_wp2_with fail
 go_ret
 exact⟨rfl,B3.out⟩
theorem P7 (A:List UInt8) (hA:A.length≤4000) (bl:List (List UInt8)) (q:List UInt8) (hc:DY 128 (A++E8 A) bl q) (w:World) :
    Calls Tryz.prog 21 #[Cd A] w fun e w'=>e=.returned (Cd (FV (CP Bt Bf bl)))∧Below w.heap.size w w':=by
 refine (Rz ⟨A.toArray⟩ (by exact hA) w).mono ?_
 rintro e w' ⟨bl',q',hc',rfl,hb⟩
 have e1:(⟨A.toArray⟩:ByteArray).data.toList=A:=by simp
 have e2:(⟨A.toArray⟩:ByteArray).size=A.length:=by rfl
 rw[e1,e2] at hc'
 obtain⟨rfl,rfl⟩:=DY.one hc hc'
 exact⟨rfl,hb⟩
end Go.Proofs.YtnaldciakclccaaGreat
