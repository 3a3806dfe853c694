/- Lemmas of this proof. -/
import Derived.Deep.LoopGhost
import Derived.BigRegion
import Derived.Laws.Bits64b
import Derived.Test.YtnaldciakclccaaGreatEv20
import Derived.Test.YtnaldciakclccaaGreatEv02
import Derived.Test.YtnaldciakclccaaGreatEv03
namespace Go.Proofs.YtnaldciakclccaaGreat
set_option maxRecDepth 20000
set_option maxHeartbeats 8000000
set_option linter.unusedSimpArgs false
set_option linter.unusedVariables false
open Go.RowKit
def G8 (w:World) (g v0 v1 v2 v3 v4 v5 v6 v7:Nat):Prop:=w.cell? ⟨g,0,none⟩=some (.int .u64 (v0:Int))∧w.cell? ⟨g,1,none⟩=some (.int .u64 (v1:Int))∧w.cell? ⟨g,2,none⟩=some (.int .u64 (v2:Int))∧w.cell? ⟨g,3,none⟩=some (.int .u64 (v3:Int))∧w.cell? ⟨g,4,none⟩=some (.int .u64 (v4:Int))∧w.cell? ⟨g,5,none⟩=some (.int .u64 (v5:Int))∧w.cell? ⟨g,6,none⟩=some (.int .u64 (v6:Int))∧w.cell? ⟨g,7,none⟩=some (.int .u64 (v7:Int))
theorem G8.map {w w':World} {g v0 v1 v2 v3 v4 v5 v6 v7:Nat} (h:G8 w g v0 v1 v2 v3 v4 v5 v6 v7) (f:∀ {j:Nat} {v:Value},w.cell? ⟨g,j,none⟩=some v→w'.cell? ⟨g,j,none⟩=some v):G8 w' g v0 v1 v2 v3 v4 v5 v6 v7:=⟨f h.1,f h.2.1,f h.2.2.1,f h.2.2.2.1,f h.2.2.2.2.1,f h.2.2.2.2.2.1,f h.2.2.2.2.2.2.1,f h.2.2.2.2.2.2.2⟩
theorem Ss {w w':World} {p:Addr} {v:Value} (h:w.cell? p=some v) (hb:Below w.heap.size w w'):w'.cell? p=some v:=(hb.cell (World.block_lt_of_cell? w p h)).trans h
theorem G8.below {w w':World} {g v0 v1 v2 v3 v4 v5 v6 v7:Nat} (h:G8 w g v0 v1 v2 v3 v4 v5 v6 v7) (hb:Below w.heap.size w w'):G8 w' g v0 v1 v2 v3 v4 v5 v6 v7:=h.map fun h=>Ss h hb
theorem P9 {w:World} {p:Addr} {v:Value} (o:Obj) (h:w.cell? p=some v):(w.alloc o).cell? p=some v:=by
 rw[World.cell?_alloc_some w p o (by rw[h];rfl)]
 exact h
theorem G8.alloc {w:World} {g v0 v1 v2 v3 v4 v5 v6 v7:Nat} (h:G8 w g v0 v1 v2 v3 v4 v5 v6 v7) (o:Obj):G8 (w.alloc o) g v0 v1 v2 v3 v4 v5 v6 v7:=h.map fun h=>P9 o h
theorem G8.drew {w:World} {g v0 v1 v2 v3 v4 v5 v6 v7:Nat} (h:G8 w g v0 v1 v2 v3 v4 v5 v6 v7):G8 w.drew g v0 v1 v2 v3 v4 v5 v6 v7:=h.map fun h=>h
theorem ZI (z:Int) (w:World) :
    Calls Tryz.prog 167 #[.int .u64 z] w fun e w'=>e=.returned (.int .u64 z)∧Below w.heap.size w w' :=
 (Ie z w).mono fun e w' ⟨he,hw⟩=>⟨he,by subst hw;exact Below.refl _ _⟩
theorem ag {w:World} {b b' n:Nat} {e:TypeId} {sz:Nat} {v:Value} {xs:List Value} (h:w.ownsRow b e sz v n xs) (hb:b'≤b):w.ownsRow b' e sz v n xs:=by
 obtain⟨hl,h0 | ⟨g,cap,cur,rfl,hg,r⟩⟩:=h
 ·exact⟨hl,.inl h0⟩
 ·exact⟨hl,.inr ⟨g,cap,cur,rfl,by omega,r⟩⟩
theorem Ju {w:World} {base n:Nat} {v:Value} {l:List Nat} (h:w.ownsRow base 22 1 v n (Fk l)) (h0:0<n) (hl:l.length=n):∃ g cap,v=.slice (some ⟨g,0,none⟩) n cap∧base≤g∧n≤cap∧IsW w g l:=by
 obtain⟨g,cap,rfl,hg,hc,hgl,hcell⟩:=Nt h h0
 exact⟨g,cap,rfl,hg,hc,hgl,fun i hi=>hcell i (by omega)⟩
theorem YZ (l:List Nat) (j:Nat) (u:Value) (h:(Fk l)[j]?=some u):j<l.length∧u=.int .u64 (l.getD j 0:Int):=by
 unfold Fk at h
 rw[List.getElem?_map] at h
 by_cases hj:j<l.length
 ·rw[List.getElem?_eq_getElem hj] at h
  refine⟨hj,?_⟩
  rw[List.getD_eq_getElem?_getD,List.getElem?_eq_getElem hj]
  exact (Option.some.inj h).symm
 ·rw[List.getElem?_eq_none (by omega)] at h
  cases h
theorem Yx {w:World} {g:Nat} {l:List Nat} (h:IsW w g l):∀ j u,(Fk l)[j]?=some u→w.cell? ((⟨g,0,none⟩:Addr).add j)=some u:=fun j u hu=>by
 obtain⟨hj,rfl⟩:=YZ l j u hu
 have hadd:(⟨g,0,none⟩:Addr).add j=⟨g,j,none⟩:=by unfold Addr.add;split <;> simp_all
 rw[hadd]
 exact h.2 j hj
theorem Ye (l:List Nat):∀ u ∈ Fk l,u.oneCell'=true:=fun u hu=>by
 unfold Fk at hu
 obtain⟨x,_,rfl⟩:=List.mem_map.1 hu
 rfl
theorem IsW.grown {w w':World} {g:Nat} {l:List Nat} {row:Option Nat} (h:IsW w g l) (hg:w.grownBy w' row) (hne:some g≠row):IsW w' g l:=by
 have hb:=hg.block g h.1 hne
 refine⟨Nat.lt_of_lt_of_le h.1 hg.size,fun i hi=>?_⟩
 rw[← h.2 i hi]
 simp only[World.cell?,hb]
theorem TP {w:World} {g j:Nat} {v:Value} (h:w.cell? ⟨g,j,none⟩=some v):g<w.heap.size:=by
 rcases Nat.lt_or_ge g w.heap.size with hl | hl
 ·exact hl
 ·rw[World.cell?,Array.getElem?_eq_none hl] at h
  cases h
theorem Wp {w w':World} {row:Option Nat} {g1 g2 j:Nat} {v1 v2:Value} (h:w.cell? ⟨g1,j,none⟩=some v1∧w.cell? ⟨g2,j,none⟩=some v2) (hg:w.grownBy w' row) (n1:some g1≠row) (n2:some g2≠row):w'.cell? ⟨g1,j,none⟩=some v1∧w'.cell? ⟨g2,j,none⟩=some v2:=by
 have b1:=hg.block g1 (TP h.1) n1
 have b2:=hg.block g2 (TP h.2) n2
 refine⟨?_,?_⟩
 ·rw[← h.1]
  simp only[World.cell?,b1]
 ·rw[← h.2]
  simp only[World.cell?,b2]
theorem U0 {w:World} {g1 g2 j:Nat} {v1 v2:Value} (o:Obj) (h:w.cell? ⟨g1,j,none⟩=some v1∧w.cell? ⟨g2,j,none⟩=some v2):(w.alloc o).cell? ⟨g1,j,none⟩=some v1∧(w.alloc o).cell? ⟨g2,j,none⟩=some v2:=by
 rw[World.cell?_alloc_some w _ o (by rw[h.1];rfl),World.cell?_alloc_some w _ o (by rw[h.2];rfl)]
 exact h
theorem Vp (w:World):(w.alloc (.cells #[] 22)).ownsRow w.heap.size 22 1 (.slice (some ⟨w.heap.size,0,none⟩) 0 0) 0 (Fk []) :=
 ⟨rfl,.inr ⟨w.heap.size,0,#[],rfl,Nat.le_refl _,by show (w.heap.push _)[w.heap.size]?=_;simp,Nat.le_refl _,by decide,rfl,rfl⟩⟩
set_option maxHeartbeats 16000000 in
theorem Xo (s:ByteArray) (hs:s.size=128) (gh ch gk ck:Nat) (h k:List Nat) (w:World) (lh:h.length=8) (lk:k.length=80) (bh:∀ x ∈ h,x<M64) (bk:∀ x ∈ k,x<M64) (wh:IsW w gh h) (wk:IsW w gk k) (hch:8≤ch) (hck:80≤ck) :
    Calls Tryz.prog 121 #[.slice (some ⟨gh,0,none⟩) 8 ch,.slice (some ⟨gk,0,none⟩) 80 ck,.string s] w fun e w'=>∃ v,e=.returned v∧w'.ownsRow w.heap.size 22 1 v 8 (Fk (Fu h k (Bd s 16)))∧Below w.heap.size w w':=by
 obtain⟨i0,hi,hz0,hz1,hz2⟩:=info_parts Tryz.sinfo_u64
 have K1:=Lh (fun w=>WV s w hs)
 have hM:∀ x ∈ Bd s 16,x<M64:=fun x hx=>by
  unfold Bd at hx
  obtain⟨t,ht,rfl⟩:=List.mem_map.1 hx
  have:=List.mem_range.1 ht
  exact GF s t (by omega)
 have bw:=Mc (Bd s 16) hM 64
 have lw:(wsN (Bd s 16) 64).length=80:=by rw[Ja,GN]
 have HST:Hid (Fu h k (Bd s 16)=(List.range 8).map fun i=>(h.getD i 0+(rnds h k (wsN (Bd s 16) 64) 80).getD i 0)%M64):=rfl
 obtain⟨ws,hws⟩:=exzb (wsN (Bd s 16) 64)
 rw[hws] at K1 bw lw HST
 have HH:=Lh wh
 have HK:=Lh wk
 clear hM hws wh wk
 go_enter Tryz.func121,Tryz.ntmps121
 go_wp2_with fail
 refine (K1.out _).mono ?_
 rintro e w1 ⟨v1,rfl,hown1,hb1⟩
 obtain⟨gw,cw,rfl,hgw,hcw,ww⟩:=Ju hown1 (by omega) lw
 have HW:=Lh (ww.below ((Below.refl w1.heap.size w1).alloc (Nat.le_refl _) (.cells #[] 22)))
 have HH1:=Lh ((HH.out.below hb1).below ((Below.refl w1.heap.size w1).alloc (Nat.le_refl _) (.cells #[] 22)))
 have HK1:=Lh ((HK.out.below hb1).below ((Below.refl w1.heap.size w1).alloc (Nat.le_refl _) (.cells #[] 22)))
 have OE:=Lh (Vp w1)
 have hsz:=hb1.size
 have HB1:=Lh (Al hb1 (.cells #[] 22))
 have GW:=Lh ww.1
 have GH:=Lh (HH.out.below hb1).1
 have GK:=Lh (HK.out.below hb1).1
 clear ww hown1 hb1 K1 HH HK hgw
 go_wp2_with (at_builtin;refine wpList_append_own _ (by rfl) (.tmp 20) (.tmp 21) 95 (by rfl) w1.heap.size 22 i0 (.int .u64 0) 1 8 Tryz.underlying95 hi hz0 hz1 hz2 rfl (by decide) _ 0 _ (by simp[Act.eval];rfl) (by exact OE.out) ⟨gh,0,none⟩ 8 ch (Fk h) (by simp[Act.eval]) (by rw[Rh,lh]) (by exact Yx HH1.out) (by exact Ye h) (by unfold maxLen;omega) (by omega) (by simp) ?_;intro v3 w3 hown3 hgrow3 _)
 have hown3':w3.ownsRow w1.heap.size 22 1 v3 8 (Fk h):=hown3
 obtain⟨g3,c3,rfl,hg3,hc3,wv3⟩:=Ju hown3' (by omega) lh
 have hgh:=HH1.out.1
 have HW3:=Lh (HW.out.grown hgrow3 (by simp[Value.ownBlock];have:=(show gw<w1.heap.size from GW.out);omega))
 have HH3:=Lh (HH1.out.grown hgrow3 (by simp[Value.ownBlock];have:=(show gh<w1.heap.size from GH.out);omega))
 have HK3:=Lh (HK1.out.grown hgrow3 (by simp[Value.ownBlock];have:=(show gk<w1.heap.size from GK.out);omega))
 have HB3:=Lh (HB1.out.grown hgrow3 (by rw[World.size_alloc];omega) (fun j hj=>by simp[Value.ownBlock] at hj;omega))
 clear hown3 hown3' hgrow3 HW HH1 HK1 HB1 OE hgh GW GH GK hg3
 go_loopw [8,9] (fun v i wr=>∃ t:Nat,t≤80∧i=.int .i64 (t:Int)∧(∃ g c,v=.slice (some ⟨g,0,none⟩) 8 c∧IsW wr g (rnds h k ws t))∧Below w3.heap.size w3 wr) (fun _ i _=>80-(Go.RowKit.intOf i).toNat)
 case atStart=>exact⟨0,by omega,rfl,⟨g3,c3,rfl,wv3⟩,Below.refl _ _⟩
 case round =>
  obtain⟨t,ht,rfl,⟨g,c,rfl,wv⟩,hbe⟩:=hrel
  have lV:=QD h k ws lh t
  have bV:=Ot h k ws bh t
  have HR:Hid (rnds h k ws (t+1)=rnd (rnds h k ws t) (k.getD t 0) (ws.getD t 0)):=rfl
  by_cases hlt:t<80
  ·have p1:(t:Int)<80:=by omega
   have hkw:=HK3.out.below hbe
   have hww:=HW3.out.below hbe
   obtain⟨V,hV⟩:=exzb (rnds h k ws t)
   rw[hV] at wv lV bV HR
   obtain⟨v0,hv0⟩:=exzb (V.getD 0 0)
   obtain⟨v1,hv1⟩:=exzb (V.getD 1 0)
   obtain⟨v2,hv2⟩:=exzb (V.getD 2 0)
   obtain⟨v3,hv3⟩:=exzb (V.getD 3 0)
   obtain⟨v4,hv4⟩:=exzb (V.getD 4 0)
   obtain⟨v5,hv5⟩:=exzb (V.getD 5 0)
   obtain⟨v6,hv6⟩:=exzb (V.getD 6 0)
   obtain⟨v7,hv7⟩:=exzb (V.getD 7 0)
   obtain⟨kt,hkt⟩:=exzb (k.getD t 0)
   obtain⟨wt,hwt⟩:=exzb (ws.getD t 0)
   have C0:=wv.2 0 (by omega)
   have C1:=wv.2 1 (by omega)
   have C2:=wv.2 2 (by omega)
   have C3:=wv.2 3 (by omega)
   have C4:=wv.2 4 (by omega)
   have C5:=wv.2 5 (by omega)
   have C6:=wv.2 6 (by omega)
   have C7:=wv.2 7 (by omega)
   have CK:=hkw.2 t (by omega)
   have CW:=hww.2 t (by omega)
   rw[hv0] at C0
   rw[hv1] at C1
   rw[hv2] at C2
   rw[hv3] at C3
   rw[hv4] at C4
   rw[hv5] at C5
   rw[hv6] at C6
   rw[hv7] at C7
   rw[hkt] at CK
   rw[hwt] at CW
   have b0:v0<M64:=by rw[← hv0];exact BF bV 0
   have b1:v1<M64:=by rw[← hv1];exact BF bV 1
   have b2:v2<M64:=by rw[← hv2];exact BF bV 2
   have b3:v3<M64:=by rw[← hv3];exact BF bV 3
   have b4:v4<M64:=by rw[← hv4];exact BF bV 4
   have b5:v5<M64:=by rw[← hv5];exact BF bV 5
   have b6:v6<M64:=by rw[← hv6];exact BF bV 6
   have b7:v7<M64:=by rw[← hv7];exact BF bV 7
   have bkt:kt<M64:=by rw[← hkt];exact BF bk t
   have bwt:wt<M64:=by rw[← hwt];exact BF bw t
   have HR2:Hid (rnds h k ws (t+1)=[((v7+Mk v4+BP v4 v5 v6+kt+wt)%M64+(O6 v0+CN v0 v1 v2)%M64)%M64,v0,v1,v2,(v3+(v7+Mk v4+BP v4 v5 v6+kt+wt)%M64)%M64,v4,v5,v6]):=by
    show _=_
    rw[HR.out]
    unfold rnd
    rw[hv0,hv1,hv2,hv3,hv4,hv5,hv6,hv7,hkt,hwt]
   clear hv0 hv1 hv2 hv3 hv4 hv5 hv6 hv7 hkt hwt HR hV lV bV
   have T6:Hid (∀ w,Calls Tryz.prog 166 #[.int .u64 (v4:Int),.int .i64 14] w fun e w'=>e=.returned (.int .u64 (BY 64 v4 14:Int))∧w=w'):=fun w=>Ef v4 14 (by decide) w b4
   have T11:Hid (∀ w,Calls Tryz.prog 166 #[.int .u64 (v4:Int),.int .i64 18] w fun e w'=>e=.returned (.int .u64 (BY 64 v4 18:Int))∧w=w'):=fun w=>Ef v4 18 (by decide) w b4
   have T25:Hid (∀ w,Calls Tryz.prog 166 #[.int .u64 (v4:Int),.int .i64 41] w fun e w'=>e=.returned (.int .u64 (BY 64 v4 41:Int))∧w=w'):=fun w=>Ef v4 41 (by decide) w b4
   have T2:Hid (∀ w,Calls Tryz.prog 166 #[.int .u64 (v0:Int),.int .i64 28] w fun e w'=>e=.returned (.int .u64 (BY 64 v0 28:Int))∧w=w'):=fun w=>Ef v0 28 (by decide) w b0
   have T13:Hid (∀ w,Calls Tryz.prog 166 #[.int .u64 (v0:Int),.int .i64 34] w fun e w'=>e=.returned (.int .u64 (BY 64 v0 34:Int))∧w=w'):=fun w=>Ef v0 34 (by decide) w b0
   have T22:Hid (∀ w,Calls Tryz.prog 166 #[.int .u64 (v0:Int),.int .i64 39] w fun e w'=>e=.returned (.int .u64 (BY 64 v0 39:Int))∧w=w'):=fun w=>Ef v0 39 (by decide) w b0
   have X1:=Dh _ _ (BT v4 14 b4) (BT v4 18 b4)
   have X2:=Dh _ _ (D9 (BT v4 14 b4) (BT v4 18 b4)) (BT v4 41 b4)
   have X3:=Dh _ _ (BT v0 28 b0) (BT v0 34 b0)
   have X4:=Dh _ _ (D9 (BT v0 28 b0) (BT v0 34 b0)) (BT v0 39 b0)
   have bB1:=cX v4 b4
   have bB0:=UB v0 b0
   have bCh:=iU v4 v5 v6 b5 b6
   have bMj:=fZ v0 v1 v2 b1 b2
   have KCh:=Lh (fun w=>ax v4 v5 v6 w b4 b5 b6)
   have KMj:=Lh (fun w=>UY v0 v1 v2 w b0 b1 b2)
   obtain⟨E1,hE1⟩:=exzb (Mk v4)
   obtain⟨E0,hE0⟩:=exzb (O6 v0)
   obtain⟨Ch,hCh⟩:=exzb (BP v4 v5 v6)
   obtain⟨Mj,hMj⟩:=exzb (CN v0 v1 v2)
   rw[hE1,hE0,hCh,hMj] at HR2
   rw[show BY 64 v4 14 ^^^ BY 64 v4 18 ^^^ BY 64 v4 41=E1 from hE1] at X2
   rw[show BY 64 v0 28 ^^^ BY 64 v0 34 ^^^ BY 64 v0 39=E0 from hE0] at X4
   rw[hCh] at KCh bCh
   rw[hMj] at KMj bMj
   rw[hE1] at bB1
   rw[hE0] at bB0
   clear hE1 hE0 hCh hMj
   have HBE:=Lh hbe
   have BND:=Lh (show v3<M64∧v7<M64∧E1<M64∧E0<M64∧Ch<M64∧Mj<M64∧kt<M64∧wt<M64 from ⟨b3,b7,bB1,bB0,bCh,bMj,bkt,bwt⟩)
   clear wv hkw hww hbe b0 b1 b2 b3 b4 b5 b6 b7 bB1 bB0 bCh bMj bkt bwt bh bk bw lk lw
   go_wp2_with fail
   go_quiet (fail)
   go_wp2_with (first
    | (go_at_call_of 166 (Value.int .i64 14);refine (T6.out _).mono ?_;rintro e w1 ⟨rfl,rfl⟩)
    | (go_at_call_of 166 (Value.int .i64 18);refine (T11.out _).mono ?_;rintro e w1 ⟨rfl,rfl⟩)
    | (go_at_call_of 166 (Value.int .i64 41);refine (T25.out _).mono ?_;rintro e w1 ⟨rfl,rfl⟩)
    | (go_at_call_of 166 (Value.int .i64 28);refine (T2.out _).mono ?_;rintro e w1 ⟨rfl,rfl⟩)
    | (go_at_call_of 166 (Value.int .i64 34);refine (T13.out _).mono ?_;rintro e w1 ⟨rfl,rfl⟩)
    | (go_at_call_of 166 (Value.int .i64 39);refine (T22.out _).mono ?_;rintro e w1 ⟨rfl,rfl⟩))
   have HC:Hid (G8 (wr.drewN nq) g v0 v1 v2 v3 v4 v5 v6 v7):=⟨C0,C1,C2,C3,C4,C5,C6,C7⟩
   have HBU:Hid (Below w3.heap.size w3 (wr.drewN nq)):=HBE.out.trans ⟨rfl,rfl,rfl,Nat.le_refl _,fun _ _=>rfl⟩
   have CK1:(wr.drewN nq).cell? ⟨gk,t,none⟩=_:=CK
   have CW1:(wr.drewN nq).cell? ⟨gw,t,none⟩=_:=CW
   clear C0 C1 C2 C3 C4 C5 C6 C7 CK CW HBE T6 T11 T25 T2 T13 T22 X1 X2 X3 X4
   generalize wr.drewN nq=U at HC HBU CK1 CW1 ⊢
   obtain⟨n3,n7,nE1,nE0,nCh,nMj,nkt,nwt⟩:=BND.out
   unfold M64 at n3 n7 nE1 nE0 nCh nMj nkt nwt
   have HMIX:=Lh (show Tryz.prog.follows .mixedOrders=true by kernel_rfl)
   obtain⟨x,hx⟩:=exzb ((v7+E1+Ch+kt+wt)%M64)
   obtain⟨y,hy⟩:=exzb ((E0+Mj)%M64)
   obtain⟨i1,hi1⟩:=exzb ((v7+E1)%M64)
   obtain⟨i2,hi2⟩:=exzb ((i1+Ch)%M64)
   obtain⟨i3,hi3⟩:=exzb ((i2+kt)%M64)
   have z1:=Dz v7 E1
   have z2:=Dz i1 Ch
   have z3:=Dz i2 kt
   have z4:=Dz i3 wt
   have z5:=Dz E0 Mj
   rw[show (i3+wt)%M64=x by rw[← hx,← hi3,← hi2,← hi1];unfold M64;omega] at z4
   rw[hi1] at z1
   rw[hi2] at z2
   rw[hi3] at z3
   rw[hy] at z5 HR2
   rw[hx] at HR2
   clear hi1 hi2 hi3
   have KX:=Lh (fun w=>ZI (x:Int) w)
   have KY:=Lh (fun w=>ZI (y:Int) w)
   have z6:=Dz x y
   have z7:=Dz v3 x
   obtain⟨xa,hxa⟩:=exzb ((x+y)%M64)
   obtain⟨xe,hxe⟩:=exzb ((v3+x)%M64)
   rw[hxa] at z6 HR2
   rw[hxe] at z7 HR2
   have KA:=Lh (fun w=>Ie (xa:Int) w)
   have KE:=Lh (fun w=>Ie (xe:Int) w)
   clear hx hy hxa hxe n3 n7 nE1 nE0 nCh nMj nkt nwt BND
   obtain⟨C0,C1,C2,C3,C4,C5,C6,C7⟩:=HC.out
   have D5:=fun d os=>cell_regrown C5 d os
   have D6:=fun d os=>cell_regrown C6 d os
   have D7:=fun d os=>cell_regrown C7 d os
   have DK:=fun d os=>cell_regrown CK1 d os
   have DW:=fun d os=>cell_regrown CW1 d os
   clear C0 C1 C2 C3 C4 C5 C6 C7 CK1 CW1
   refine wp_region_quiet_below HMIX.out (by kernel_rfl) ?_
   repeat (go_big_quiet_step (first
    | (go_at_call 168;exact Calls.regrown_of (KCh.out _))
    | (go_at_call 167;exact Calls.regrown_of (KX.out _))))
   refine wpQuiet_nil ?_
   intro _ hw'
   obtain⟨⟨nq1,os1⟩,hw''⟩:=hw'
   subst hw''
   have HC2:=Lh (HC.out.below (below_regrown U nq1 os1))
   have HBU2:=Lh (HBU.out.trans ((below_regrown U nq1 os1).mono HBU.out.size))
   clear D5 D6 D7 DK DW HC HBU KCh KX z1 z2 z3 z4
   generalize Sort.grow (redrawn U nq1) os1=U2 at HC2 HBU2 ⊢
   obtain⟨C0,C1,C2,C3,C4,C5,C6,C7⟩:=HC2.out
   have D1:=fun d os=>cell_regrown C1 d os
   have D2:=fun d os=>cell_regrown C2 d os
   clear C0 C1 C2 C3 C4 C5 C6 C7
   go_wp2_with fail
   refine wp_region_quiet_below HMIX.out (by kernel_rfl) ?_
   repeat (go_big_quiet_step (first
    | (go_at_call 168;exact Calls.regrown_of (KMj.out _))
    | (go_at_call 167;exact Calls.regrown_of (KY.out _))))
   refine wpQuiet_nil ?_
   intro _ hw'
   obtain⟨⟨nq2,os2⟩,hw''⟩:=hw'
   subst hw''
   have HC3:=Lh (HC2.out.below (below_regrown U2 nq2 os2))
   have HBU3:=Lh (HBU2.out.trans ((below_regrown U2 nq2 os2).mono HBU2.out.size))
   clear D1 D2 HC2 HBU2 KMj KY z5
   generalize Sort.grow (redrawn U2 nq2) os2=U3 at HC3 HBU3 ⊢
   obtain⟨C0,C1,C2,C3,C4,C5,C6,C7⟩:=HC3.out
   go_wp2_with fail
   go_region_held3 (fun w'=>w'.cell? ⟨g,0,none⟩=some (.int .u64 (v0:Int))∧w'.cell? ⟨g,1,none⟩=some (.int .u64 (v1:Int))∧w'.cell? ⟨g,2,none⟩=some (.int .u64 (v2:Int))∧w'.cell? ⟨g,3,none⟩=some (.int .u64 (v3:Int))∧w'.cell? ⟨g,4,none⟩=some (.int .u64 (v4:Int))∧w'.cell? ⟨g,5,none⟩=some (.int .u64 (v5:Int))∧w'.cell? ⟨g,6,none⟩=some (.int .u64 (v6:Int))) (first | (with_reducible exact⟨C0,C1,C2,C3,C4,C5,C6⟩) | (exact (fun h=>⟨h.1,h.2.1,h.2.2.1,h.2.2.2.1,h.2.2.2.2.1,h.2.2.2.2.2.1,h.2.2.2.2.2.2.1⟩:G8 _ g v0 v1 v2 v3 v4 v5 v6 v7→_) (HC3.out.alloc _).drew) | go_keep) (first
    | (go_at_call_of 167 (Value.int .u64 (xa:Int));go_must (refine (KA.out _).mono ?_);rintro e w' ⟨rfl,rfl⟩)
    | (go_at_call_of 167 (Value.int .u64 (xe:Int));go_must (refine (KE.out _).mono ?_);rintro e w' ⟨rfl,rfl⟩))
   all_goals
    rename_i hH
    clear hH
    go_wp2_with fail
    go_roundw
    case rel =>
     refine⟨t+1,by omega,congrArg (Value.int .i64) (by omega),⟨_,8,rfl,?_⟩,(HBU3.out.alloc HBU3.out.size _).drew⟩
     rw[HR2.out]
     exact jb U3 xa v0 v1 v2 xe v4 v5 v6
    case measure =>
     simp[Go.RowKit.intOf]
     omega
  ·obtain rfl:t=80:=by omega
   have p1:¬ (80:Int)<80:=by omega
   have hb4:Below w.heap.size w wr:=HB3.out.trans (hbe.mono HB3.out.size)
   have whr:=HH3.out.below hbe
   obtain⟨V,hV⟩:=exzb (rnds h k ws 80)
   rw[hV] at wv lV bV HST
   have HB4:=Lh hb4
   have HV:=Lh wv
   have HHr:=Lh whr
   clear hb4 wv whr hV HR hbe HW3 HK3 HH3 HB3
   go_wp2_with fail
   obtain⟨W4,hW4⟩:=exza (wr)
   subst hW4
   go_loopw [16,17] (fun v i wq=>∃ j:Nat,j≤8∧i=.int .i64 (j:Int)∧wq.ownsRow W4.heap.size 22 1 v j (Fk ((List.range j).map fun i=>(h.getD i 0+V.getD i 0)%M64))∧Below W4.heap.size W4 wq) (fun _ i _=>8-(Go.RowKit.intOf i).toNat)
   case atStart=>exact⟨0,by omega,rfl,World.ownsRow_nil _ _ _ _,Below.refl _ _⟩
   case round =>
    obtain⟨j,hj,rfl,hown,hbe⟩:=hrel
    by_cases hlt:j<8
    ·have p2:(j:Int)<8:=by omega
     have CH:=(HHr.out.below hbe).2 j (by omega)
     have CV:=(HV.out.below hbe).2 j (by omega)
     have HS:Hid (((List.range (j+1)).map fun i=>(h.getD i 0+V.getD i 0)%M64)=((List.range j).map fun i=>(h.getD i 0+V.getD i 0)%M64)++[(h.getD j 0+V.getD j 0)%M64]):=by
      show _=_
      rw[List.range_succ,List.map_append]
      rfl
     have ba:=BF bh j
     have bb:=BF bV j
     obtain⟨a,ha⟩:=exzb (h.getD j 0)
     obtain⟨b,hb⟩:=exzb (V.getD j 0)
     rw[ha] at CH ba HS
     rw[hb] at CV bb HS
     unfold M64 at ba bb
     have z1:=Dz a b
     obtain⟨x,hx⟩:=exzb ((a+b)%M64)
     rw[hx] at z1 HS
     have KW:=Lh (fun w=>Ie (x:Int) w)
     have HOW:=Lh hown
     have HBQ:=Lh hbe
     have hsq:=hbe.size
     clear ha hb hx ba bb hown hbe bh bV bk bw lV lk lw
     go_wp2_with fail
     go_region_held3 (fun w'=>w'.cell? ⟨gh,j,none⟩=some (.int .u64 (a:Int))∧w'.cell? ⟨g,j,none⟩=some (.int .u64 (b:Int))) (first | (with_reducible assumption) | (exact⟨CH,CV⟩) | (exact Wp (by with_reducible assumption) hgrow2 (fun e=>Nat.not_le_of_lt HHr.out.1 (HOW.out.lt _ e.symm).1) (fun e=>Nat.not_le_of_lt HV.out.1 (HOW.out.lt _ e.symm).1)) | (exact U0 _ ⟨CH,CV⟩) | go_keep) (first
      | (go_at_call 167;go_must (refine (KW.out _).mono ?_);rintro e w' ⟨rfl,rfl⟩)
      | (refine Dn (by rfl) (.tmp 118) (.tmp 129) 95 (by rfl) W4.heap.size 22 i0 (.int .u64 0) 1 8 Tryz.underlying95 hi hz0 hz1 hz2 rfl (by decide) _ j _ (by simp[Act.eval];rfl) (by exact HOW.out.alloc _) ⟨wr.heap.size,0,none⟩ 1 1 [.int .u64 (x:Int)] (by simp[Act.eval]) rfl (by exact BK wr #[_] _) (by simp[Value.oneCell']) (by unfold maxLen;omega) (by omega) (by simp;omega) ?_;intro v2 w2 hown2 hgrow2))
     all_goals
      rename_i hH
      clear hH
      go_wp2_with fail
      go_roundw
      case rel =>
       refine⟨j+1,by omega,congrArg (Value.int .i64) (by omega),?_,((Al HBQ.out _).drew).grown hgrow2 (by simp;omega) (fun q hq=>(HOW.out.lt q hq).1)⟩
       rw[HS.out,GG]
       exact hown2
      case measure =>
       simp[Go.RowKit.intOf]
       omega
    ·obtain rfl:j=8:=by omega
     have p2:¬ (8:Int)<8:=by omega
     have hs4:=HB4.out.size
     have HOW:=Lh (ag hown hs4)
     have HBF:=Lh (HB4.out.trans (hbe.mono hs4))
     clear hown hbe
     go_wp2_with fail
     go_ret
     exact⟨_,rfl,by rw[HST.out];exact HOW.out,HBF.out⟩
theorem WZ (bx cap n k:Nat) (w:World) (hx:IsN w (some ⟨bx,0,none⟩) 5 cap n) (h1:1≤k) (h3:k≤3) :
    Calls Tryz.prog 169 #[.slice (some ⟨bx,0,none⟩) 5 cap,.int .i64 (k:Int)] w fun e w'=>∃ g c,e=.returned (.slice (some ⟨g,0,none⟩) (5*k) c)∧IsN w' (some ⟨g,0,none⟩) (5*k) c (n^k)∧Below w.heap.size w w':=by
 have k3:(k:Int)≤3:=by omega
 have HX:=Lh hx
 clear hx
 go_enter Tryz.func169,Tryz.ntmps169
 go_wp2_with fail
 go_loopw [5,6] (fun y i wr=>∃ j g c:Nat,1≤j∧j≤k∧i=.int .i64 (j:Int)∧y=.slice (some ⟨g,0,none⟩) (5*j) c∧IsN wr (some ⟨g,0,none⟩) (5*j) c (n^j)∧Below w.heap.size w wr) (fun _ i _=>k-(intOf i).toNat)
 case atStart=>exact⟨1,bx,cap,by omega,by omega,rfl,rfl,by rw[Nat.pow_one];exact HX.out,Below.refl _ _⟩
 case round =>
  obtain⟨j,g,c,j1,jk,rfl,rfl,hy,hb⟩:=hrel
  have HY:=Lh hy
  clear hy
  by_cases hlt:j<k
  ·have q1:(j:Int)<(k:Int):=by omega
   have KM:=Lh (Md g bx (5*j) c 5 cap (n^j) n wr HY.out (A6 HX.out hb) (by omega) (by omega) (by omega) (by omega))
   clear HY
   go_wp2_with fail
   refine KM.out.mono ?_
   rintro e w1 ⟨g1,rfl,ho,_,hb1⟩
   have HO:=Lh ho
   have hb2:=hb.trans (hb1.mono hb.size)
   clear ho hb1
   go_wp2_with fail
   go_roundw
   case rel =>
    refine⟨j+1,g1,5*j+5,by omega,by omega,by go_num,?_,?_,hb2⟩
    ·rw[show 5*(j+1)=5*j+5 by omega]
    ·rw[show 5*(j+1)=5*j+5 by omega,Nat.pow_succ]
     exact HO.out.is _ (Nat.le_refl _)
   case measure=>simp[intOf];omega
  ·have hj:j=k:=by omega
   subst hj
   go_wp2_with fail
   go_ret
   exact⟨g,c,rfl,HY.out,hb⟩
theorem bf (s i:Nat):dg (s/2) i=dg s i/2+dg s (i+1)%2*32768:=by
 unfold dg
 rw[Nat.div_div_eq_div_mul,Nat.mul_comm 2,← Nat.div_div_eq_div_mul,Nat.pow_succ,← Nat.div_div_eq_div_mul]
 omega
def T72:Nat:=4722366482869645213696
theorem Ox:(Bw (dg 0) 5).toArray=#[.int .u64 0,.int .u64 0,.int .u64 0,.int .u64 0,.int .u64 0]:=by kernel_rfl
theorem Ml:(Bw (dg T72) 5).toArray=#[.int .u64 0,.int .u64 0,.int .u64 0,.int .u64 0,.int .u64 256]:=by kernel_rfl
theorem Yb:(Bw (dg 1) 1).toArray=#[.int .u64 1]:=by kernel_rfl
theorem fR (n m j:Nat) (hn:n<65536):dg (n*65536^m) j=if j=m then n else if j<m then 0 else 0:=by
 unfold dg
 split
 ·rename_i h
  subst h
  rw[Nat.mul_div_cancel _ (Ei j),Nat.mod_eq_of_lt hn]
 ·split
  ·rename_i h
   obtain⟨d,rfl⟩:∃ d,m=d+1+j:=⟨m-j-1,by omega⟩
   rw[Nat.pow_add,← Nat.mul_assoc,Nat.mul_div_cancel _ (Ei j),Nat.pow_succ,← Nat.mul_assoc,Nat.mul_mod_left]
  ·have h:n*65536^m<65536^j:=by
     have h1:n*65536^m<65536*65536^m:=Nat.mul_lt_mul_of_pos_right hn (Ei m)
     have h2:65536*65536^m=65536^(m+1):=by rw[Nat.pow_succ,Nat.mul_comm]
     have h3:65536^(m+1)≤65536^j:=Nat.pow_le_pow_right (by decide) (by omega)
     omega
   rw[Nat.div_eq_of_lt h]
theorem af (n m:Nat) (hn:n<65536):n*65536^m<65536^(m+1):=by
 rw[Nat.pow_succ,Nat.mul_comm]
 exact Nat.mul_lt_mul_of_pos_left hn (Ei m)
theorem XH (n k:Nat) (hn:n<65536) (hk:k=2∨k=3):n*65536^(4*k)<T72^k:=by
 have e:(65536:Nat)^(4*k)=B64^k:=by rw[Nat.pow_mul];rfl
 have e2:T72=256*B64:=by decide
 rw[e,e2,Nat.mul_pow]
 refine Nat.mul_lt_mul_of_pos_right ?_ (Nat.pow_pos B9)
 rcases hk with rfl | rfl
 ·exact hn
 ·exact Nat.lt_of_lt_of_le hn (by decide)
theorem By.of_row {w:World} {b N n:Nat} {p:Nat→Nat} (h:w.heap[b]?=some (.cells (Bw p N).toArray 22 (0,0))) (hp:∀ k,k<N→p k=dg n k) (hn:n<65536^N) (hN:N≤200):By w b N n :=
 ⟨by rw[← ER hp];exact h,hn,hN⟩
theorem Qi (w:World) (z o:Obj):((w.alloc z).alloc o).heap[w.heap.size+1]?=some o:=by
 have:=Aj (w.alloc z) o
 rw[Ae] at this
 exact this
theorem Ma {B:Nat} {w0 w1:World} (h:Below B w0 w1) (hs:B≤w1.heap.size) (o:Obj):Below B w0 (w1.alloc o):=h.alloc hs o
def mkW (w:World) (N:Nat):World:=w.alloc (.cells (Bw (fun _=>0) N).toArray 22)
theorem Ra (n k:Nat) (w:World) (h1:1≤n) (h2:n<65536) (hk:k=2∨k=3) :
    Calls Tryz.prog 122 #[.int .i64 (n:Int),.int .i64 (k:Int)] w fun e w'=>∃ x,x<T72∧x^k≤n*65536^(4*k)∧n*65536^(4*k)<(x+1)^k∧e=.returned (.int .u64 (wd x 0:Int))∧Below w.heap.size w w':=by
 have n1:¬ (n:Int)<1:=by omega
 have n2:¬ (65535:Int)<(n:Int):=by omega
 have n3:(n:Int)<65536:=by omega
 have k3:(k:Int)≤3:=by omega
 have k2:(2:Int)≤(k:Int):=by omega
 obtain⟨K,hK⟩:=exzb (4*k)
 have e4:4*(k:Int)=(K:Int):=by omega
 have K12:(K:Int)≤12:=by omega
 have mk:(Instr.makeSlice 95 (.int .i64 ((K:Int)+1)) (.int .i64 ((K:Int)+1))).run Tryz.prog w=.ok (.slice (some ⟨w.heap.size,0,none⟩) (K+1) (K+1)) (mkW w (K+1)):=DJ (K+1) ((K:Int)+1) (by omega) (by omega) w
 have mh:(mkW w (K+1)).heap[w.heap.size]?=some (.cells (Bw (fun _=>0) (K+1)).toArray 22 (0,0)):=Aj w _
 have mb:Below w.heap.size w (mkW w (K+1)):=Al (Below.refl _ _) _
 have ms:(mkW w (K+1)).heap.size=w.heap.size+1:=Ae w _
 generalize mkW w (K+1)=X at *
 obtain⟨c0,f0⟩:=Af mh (BC (fun _=>0) (K+1) K (by omega))
 have MS:=Lh (AF (i:=K) mh (.int .u64 (n:Int)))
 have MB:=Lh (mb.setCell (p:=⟨w.heap.size,K,none⟩) (Nat.le_refl _) (.int .u64 (n:Int)))
 clear mh mb
 have kn:(K:Int).toNat=K:=by omega
 have HP:=Lh (XH n k h2 hk)
 have HF:=Lh (af n (4*k) h2)
 rw[hK] at HP HF
 have hT:n*65536^(4*k)=n*65536^K:=by rw[hK]
 rw[hT]
 have HKK:=Lh hK
 clear hK hT
 have HK:=Lh hk
 clear hk
 go_enter Tryz.func122,Tryz.ntmps122
 go_wp2_with fail
 clear mk
 have hNe:∀ j,j<K+1→upd (fun _=>0) K n j=dg (n*65536^K) j:=fun j hj=>by
  rw[fR n K j h2]
  unfold upd
  split
  ·rfl
  ·split <;> rfl
 have hN:By (X.setCell ⟨w.heap.size,K,none⟩ (.int .u64 (n:Int))) w.heap.size (K+1) (n*65536^K):=By.of_row (by rw[← DC];exact MS.out) hNe HF.out (by omega)
 have hs0:(X.setCell ⟨w.heap.size,K,none⟩ (.int .u64 (n:Int))).heap.size=w.heap.size+1:=by
  show (X.heap.modify _ _).size=_
  rw[Array.size_modify];exact ms
 have hl:=AP (Aj (X.setCell ⟨w.heap.size,K,none⟩ (.int .u64 (n:Int))) (.cells (Bw (dg 0) 5).toArray 22)) (.cells (Bw (dg T72) 5).toArray 22)
 have hh:=Qi (X.setCell ⟨w.heap.size,K,none⟩ (.int .u64 (n:Int))) (.cells (Bw (dg 0) 5).toArray 22) (.cells (Bw (dg T72) 5).toArray 22)
 have hNN:=hN.below (Al (Al (Below.refl _ _) (.cells (Bw (dg 0) 5).toArray 22)) (.cells (Bw (dg T72) 5).toArray 22))
 have hbb:=Ma (Ma MB.out (by rw[hs0];omega) (.cells (Bw (dg 0) 5).toArray 22)) (by rw[Ae,hs0];omega) (.cells (Bw (dg T72) 5).toArray 22)
 rw[hs0] at hl hh
 rw[Ox,Ml] at hbb hNN
 rw[Ox,Ml] at hl hh
 generalize ((X.setCell ⟨w.heap.size,K,none⟩ (.int .u64 (n:Int))).alloc (.cells #[.int .u64 0,.int .u64 0,.int .u64 0,.int .u64 0,.int .u64 0] 22)).alloc (.cells #[.int .u64 0,.int .u64 0,.int .u64 0,.int .u64 0,.int .u64 256] 22)=X2 at *
 rw[← Ox] at hl
 rw[← Ml] at hh
 have OL:By X2 (w.heap.size+1) 5 0:=⟨hl,by decide,by omega⟩
 have OH:By X2 (w.heap.size+1+1) 5 T72:=⟨hh,by decide,by omega⟩
 obtain⟨N,hNdef⟩:=exzb (n*65536^K)
 rw[hNdef] at HP hNN
 have HND:=Lh hNdef
 have HIN:=Lh (And.intro (OL.is 5 (Nat.le_refl _)) (And.intro (OH.is 5 (Nat.le_refl _)) (And.intro hNN hbb)))
 clear hl hh hN hs0 hNN hbb OL OH MS MB HF hNe hNdef c0 f0 ms
 have hk3:k≤3:=by omega
 have hk1:1≤k:=by omega
 have HK0:=Lh (show 0<k by omega)
 go_loopg [6,7] T72 (fun gk lo hi wr=>∃ gl cl gh ch L H:Nat,lo=.slice (some ⟨gl,0,none⟩) 5 cl∧hi=.slice (some ⟨gh,0,none⟩) 5 ch∧IsN wr (some ⟨gl,0,none⟩) 5 cl L∧IsN wr (some ⟨gh,0,none⟩) 5 ch H∧L<H∧H≤T72∧gk=H-L∧L^k≤N∧N<H^k∧By wr w.heap.size (K+1) N∧Below w.heap.size w wr)
 case atStart =>
  exact⟨_,_,_,_,0,T72,rfl,rfl,HIN.out.1,HIN.out.2.1,by decide,Nat.le_refl _,rfl,by rw[Nat.zero_pow HK0.out];exact Nat.zero_le _,HP.out,HIN.out.2.2.1,HIN.out.2.2.2⟩
 case round =>
  clear HIN
  obtain⟨gl,cl,gh,ch,L,H,rfl,rfl,hl,hh,hLH,hH,hgk,hLk,hHk,hn,hb⟩:=hrel
  have HL:=Lh hl
  have HH:=Lh hh
  have HN:=Lh hn
  have HB:=Lh hb
  have HLK:=Lh hLk
  have HHK:=Lh hHk
  have HGK:=Lh hgk
  clear hl hh hn hb hLk hHk hgk
  have h1w:By (wr.alloc (.cells #[.int .u64 1] 22)) wr.heap.size 1 1:=⟨by rw[Yb];exact Aj wr _,by decide,by omega⟩
  have KA:=Fe (some ⟨gl,0,none⟩) (some ⟨wr.heap.size,0,none⟩) 5 cl 1 1 L 1 (wr.alloc (.cells #[.int .u64 1] 22)) (A6 HL.out (Al (Below.refl _ _) _)) (h1w.is 1 (Nat.le_refl _)) (by omega) (by omega)
  rw[show max 5 1+1=6 from rfl] at KA
  have HKA:=Lh KA
  clear KA h1w
  go_wp2_with fail
  refine HKA.out.mono ?_
  rintro e w1 ⟨g1,rfl,ho1,_,hb1⟩
  clear HKA
  have hb1':Below wr.heap.size wr w1:=GO (Al (Below.refl _ _) _) hb1
  have KL:=Gz (some ⟨g1,0,none⟩) (some ⟨gh,0,none⟩) 6 6 5 ch (L+1) H w1 (ho1.is 6 (Nat.le_refl _)) (A6 HH.out hb1')
  have L1:=Lh (fun q=>A6 HL.out (AV hb1' q))
  have H1:=Lh (fun q=>A6 HH.out (AV hb1' q))
  have N1:=Lh (fun q=>HN.out.below (AV hb1' q))
  have B1:=Lh (fun q=>HB.out.trans ((AV hb1' q).mono HB.out.size))
  clear HL HH HN HB ho1 hb1 hb1'
  by_cases hc:L+1<H
  ·rw[decide_eq_true hc] at KL
   have HKL:=Lh KL
   have HC:=Lh hc
   clear KL
   go_wp2_with fail
   refine HKL.out.mono ?_
   rintro e w2 ⟨rfl,nq,rfl⟩
   clear HKL
   have KA:=Fe (some ⟨gl,0,none⟩) (some ⟨gh,0,none⟩) 5 cl 5 ch L H (w1.drewN nq) (L1.out nq) (H1.out nq) (by omega) (by omega)
   rw[show max 5 5+1=6 from rfl] at KA
   have HKA:=Lh KA
   clear KA
   go_wp2_with fail
   refine HKA.out.mono ?_
   rintro e w3 ⟨g2,rfl,ho3,_,hb3⟩
   clear HKA
   have LL:=Lh (A6 (L1.out nq) hb3)
   have HHH:=Lh (A6 (H1.out nq) hb3)
   have NN:=Lh ((N1.out nq).below hb3)
   have BB:=Lh ((B1.out nq).trans (hb3.mono (B1.out nq).size))
   have OS:=Lh ho3
   clear L1 H1 N1 B1 hb3 ho3
   have mk:(Instr.makeSlice 95 (.int .i64 5) (.int .i64 5)).run Tryz.prog w3=.ok (.slice (some ⟨w3.heap.size,0,none⟩) 5 5) (mkW w3 5):=DJ 5 5 rfl (by omega) w3
   have mh:(mkW w3 5).heap[w3.heap.size]?=some (.cells (Bw (fun _=>0) 5).toArray 22 (0,0)):=Aj w3 _
   have mb:Below w3.heap.size w3 (mkW w3 5):=Al (Below.refl _ _) _
   generalize mkW w3 5=X5 at *
   have MH:=Lh mh
   have MB:=Lh mb
   clear mh mb
   obtain⟨M,hM⟩:=exzb ((L+H)/2)
   have hMd:=fun i=>bf (L+H) i
   rw[hM] at hMd
   have HMD:=Lh hMd
   have hM1:L<M∧M<H:=by omega
   have hM72:M<65536^5:=by
    have h:T72<65536^5:=by decide
    omega
   have HM72:=Lh hM72
   clear hMd hM hM72
   go_wp2_with fail
   clear mk
   go_loopw [10] (fun i wv=>∃ i':Nat,∃ p:Nat→Nat,i'≤5∧i=.int .i64 (i':Int)∧(∀ j,j<i'→p j=dg M j)∧wv.heap[w3.heap.size]?=some (.cells (Bw p 5).toArray 22 (0,0))∧Below w3.heap.size w3 wv) (fun i _=>5-(intOf i).toNat)
   case atStart=>exact⟨0,fun _=>0,by omega,rfl,fun j h=>absurd h (by omega),MH.out,MB.out⟩
   case round =>
    clear MH MB
    obtain⟨i,p,hi,rfl,hp,hr,hbv⟩:=hrel
    by_cases hlt:i<5
    ·have i1:(i:Int)<5:=by omega
     have os:=OS.out.below hbv
     have c0:=(Af os.1 (BC _ 6 i (by omega))).1
     have c1:=(Af os.1 (BC _ 6 (i+1) (by omega))).1
     obtain⟨c4,f4⟩:=Af hr (BC p 5 i hlt)
     have HSET:=Lh (AF (i:=i) hr (.int .u64 (dg M i:Int)))
     have hd:=HMD.out i
     have hx:=Dx (L+H) i
     have hy:=Dx (L+H) (i+1)
     have HP2:=Lh hp
     clear os hr hp
     generalize dg (L+H) i=x at *
     generalize dg (L+H) (i+1)=y at *
     generalize p i=z at c4
     generalize hD:dg M i=D at *
     have HD:=Lh hD
     clear hD
     have t1:(x:Int).tdiv 2=(x:Int)/2:=Int.tdiv_eq_ediv_of_nonneg (by omega)
     have t2:(y:Int).tmod 2=(y:Int)%2:=Int.tmod_eq_emod_of_nonneg (by omega)
     have r0:IntKind.i64.wrap ((i:Int)+1)=(i:Int)+1:=IntWalk.i64_in _ (by omega)
     have n1:((i:Int)+1).toNat=i+1:=by omega
     have n2:(i:Int)+1<6:=by omega
     have r1:IntKind.u64.wrap ((x:Int)/2)=(x:Int)/2:=IntWalk.u64_in _ (by omega)
     have r2:IntKind.u64.wrap ((y:Int)%2*32768)=(y:Int)%2*32768:=IntWalk.u64_in _ (by omega)
     have r3:IntKind.u64.wrap ((x:Int)/2+(y:Int)%2*32768)=(D:Int):=by
      rw[IntWalk.u64_in _ (by omega)];omega
     have HDD:=Lh hd
     clear hd
     go_wp2_with fail
     go_region
     all_goals
      go_wp2_with fail
      go_roundw
      case rel =>
       refine⟨i+1,upd p i D,by omega,rfl,?_,?_,?_⟩
       ·intro j hj
        unfold upd
        split
        ·rename_i h;subst h;exact HD.out.symm
        ·exact HP2.out j (by omega)
       ·have h:=HSET.out
        rw[DC] at h
        exact h
       ·first | exact (hbv.setCell (p:=⟨w3.heap.size,i,none⟩) (Nat.le_refl _) _).drew | exact hbv.setCell (p:=⟨w3.heap.size,i,none⟩) (Nat.le_refl _) _
      case measure =>
       try simp only[intOf]
       omega
    ·obtain rfl:i=5:=by omega
     have hm:By wr w3.heap.size 5 M:=By.of_row hr hp HM72.out (by omega)
     clear hr hp HMD
     have KP:=WZ w3.heap.size 5 M k wr (hm.is 5 (Nat.le_refl _)) hk1 hk3
     have HKP:=Lh KP
     have LM:=Lh (A6 LL.out hbv)
     have HM:=Lh (A6 HHH.out hbv)
     have NM:=Lh (NN.out.below hbv)
     have BM:=Lh (BB.out.trans (hbv.mono BB.out.size))
     have MM:=Lh hm
     clear KP hm hbv
     go_wp2_with fail
     refine HKP.out.mono ?_
     rintro e w4 ⟨gp,cp,rfl,hpw,hb4⟩
     clear HKP
     have KL2:=Gz (some ⟨w.heap.size,0,none⟩) (some ⟨gp,0,none⟩) (K+1) (K+1) (5*k) cp N (M^k) w4 ((NM.out.below hb4).is (K+1) (Nat.le_refl _)) hpw
     have LM4:=Lh (fun q=>A6 LM.out (AV hb4 q))
     have HM4:=Lh (fun q=>A6 HM.out (AV hb4 q))
     have NM4:=Lh (fun q=>NM.out.below (AV hb4 q))
     have BM4:=Lh (fun q=>BM.out.trans ((AV hb4 q).mono BM.out.size))
     have MM4:=Lh (fun q=>(MM.out.below (AV hb4 q)).is 5 (Nat.le_refl _))
     clear LM HM NM BM MM hpw hb4
     by_cases hq:N<M^k
     ·rw[decide_eq_true hq] at KL2
      have HKL2:=Lh KL2
      have HQ:=Lh hq
      clear KL2 hq
      go_wp2_with fail
      refine HKL2.out.mono ?_
      rintro e w5 ⟨rfl,mq,rfl⟩
      clear HKL2
      go_wp2_with fail
      go_roundg (M-L)
      case rel=>exact⟨_,_,_,_,L,M,rfl,rfl,LM4.out mq,MM4.out mq,hM1.1,by omega,rfl,HLK.out,HQ.out,NM4.out mq,BM4.out mq⟩
      case measure=>rw[HGK.out];omega
     ·rw[decide_eq_false hq] at KL2
      have HKL2:=Lh KL2
      have HQ:=Lh (Nat.le_of_not_lt hq)
      clear KL2 hq
      go_wp2_with fail
      refine HKL2.out.mono ?_
      rintro e w5 ⟨rfl,mq,rfl⟩
      clear HKL2
      go_wp2_with fail
      go_roundg (H-M)
      case rel=>exact⟨_,_,_,_,M,H,rfl,rfl,MM4.out mq,HM4.out mq,hM1.2,hH,rfl,HQ.out,HHK.out,NM4.out mq,BM4.out mq⟩
      case measure=>rw[HGK.out];omega
  ·rw[decide_eq_false hc] at KL
   have HKL:=Lh KL
   have hLH2:L+1=H:=by omega
   have HE:=Lh hLH2
   clear KL hc hLH2
   go_wp2_with fail
   refine HKL.out.mono ?_
   rintro e w2 ⟨rfl,nq,rfl⟩
   have KT:=Ur (some ⟨gl,0,none⟩) 5 cl L 0 (w1.drewN nq) (L1.out nq) (by omega)
   have hL4:L<B64^4:=Nat.lt_of_lt_of_le (by omega:L<T72) (by decide)
   rw[Nat.pow_zero,Nat.div_one,Nat.mod_eq_of_lt hL4,show Aa L=.agg #[.int .u64 (wd L 0:Int),.int .u64 (wd L 1:Int),.int .u64 (wd L 2:Int),.int .u64 (wd L 3:Int)] from rfl] at KT
   have HKT:=Lh KT
   have ix:∀ w3,(Instr.index 23 (.agg #[.int .u64 (wd L 0:Int),.int .u64 (wd L 1:Int),.int .u64 (wd L 2:Int),.int .u64 (wd L 3:Int)]) (.int .i64 0)).run Tryz.prog w3=.ok (.int .u64 (wd L 0:Int)) w3:=fun w3=>rfl
   have BQ:=Lh (B1.out nq)
   clear KT hL4 HKL L1 H1 N1 B1
   go_wp2_with fail
   refine HKT.out.mono ?_
   rintro e w3 ⟨rfl,hb3⟩
   go_wp2_with fail
   go_ret
   exact⟨L,by omega,by rw[HND.out];exact HLK.out,by rw[HND.out,HE.out];exact HHK.out,rfl,BQ.out.trans (hb3.mono BQ.out.size)⟩
theorem L5 (a b:Nat) (w:World) (ha:a<B64^4) (hb:b<B64^4) (hl:a*b<B64^4) :
    Calls Tryz.prog 99 #[Aa a,Aa b] w fun e w'=>e=.returned (.tuple #[.agg #[.int .u64 (wd (a*b) 0:Int),.int .u64 (wd (a*b) 1:Int),.int .u64 (wd (a*b) 2:Int),.int .u64 (wd (a*b) 3:Int)],.agg #[.int .u64 0,.int .u64 0,.int .u64 0,.int .u64 0]])∧Below w.heap.size w w':=by
 have h:=Lk a b w ha hb
 rw[Nat.mod_eq_of_lt hl,Nat.div_eq_of_lt hl] at h
 have e0:Aa 0=.agg #[.int .u64 0,.int .u64 0,.int .u64 0,.int .u64 0]:=by simp[Aa,wd]
 rw[e0] at h
 exact h
theorem fl (x whole B:Nat) (w:World) (hx:x<4722366482869645213696) (hw:whole<B64^4) (hB:w.heap[B]?=some (.cells (An whole).toArray 24 (0,0))) :
    Calls Tryz.prog 176 #[Aa x,.pointer (some ⟨B,0,none⟩)] w fun e w'=>e=.returned (.bool (decide (whole<x*x)))∧Below w.heap.size w w':=by
 have hlt:B<w.heap.size:=by
  apply Nat.lt_of_not_le
  intro hle
  rw[Array.getElem?_eq_none hle] at hB
  simp at hB
 have hx4:x<B64^4:=Nat.lt_trans hx (by decide)
 have hxx:x*x<B64^4:=Nat.lt_of_lt_of_le (Nat.mul_lt_mul'' hx hx) (by decide)
 have hcm:decide (0<Eg (x*x) whole)=decide (whole<x*x):=by
  unfold Eg
  rcases Nat.lt_trichotomy (x*x) whole with h | h | h
  ·rw[if_pos h];simp;omega
  ·rw[h];simp
  ·rw[if_neg (by omega),if_pos h];simp[h]
 have c0:=(Af hB (Ai whole 0 (by omega))).1
 have c1:=(Af hB (Ai whole 1 (by omega))).1
 have c2:=(Af hB (Ai whole 2 (by omega))).1
 have c3:=(Af hB (Ai whole 3 (by omega))).1
 have MU:=fun w=>L5 x x w hx4 hx4 hxx
 have CM:=fun w=>Jk (x*x) whole w hxx hw
 generalize hC:Eg (x*x) whole=C at CM hcm
 have HCM:=Lh hcm
 clear hcm hC hxx hx hw hx4
 unfold Aa at MU CM ⊢
 generalize x*x=X at MU CM HCM
 have HB:=Lh hB
 clear hB
 go_enter Tryz.func176,Tryz.ntmps176
 go_wp2_with fail
 go_at_call 99
 refine (MU _).mono ?_
 rintro e w1 ⟨rfl,hb1⟩
 have hsz:=hb1.size
 rw[Ae] at hsz
 have hB1:w1.heap[B]?=some (.cells (An whole).toArray 24 (0,0)):=(hb1.block B (by rw[Ae];omega)).trans ((AQ _ _ _ hlt).trans HB.out)
 have k0:=(Af hB1 (Ai whole 0 (by omega))).1
 have k1:=(Af hB1 (Ai whole 1 (by omega))).1
 have k2:=(Af hB1 (Ai whole 2 (by omega))).1
 have k3:=(Af hB1 (Ai whole 3 (by omega))).1
 have hl1:B<w1.heap.size:=by omega
 have hbw:Below w.heap.size w w1:=(Al (Below.refl _ _) _).trans (hb1.mono (by rw[Ae];omega))
 clear hb1 hB1 c0 c1 c2 c3
 go_wp2_with (go_at_call 74;refine (CM _).mono ?_;rintro e w2 ⟨rfl,hb2⟩)
 go_ret
 refine⟨EM HCM.out,hbw.trans (Below.mono ((Al (Al (Below.refl _ _) _) _).trans (hb2.mono ?_)) (by omega))⟩
 simp only[Ae]
 omega
theorem gb (x whole B:Nat) (w:World) (hx:x<4722366482869645213696) (hw:whole<B64^4) (hB:w.heap[B]?=some (.cells (An whole).toArray 24 (0,0))) :
    Calls Tryz.prog 177 #[Aa x,.pointer (some ⟨B,0,none⟩)] w fun e w'=>e=.returned (.bool (decide (whole<x*x*x)))∧Below w.heap.size w w':=by
 have hlt:B<w.heap.size:=by
  apply Nat.lt_of_not_le
  intro hle
  rw[Array.getElem?_eq_none hle] at hB
  simp at hB
 have hx4:x<B64^4:=Nat.lt_trans hx (by decide)
 have hx2:=Nat.mul_lt_mul'' hx hx
 have hxx:x*x<B64^4:=Nat.lt_of_lt_of_le hx2 (by decide)
 have hxxx:x*x*x<B64^4:=Nat.lt_of_lt_of_le (Nat.mul_lt_mul'' hx2 hx) (by decide)
 have hcm:decide (0<Eg (x*x*x) whole)=decide (whole<x*x*x):=by
  unfold Eg
  rcases Nat.lt_trichotomy (x*x*x) whole with h | h | h
  ·rw[if_pos h];simp;omega
  ·rw[h];simp
  ·rw[if_neg (by omega),if_pos h];simp[h]
 have MU:=fun w=>L5 x x w hx4 hx4 hxx
 have MV:=fun w=>L5 (x*x) x w hxx hx4 hxxx
 have CM:=fun w=>Jk (x*x*x) whole w hxxx hw
 generalize hC:Eg (x*x*x) whole=C at CM hcm
 have HCM:=Lh hcm
 clear hcm hC hxx hx hw hx4 hxxx hx2
 unfold Aa at MU MV CM ⊢
 generalize x*x*x=Y at MV CM HCM
 generalize x*x=X at MU MV
 have HB:=Lh hB
 have HX:=Lh (Aj w (.cells (An x).toArray 24))
 clear hB
 go_enter Tryz.func177,Tryz.ntmps177
 go_wp2_with fail
 go_at_call 99
 refine (MU _).mono ?_
 rintro e w1 ⟨rfl,hb1⟩
 have hsz:=hb1.size
 rw[Ae] at hsz
 have hB1:Hid (w1.heap[B]?=some (.cells (An whole).toArray 24 (0,0))):=(hb1.block B (by rw[Ae];omega)).trans ((AQ _ _ _ hlt).trans HB.out)
 have hX1:w1.heap[w.heap.size]?=some (.cells (An x).toArray 24 (0,0)):=(hb1.block w.heap.size (by rw[Ae];omega)).trans HX.out
 have k0:=(Af hX1 (Ai x 0 (by omega))).1
 have k1:=(Af hX1 (Ai x 1 (by omega))).1
 have k2:=(Af hX1 (Ai x 2 (by omega))).1
 have k3:=(Af hX1 (Ai x 3 (by omega))).1
 have hl1:B<w1.heap.size:=by omega
 have hl2:w.heap.size<w1.heap.size:=by omega
 have hbw:Below w.heap.size w w1:=(Al (Below.refl _ _) _).trans (hb1.mono (by rw[Ae];omega))
 clear hb1 hX1 HX HB
 go_wp2_with fail
 go_at_call 99
 refine (MV _).mono ?_
 rintro e w2 ⟨rfl,hb2⟩
 have hsz2:=hb2.size
 simp only[Ae] at hsz2
 have hB2:w2.heap[B]?=some (.cells (An whole).toArray 24 (0,0)):=(hb2.block B (by simp only[Ae];omega)).trans ((AQ _ _ _ (by rw[Ae];omega)).trans ((AQ _ _ _ hl1).trans hB1.out))
 have j0:=(Af hB2 (Ai whole 0 (by omega))).1
 have j1:=(Af hB2 (Ai whole 1 (by omega))).1
 have j2:=(Af hB2 (Ai whole 2 (by omega))).1
 have j3:=(Af hB2 (Ai whole 3 (by omega))).1
 have hl3:B<w2.heap.size:=by omega
 have hbw2:Below w.heap.size w w2:=hbw.trans (Below.mono ((Al (Al (Below.refl _ _) _) _).trans (hb2.mono (by simp only[Ae];omega))) (by omega))
 clear hb2 hB2 hbw k0 k1 k2 k3
 go_wp2_with (go_at_call 74;refine (CM _).mono ?_;rintro e w3 ⟨rfl,hb3⟩)
 go_ret
 refine⟨EM HCM.out,hbw2.trans (Below.mono ((Al (Al (Below.refl _ _) _) _).trans (hb3.mono ?_)) (by omega))⟩
 simp only[Ae]
 omega
theorem Uz (u m r:Nat) (hr:r<64) (hu:u=m*2^(r+1)):(u+2^r)%B64=u%B64+2^r∧(u+2^r)/B64=u/B64∧∃ t,u%B64=t*2^(r+1):=by
 have hB:B64=2^(r+1)*2^(63-r):=by rw[← Nat.pow_add,show r+1+(63-r)=64 by omega];rfl
 have hm:u%B64=2^(r+1)*(m%2^(63-r)):=by rw[hu,Nat.mul_comm m,hB,Nat.mul_mod_mul_left]
 have hlt:m%2^(63-r)+1≤2^(63-r):=Nat.mod_lt _ (Nat.two_pow_pos _)
 have h1:2^(r+1)*(m%2^(63-r)+1)≤B64:=by rw[hB];exact Nat.mul_le_mul_left _ hlt
 have h2:2^r<2^(r+1):=Nat.pow_lt_pow_right (by omega) (by omega)
 rw[Nat.mul_add,Nat.mul_one,← hm] at h1
 have h3:u%B64+2^r<B64:=by omega
 have hd:=Nat.div_add_mod u B64
 have h4:u+2^r=(u%B64+2^r)+B64*(u/B64):=by omega
 refine⟨?_,?_,m%2^(63-r),by rw[hm,Nat.mul_comm]⟩
 ·rw[h4,Nat.add_mul_mod_self_left,Nat.mod_eq_of_lt h3]
 ·rw[h4,Nat.add_mul_div_left _ _ B9,Nat.div_eq_of_lt h3,Nat.zero_add]
theorem Mh (x m a:Nat) (ha:a<72) (hx:x=m*2^(a+1)) :
    (An x).set (a/64) (.int .u64 ((wd x (a/64)+2^(a%64):Nat):Int))=An (x+2^a)∧wd x (a/64)+2^(a%64)=wd (x+2^a) (a/64)∧∃ t,wd x (a/64)=t*2^(a%64+1):=by
 by_cases h:a<64
 ·have q:a/64=0:=by omega
  have r:a%64=a:=by omega
  obtain⟨h1,h2,h3⟩:=Uz x m a h hx
  rw[q,r,EI]
  refine⟨?_,by rw[EI,h1],h3⟩
  unfold An
  rw[EI (x+2^a),CA (x+2^a) 0,CA (x+2^a) 1,CA (x+2^a) 2,h1,h2,← CA,← CA,← CA]
  rfl
 ·obtain⟨r,hr⟩:∃ r,a=64+r:=⟨a-64,by omega⟩
  have q:a/64=1:=by omega
  have r':a%64=r:=by omega
  have hxu:x=(m*2^(r+1))*B64:=by
   rw[hx,hr,show 64+r+1=r+1+64 by omega,Nat.pow_add,← Nat.mul_assoc]
   rfl
  have hxd:x/B64=m*2^(r+1):=by rw[hxu,Nat.mul_div_cancel _ B9]
  have hpa:2^a=2^r*B64:=by rw[hr,Nat.add_comm,Nat.pow_add];rfl
  have hsum:x+2^a=(m*2^(r+1)+2^r)*B64:=by rw[hxu,hpa,Nat.add_mul]
  have hsd:(x+2^a)/B64=m*2^(r+1)+2^r:=by rw[hsum,Nat.mul_div_cancel _ B9]
  obtain⟨h1,h2,h3⟩:=Uz (m*2^(r+1)) m r (by omega) rfl
  have w1:wd x 1=m*2^(r+1)%B64:=by rw[CA,hxd,EI]
  rw[q,r']
  have z0:wd (x+2^a) 0=wd x 0:=by rw[EI,EI,hsum,hxu,Nat.mul_mod_left,Nat.mul_mod_left]
  have z1:wd (x+2^a) 1=wd x 1+2^r:=by rw[CA,hsd,EI,h1,w1]
  have z2:wd (x+2^a) 2=wd x 2:=by rw[CA,hsd,CA,h2,CA x 1,hxd,CA _ 0]
  have z3:wd (x+2^a) 3=wd x 3:=by rw[CA,hsd,CA,h2,CA x 2,hxd,CA _ 1]
  refine⟨?_,z1.symm,by rw[w1];exact h3⟩
  unfold An
  rw[z0,z1,z2,z3]
  rfl
theorem YP (w t r:Nat) (hr:r<64) (hw:w<18446744073709551616) (h:w=t*2^(r+1)):bits .or .u64 (w:Int) ((2^r:Nat):Int)=((w+2^r:Nat):Int):=by
 have h2:2^r<18446744073709551616:=Nat.pow_lt_pow_right (a:=2) (by omega) hr
 rw[bits_or_u64_nat _ _ (by omega) (by omega)]
 have h3:=Nat.shiftLeft_add_eq_or_of_lt (i:=r+1) (b:=2^r) (Nat.pow_lt_pow_right (by omega) (by omega)) t
 rw[Nat.shiftLeft_eq,← h] at h3
 rw[h3]
end Go.Proofs.YtnaldciakclccaaGreat
