/- Lemmas of this proof. -/
import Derived.Test.YtnaldciakclccaaGreatEv30
namespace Go.Proofs.YtnaldciakclccaaGreat
set_option maxRecDepth 20000
set_option maxHeartbeats 8000000
set_option linter.unusedSimpArgs false
set_option linter.unusedVariables false
open Go.RowKit Go.Sort
theorem Uv {L D D':List UInt8} (h:hs5 L D) (h':hs5 L D'):D=D':=by
 obtain⟨bl,q,c,rfl⟩:=h
 obtain⟨bl',q',c',rfl⟩:=h'
 obtain⟨rfl,rfl⟩:=DY.one c c'
 rfl
theorem Lm (a:Nat):a%LN<B64^4:=Nat.lt_trans (Nat.mod_lt _ FL) Hx
theorem Vw (n k r x z:Nat) (hx:k*n%LN=x) (hz:(r+x)%LN=z):Bj (AB k (Kw (AB n BD))) (AB z BD)=AB r BD:=by
 have oA:=Cc BD Dj n
 have oR:=Cc BD Dj r
 have oX:=Cc BD Dj x
 rw[gF r x z hz]
 have e1:AB x BD=AB k (AB n BD):=by rw[← hx,Nj,EW BD Dj]
 rw[e1]
 have oN:=Cc _ (JJ _ oA) k
 have oK:=Cc _ oA k
 rw[Da (AB r BD),← Cz _ _ _ oN oK oR,← Ke _ _ (JJ _ oA) oA,Da (Kw _),Y8 _ oA,IY,Ez _ oR]
theorem Fl (a b:ByteArray):(a++b).data.toList=a.data.toList++b.data.toList:=by
 show (a++b).data.toList=_
 simp
theorem gC (a b:ByteArray) (ha:a.size=32):(a++b).extract 0 32=a:=by
 have h:((a++b).extract 0 32).data.toList=a.data.toList:=by
  rw[DR,Fl,List.drop_zero]
  have hl:a.data.toList.length=32:=by simpa using ha
  rw[show 32-0=a.data.toList.length by rw[hl]]
  exact List.take_left' rfl
 exact Iu.1 (by rw[ByteArray.toList_eq,ByteArray.toList_eq,h])
theorem gM (a b:ByteArray) (ha:a.size=32):(a++b).extract 32 (a++b).size=b:=by
 have hl:a.data.toList.length=32:=by simpa using ha
 have h:((a++b).extract 32 (a++b).size).data.toList=b.data.toList:=by
  rw[DR,Fl]
  rw[show a.data.toList++b.data.toList=a.data.toList++b.data.toList from rfl,List.drop_left' hl]
  refine List.take_of_length_le ?_
  have:(a++b).size=a.size+b.size:=by simp
  have hb:b.data.toList.length=b.size:=by simp
  omega
 exact Iu.1 (by rw[ByteArray.toList_eq,ByteArray.toList_eq,h])
theorem fF (s:ByteArray) (hs:s.size=32) (M:List UInt8) (hM:M.length≤300):∃ (F2 PB RB SG:ByteArray) (n:Nat) (D1 D2:List UInt8),n=clN (leN ((Jl s.data.toList).take 32))∧PB=⟨(byL (E7 (AB n BD).1.val (AB n BD).2.val)).toArray⟩∧F2.data.toList=(Jl s.data.toList).drop 32∧hs5 (F2.data.toList++M) D1∧RB=⟨(byL (E7 (AB (leN D1%LN) BD).1.val (AB (leN D1%LN) BD).2.val)).toArray⟩∧hs5 (RB.data.toList++PB.data.toList++M) D2∧SG=RB++⟨(byL ((leN D1%LN+(leN D2%LN)*n%LN)%LN)).toArray⟩ ∧
    Hid (∀ (a2:Option Addr) (l2 c2:Nat) (ss2:List (List UInt8)) (w:World),ss2.flatten=M→l2=ss2.length→ss2.length≤1000→DN w a2 ss2→Calls Tryz.prog 14 #[.string s,.slice a2 l2 c2] w fun E w'=>E=.returned (.tuple #[.string SG,.int .i64 0])∧Below w.heap.size w w') ∧
    Hid (∀ (m:ByteArray) (w:World),m.data.toList=M→Calls Tryz.prog 15 #[.string s,.string m] w fun E w'=>E=.returned (.string SG)∧Below w.heap.size w w') ∧
    Hid (∀ w,Calls Tryz.prog 7 #[.string s] w fun E w'=>E=.returned (.tuple #[.string PB,.int .i64 0])∧Below w.heap.size w w') ∧
    Hid (∀ (a2:Option Addr) (l2 c2:Nat) (ss2:List (List UInt8)) (w:World),ss2.flatten=M→l2=ss2.length→ss2.length≤1000→DN w a2 ss2→Calls Tryz.prog 16 #[.string PB,.string SG,.slice a2 l2 c2] w fun E w'=>E=.returned (.int .i64 0)∧Below w.heap.size w w'):=by
 obtain⟨F2,PB,n,en,ePB,hF,hn,KO,KP,KR⟩:=f6 s hs
 have hFl:F2.data.toList.length=32:=by
  rw[hF,List.length_drop,Rc _ (by simpa using hs)]
 have hFs:F2.size=32:=by simpa using hFl
 have oA:=Cc BD Dj n
 obtain⟨dE,dP⟩:=aY (AB n BD) oA
 have hPs:PB.size=32:=by rw[ePB];exact EE _
 have hPl:PB.data.toList.length=32:=by simpa using hPs
 obtain⟨DD,oD,KD⟩:=MA PB hPs
 have KD:=Lh KD
 have hle:leN PB.data.toList=E7 (AB n BD).1.val (AB n BD).2.val:=by rw[ePB];exact Lg _ (UO _ _ (Fin.isLt _)).2.2
 rw[hle,dE] at KD
 rw[hle,dP] at oD
 obtain⟨D1,hD1⟩:=Ti (F2.data.toList++M)
 obtain⟨N1,eN1⟩:=exzb (leN D1%LN)
 have hN1:N1<B64^4:=by rw[← eN1];exact Lm _
 obtain⟨R,oR,KB⟩:=UC N1 hN1
 obtain⟨Q,oQ,KT⟩:=Iy LU N1 hN1
 obtain⟨RB,eRB⟩:∃ B:ByteArray,B=⟨(byL (E7 (AB N1 BD).1.val (AB N1 BD).2.val)).toArray⟩:=⟨_,rfl⟩
 have KE:=Lh (fun w=>FS oR w)
 have KE2:=Lh (fun w=>H8 oQ w)
 rw[← eRB] at KE KE2
 have hRs:RB.size=32:=by rw[eRB];exact EE _
 have hRl:RB.data.toList.length=32:=by simpa using hRs
 obtain⟨D2,hD2⟩:=Ti (RB.data.toList++PB.data.toList++M)
 obtain⟨N2,eN2⟩:=exzb (leN D2%LN)
 have hN2:N2<B64^4:=by rw[← eN2];exact Lm _
 obtain⟨X,eX⟩:=exzb (N2*n%LN)
 have hX:X<B64^4:=by rw[← eX];exact Lm _
 obtain⟨Z,eZ⟩:=exzb ((N1+X)%LN)
 have hZL:Z<LN:=by rw[← eZ];exact Nat.mod_lt _ FL
 have hZ:Z<B64^4:=Nat.lt_trans hZL Hx
 obtain⟨SB,eSB⟩:∃ B:ByteArray,B=⟨(byL Z).toArray⟩:=⟨_,rfl⟩
 have hSs:SB.size=32:=by rw[eSB];exact EE _
 have KSB:=Lh (fun w=>Er Z w)
 have KSR:=Lh (fun w=>MZ Z w)
 rw[← eSB] at KSB KSR
 obtain⟨SG,eSG⟩:=exzb (RB++SB)
 have KX:=Lh (fun g w h=>VS N2 n X hN2 hn eX g w h)
 have KZ:=Lh (fun g w h=>YM N1 X Z hN1 hX eZ g w h)
 have KXr:=Lh (fun w=>ON N2 n w hN2 hn)
 have KZr:=Lh (fun w=>Ym N1 X w hN1 hX)
 rw[eX] at KXr
 rw[eZ] at KZr
 have hgs:SG.size=64:=by
  have:(RB++SB).size=RB.size+SB.size:=by simp
  rw[← eSG,this,hRs,hSs]
 have c1:SG.extract 0 32=RB:=by rw[← eSG];exact gC RB SB hRs
 have cut2:SG.extract 32 SG.size=SB:=by rw[← eSG];exact gM RB SB hRs
 have KS:=Lh (fun w=>RI SB w hSs)
 have hlZ:leN SB.data.toList=Z:=by rw[eSB];exact Lg _ hZ
 rw[hlZ,if_pos hZL] at KS
 obtain⟨BV,oBV,KBV⟩:=MG (Le oD) N2 Z hN2 hZ
 rw[Vw n N2 N1 X Z eX eZ] at oBV
 have KEV:=Lh (fun w=>FS oBV w)
 rw[← eRB] at KEV
 have hp:(PB.size != 32)=false:=by rw[hPs];rfl
 have hg:(SG.size != 64)=false:=by rw[hgs];rfl
 refine⟨F2,PB,RB,SG,n,D1,D2,en,ePB,hF,hD1,?_,hD2,?_,?_,?_,KP,?_⟩
 ·rw[eN1];exact eRB
 ·rw[eN1,eN2,eX,eZ,← eSB];exact eSG.symm
 ·intro a2 l2 c2 ss2 w hf hl hl2 hst
  exact fX s F2 PB RB SB SG n N1 N2 X Z R a2 l2 c2 ss2 D1 D2 hl hl2 (by rw[hf];simpa using hD1) (by rw[hf];simpa using hD2) (by rw[hf];simp only[List.flatten_cons,List.flatten_nil,List.append_nil];omega) (by rw[hf];simp only[List.flatten_cons,List.flatten_nil,List.append_nil,List.length_append];omega) eN1 eN2 eSG (by omega) KO KB KE KX KZ KSB w hst
 ·intro m w hm
  have hms:m.size≤300:=by
   have:m.data.toList.length=m.size:=by simp
   rw[hm] at this
   omega
  have z1:(F2++m).size=F2.size+m.size:=by simp
  have z2:(RB++PB).size=RB.size+PB.size:=by simp
  have z3:(RB++PB++m).size=(RB++PB).size+m.size:=by simp
  have KN1:=Lh (fun w=>Gi (F2++m) D1 (by omega) (by rw[Fl,hm];exact hD1) w)
  have KN2:=Lh (fun w=>Gi (RB++PB++m) D2 (by omega) (by rw[Fl,Fl,hm];exact hD2) w)
  rw[eN1] at KN1
  rw[eN2] at KN2
  exact dW s m F2 PB RB SB SG _ _ _ n N1 N2 X Z Q rfl rfl rfl eSG (by omega) (by omega) (by omega) (by omega) KR KN1 KN2 KT KE2 KXr KZr KSR w
 ·intro a2 l2 c2 ss2 w hf hl hl2 hst
  exact OG PB SG a2 l2 c2 hp hg DD hgs RB SB c1 cut2 Z 0 0 0 KD KS oD ss2 hl hl2 D2 (by rw[hf];simpa using hD2) (by rw[hf];simp only[List.flatten_cons,List.flatten_nil,List.append_nil,List.length_append];omega) N2 eN2 BV KBV RB KEV (by simp) w hst
theorem ga (p g m:ByteArray) (hp3:p.size≤300) (hg3:g.size≤300) (hm3:m.size≤300):∃ e:Nat,
    Hid (∀ (a2:Option Addr) (l2 c2:Nat) (ss2:List (List UInt8)) (w:World),ss2.flatten=m.data.toList→l2=ss2.length→ss2.length≤1000→DN w a2 ss2→Calls Tryz.prog 16 #[.string p,.string g,.slice a2 l2 c2] w fun E w'=>E=.returned (.int .i64 (e:Int))∧Below w.heap.size w w') ∧
    Hid (∀ w,Calls Tryz.prog 17 #[.string p,.string g,.string m] w fun E w'=>E=.returned (.int .i64 (e:Int))∧Below w.heap.size w w'):=by
 by_cases hps:p.size=32
 ·have hp:(p.size != 32)=false:=by rw[hps];rfl
  by_cases hgs:g.size=64
  ·have hg:(g.size != 64)=false:=by rw[hgs];rfl
   obtain⟨D,oD,KD⟩:=MA p hps
   obtain⟨Dr,oDr,KDr⟩:=QR p hps
   have KD:=Lh KD
   have KDr:=Lh KDr
   obtain⟨N,eN⟩:=exzb (leN p.data.toList)
   rw[eN] at oD KD oDr KDr
   obtain⟨eD,heD⟩:=exzb (M9 N)
   rw[heD] at KD KDr
   obtain⟨G1,e1⟩:=exzb (g.extract 0 32)
   obtain⟨G2,e2⟩:=exzb (g.extract 32 g.size)
   have hgl:g.data.toList.length=64:=by simpa using hgs
   have h1s:G1.size=32:=by
    have h:G1.data.toList.length=32:=by rw[← e1,DR,List.length_take,List.drop_zero,hgl];rfl
    simpa using h
   have h2s:G2.size=32:=by
    have h:G2.data.toList.length=32:=by rw[← e2,DR,List.length_take,List.length_drop,hgl,hgs];rfl
    simpa using h
   have KS:=Lh (fun w=>RI G2 w h2s)
   have KSr:=Lh (fun w=>Em G2 h2s w)
   have hzB:=Uk G2 h2s
   obtain⟨z,ez⟩:=exzb (leN G2.data.toList)
   rw[ez] at KS KSr hzB
   have KL:=Lh (fun w=>RQ z w hzB)
   obtain⟨D2,hD2⟩:=Ti (G1.data.toList++p.data.toList++m.data.toList)
   obtain⟨N2,eN2⟩:=exzb (leN D2%LN)
   have hN2:N2<B64^4:=by rw[← eN2];exact Lm _
   have z2:(G1++p).size=G1.size+p.size:=by simp
   have z3:(G1++p++m).size=(G1++p).size+m.size:=by simp
   have KN:=Lh (fun w=>Gi (G1++p++m) D2 (by omega) (by rw[Fl,Fl];exact hD2) w)
   rw[eN2] at KN
   have hpl:p.data.toList.length=32:=by simpa using hps
   have h1l:G1.data.toList.length=32:=by simpa using h1s
   have hml:m.data.toList.length=m.size:=by simp
   obtain⟨Br,oBr,KBr⟩:=Xs (dC oDr) N2 z hN2 hzB
   have KEr:=Lh (fun w=>H8 oBr w)
   by_cases hz:z<LN
   ·rw[if_pos hz] at KS
    rw[decide_eq_true hz] at KL
    obtain⟨B,oB,KB⟩:=MG (Le oD) N2 z hN2 hzB
    have KE:=Lh (fun w=>FS oB w)
    obtain⟨EB,eEB⟩:∃ E:ByteArray,E=⟨(byL (E7 (Bj (AB N2 (Kw (Qx N))) (AB z BD)).1.val (Bj (AB N2 (Kw (Qx N))) (AB z BD)).2.val)).toArray⟩:=⟨_,rfl⟩
    rw[← eEB] at KE KEr
    refine⟨bif !decide (eD=0) then eD else bif !decide (0=0) then 0 else bif !decide (EB=G1) then 21 else 0,?_,?_⟩
    ·intro a2 l2 c2 ss2 w hf hl hl2 hst
     exact OG p g a2 l2 c2 hp hg D hgs G1 G2 e1 e2 z eD 0 _ KD KS oD ss2 hl hl2 D2 (by rw[hf];simpa using hD2) (by rw[hf];simp only[List.flatten_cons,List.flatten_nil,List.append_nil,List.length_append];omega) N2 eN2 B KB EB KE rfl w hst
    ·intro w
     exact PW p g m hp hg Dr hgs G1 G2 e1 e2 z eD 0 _ (fun h1 h2=>by subst h1;simp at h2) KDr KSr KL oDr _ _ rfl rfl (by omega) (by omega) N2 KN Br KBr EB KEr rfl w
   ·rw[if_neg hz] at KS
    rw[decide_eq_false hz] at KL
    obtain⟨B,oB,KB⟩:=MG (Le oD) N2 0 hN2 (by decide +kernel)
    have KE:=Lh (fun w=>FS oB w)
    refine⟨bif !decide (eD=0) then eD else 23,?_,?_⟩
    ·intro a2 l2 c2 ss2 w hf hl hl2 hst
     exact OG p g a2 l2 c2 hp hg D hgs G1 G2 e1 e2 0 eD 23 _ KD KS oD ss2 hl hl2 D2 (by rw[hf];simpa using hD2) (by rw[hf];simp only[List.flatten_cons,List.flatten_nil,List.append_nil,List.length_append];omega) N2 eN2 B KB _ KE (by simp) w hst
    ·intro w
     exact PW p g m hp hg Dr hgs G1 G2 e1 e2 z eD 23 _ (fun _ _=>rfl) KDr KSr KL oDr _ _ rfl rfl (by omega) (by omega) N2 KN Br KBr _ KEr (by simp) w
  ·have hg:(g.size != 64)=true:=by rw[bne_iff_ne];exact hgs
   exact⟨1,fun a2 l2 c2 ss2 w _ _ _ _=>ZM p g a2 l2 c2 hp hg w,fun w=>VT p g m hp hg w⟩
 ·have hp:(p.size != 32)=true:=by rw[bne_iff_ne];exact hps
  exact⟨1,fun a2 l2 c2 ss2 w _ _ _ _=>YJ p g a2 l2 c2 hp w,fun w=>Wh p g m hp w⟩
theorem Zn (L:List UInt8) (h:L.length=32):hs5 L (Jl L):=⟨_,_,J2 L h,rfl⟩
theorem Wu (L:List UInt8) (h:L.length=64):hs5 L (Jl L):=⟨[L++E8 L],[],⟨by simp,by
 intro b hb
 obtain rfl:=List.mem_singleton.1 hb
 have:(E8 L).length=64:=by
  unfold E8
  rw[h]
  decide +kernel
 rw[List.length_append,h,this],by decide⟩,rfl⟩
def exF:List UInt8:=[155,79,10,254,40,11,116,106,119,134,132,231,84,66,80,32,87,183,71,58,3,240,143,150,245,163,142,146,135,224,31,143]
theorem Xe:Bd ⟨(exF++E8 exF).toArray⟩ 16=[11191175685748782186,8612717466478596128,6320598916537552790,17700147720492162959,9223372036854775808,0,0,0,0,0,0,0,0,0,0,256]:=by decide +kernel
theorem ZL:Fu Bt Bf [11191175685748782186,8612717466478596128,6320598916537552790,17700147720492162959,9223372036854775808,0,0,0,0,0,0,0,0,0,0,256]=[13164475641069989721,9509932450426471338,10942261363819122011,7085227815478653684,306412736497058716,16022516957188131835,7944592038670115968,3645139585509438765]:=by decide +kernel
theorem Yg:Jl exF=[182,177,156,216,224,66,111,89,131,250,17,45,137,161,67,170,151,218,184,188,93,235,141,91,98,83,201,40,182,82,114,244,4,64,152,194,169,144,3,156,222,91,106,72,24,223,11,251,110,64,220,93,238,84,36,128,50,150,35,35,231,1,53,45]:=by
 show FV (Fu Bt Bf (Bd ⟨(exF++E8 exF).toArray⟩ 16))=_
 rw[Xe,ZL]
 decide +kernel
theorem dn:leN [182,177,156,216,224,66,111,89,131,250,17,45,137,161,67,170,151,218,184,188,93,235,141,91,98,83,201,40,182,82,114,244,4,64,152,194,169,144,3,156,222,91,106,72,24,223,11,251,110,64,220,93,238,84,36,128,50,150,35,35,231,1,53,45]%LN=2015312323900227545039973048451112962192803170366412514267238242679089760755:=by decide +kernel
theorem fW:(44370630452101398467924320556439323233869374150616132215183787387252341590058*(tmX 256 2015312323900227545039973048451112962192803170366412514267238242679089760755 bX bY 1 0 1 1).2.2)%PN=(tmX 256 2015312323900227545039973048451112962192803170366412514267238242679089760755 bX bY 1 0 1 1).1%PN∧(38448863731492799660668882834560725606410712239157980760146247592118262650597*(tmX 256 2015312323900227545039973048451112962192803170366412514267238242679089760755 bX bY 1 0 1 1).2.2)%PN=(tmX 256 2015312323900227545039973048451112962192803170366412514267238242679089760755 bX bY 1 0 1 1).2.1%PN:=by decide +kernel
theorem cS:byL (E7 44370630452101398467924320556439323233869374150616132215183787387252341590058 38448863731492799660668882834560725606410712239157980760146247592118262650597)=[229,86,67,0,195,96,172,114,144,134,226,204,128,110,130,138,132,135,127,30,184,229,217,116,216,115,224,101,34,73,1,85]:=by decide +kernel
def U4:List UInt8:=[229,86,67,0,195,96,172,114,144,134,226,204,128,110,130,138,132,135,127,30,184,229,217,116,216,115,224,101,34,73,1,85,215,90,152,1,130,177,10,183,213,75,254,211,201,100,7,58,14,225,114,243,218,166,35,37,175,2,26,104,247,7,81,26]
theorem Vb:Bd ⟨(U4++E8 U4).toArray⟩ 16=[16525469553239567474,10414260556296782474,9549741304790243700,15597056659485688149,15517882598313495223,15369658338902279994,1072264577961829157,12610670944714182938,9223372036854775808,0,0,0,0,0,0,512]:=by decide +kernel
theorem ZJ:Fu Bt Bf [16525469553239567474,10414260556296782474,9549741304790243700,15597056659485688149,15517882598313495223,15369658338902279994,1072264577961829157,12610670944714182938,9223372036854775808,0,0,0,0,0,0,512]=[2842059623401484263,18428124957239378555,242614993760941040,9377321590807045314,1076742788928381639,2338513036516782764,698594959256859688,3992703284400623263]:=by decide +kernel
theorem ZD:Jl U4=[39,113,6,43,107,83,111,231,255,189,218,3,32,195,130,123,3,93,241,13,40,77,243,240,130,34,240,77,188,167,164,194,14,241,91,220,152,138,34,199,32,116,17,55,124,51,242,172,9,177,232,106,4,98,52,40,55,104,238,123,160,60,14,159]:=by
 show FV (Fu Bt Bf (Bd ⟨(U4++E8 U4).toArray⟩ 16))=_
 rw[Vb,ZJ]
 decide +kernel
theorem dK:(2015312323900227545039973048451112962192803170366412514267238242679089760755+(leN [39,113,6,43,107,83,111,231,255,189,218,3,32,195,130,123,3,93,241,13,40,77,243,240,130,34,240,77,188,167,164,194,14,241,91,220,152,138,34,199,32,116,17,55,124,51,242,172,9,177,232,106,4,98,52,40,55,104,238,123,160,60,14,159]%LN)*36144925721603087658594284515452164870581325872720374094707712194495455132720%LN)%LN=5004556735901913393272427758925840403246877222315506387332009764265656498271:=by decide +kernel
theorem VR:(⟨([229,86,67,0,195,96,172,114,144,134,226,204,128,110,130,138,132,135,127,30,184,229,217,116,216,115,224,101,34,73,1,85]).toArray⟩:ByteArray)++⟨(byL 5004556735901913393272427758925840403246877222315506387332009764265656498271).toArray⟩=⟨([229,86,67,0,195,96,172,114,144,134,226,204,128,110,130,138,132,135,127,30,184,229,217,116,216,115,224,101,34,73,1,85,95,184,130,21,144,163,59,172,198,30,57,112,28,249,180,107,210,91,245,240,89,91,190,36,101,81,65,67,142,122,16,11]).toArray⟩:=by
 apply Iu.1
 rw[ByteArray.toList_eq,ByteArray.toList_eq,Fl]
 decide +kernel
theorem ao:Ha [229,86,67,0,195,96,172,114,144,134,226,204,128,110,130,138,132,135,127,30,184,229,217,116,216,115,224,101,34,73,1,85,95,184,130,21,144,163,59,172,198,30,57,112,28,249,180,107,210,91,245,240,89,91,190,36,101,81,65,67,142,122,16,11]=[101,53,53,54,52,51,48,48,99,51,54,48,97,99,55,50,57,48,56,54,101,50,99,99,56,48,54,101,56,50,56,97,56,52,56,55,55,102,49,101,98,56,101,53,100,57,55,52,100,56,55,51,101,48,54,53,50,50,52,57,48,49,53,53,53,102,98,56,56,50,49,53,57,48,97,51,51,98,97,99,99,54,49,101,51,57,55,48,49,99,102,57,98,52,54,98,100,50,53,98,102,53,102,48,53,57,53,98,98,101,50,52,54,53,53,49,52,49,52,51,56,101,55,97,49,48,48,98]:=by decide +kernel
theorem cT:Hid (∀ (a2:Option Addr) (l2 c2:Nat) (ss2:List (List UInt8)) (w:World),ss2.flatten=[]→l2=ss2.length→ss2.length≤1000→DN w a2 ss2→Calls Tryz.prog 14 #[.string ⟨exS.toArray⟩,.slice a2 l2 c2] w fun E w'=>E=.returned (.tuple #[.string ⟨([229,86,67,0,195,96,172,114,144,134,226,204,128,110,130,138,132,135,127,30,184,229,217,116,216,115,224,101,34,73,1,85,95,184,130,21,144,163,59,172,198,30,57,112,28,249,180,107,210,91,245,240,89,91,190,36,101,81,65,67,142,122,16,11]).toArray⟩,.int .i64 0])∧Below w.heap.size w w'):=by
 obtain⟨F2,PB,RB,SG,n,D1,D2,en,ePB,hF,hD1,eRB,hD2,eSG,KSg,_⟩:=fF ⟨exS.toArray⟩ rfl [] (by decide)
 have el:(⟨exS.toArray⟩:ByteArray).data.toList=exS:=rfl
 rw[el,YN] at en hF
 have en2:n=36144925721603087658594284515452164870581325872720374094707712194495455132720:=en.trans dY
 subst en2
 obtain⟨x1,x2⟩:=TN 36144925721603087658594284515452164870581325872720374094707712194495455132720 38815646466658113194383306759739515082307681141926459231621296960732224964046 11903303657706407974989296177215005343713679411332034699907763981919547054807 (by decide +kernel) (by decide +kernel) (by decide +kernel) eO
 rw[x1,x2,aX] at ePB
 have hF2:F2.data.toList=[155,79,10,254,40,11,116,106,119,134,132,231,84,66,80,32,87,183,71,58,3,240,143,150,245,163,142,146,135,224,31,143]:=hF
 rw[hF2,List.append_nil] at hD1
 have d1:D1=[182,177,156,216,224,66,111,89,131,250,17,45,137,161,67,170,151,218,184,188,93,235,141,91,98,83,201,40,182,82,114,244,4,64,152,194,169,144,3,156,222,91,106,72,24,223,11,251,110,64,220,93,238,84,36,128,50,150,35,35,231,1,53,45]:=(Uv hD1 (Zn exF rfl)).trans Yg
 subst d1
 rw[dn] at eRB eSG
 obtain⟨y1,y2⟩:=TN 2015312323900227545039973048451112962192803170366412514267238242679089760755 44370630452101398467924320556439323233869374150616132215183787387252341590058 38448863731492799660668882834560725606410712239157980760146247592118262650597 (by decide +kernel) (by decide +kernel) (by decide +kernel) fW
 rw[y1,y2,cS] at eRB
 have eR:RB.data.toList=[229,86,67,0,195,96,172,114,144,134,226,204,128,110,130,138,132,135,127,30,184,229,217,116,216,115,224,101,34,73,1,85]:=by rw[eRB]
 have eP:PB.data.toList=[215,90,152,1,130,177,10,183,213,75,254,211,201,100,7,58,14,225,114,243,218,166,35,37,175,2,26,104,247,7,81,26]:=by rw[ePB]
 rw[eR,eP,List.append_nil] at hD2
 have d2:D2=[39,113,6,43,107,83,111,231,255,189,218,3,32,195,130,123,3,93,241,13,40,77,243,240,130,34,240,77,188,167,164,194,14,241,91,220,152,138,34,199,32,116,17,55,124,51,242,172,9,177,232,106,4,98,52,40,55,104,238,123,160,60,14,159]:=(Uv hD2 (Wu U4 rfl)).trans ZD
 subst d2
 rw[dK,eRB,VR] at eSG
 subst eSG
 exact KSg
theorem U5 (SD SG:ByteArray) (KU:Hid (∀ w,Calls Tryz.prog 19 #[.string ⟨#[57,100,54,49,98,49,57,100,101,102,102,100,53,97,54,48,98,97,56,52,52,97,102,52,57,50,101,99,50,99,99,52,52,52,52,57,99,53,54,57,55,98,51,50,54,57,49,57,55,48,51,98,97,99,48,51,49,99,97,101,55,102,54,48]⟩] w fun E w'=>E=.returned (.tuple #[.string SD,.int .i64 0])∧Below w.heap.size w w')) (KSg:Hid (∀ (a2:Option Addr) (l2 c2:Nat) (ss2:List (List UInt8)) (w:World),ss2.flatten=[]→l2=ss2.length→ss2.length≤1000→DN w a2 ss2→Calls Tryz.prog 14 #[.string SD,.slice a2 l2 c2] w fun E w'=>E=.returned (.tuple #[.string SG,.int .i64 0])∧Below w.heap.size w w')) (KX:Hid (∀ w,Calls Tryz.prog 20 #[.string SG] w fun E w'=>E=.returned (.string ⟨#[101,53,53,54,52,51,48,48,99,51,54,48,97,99,55,50,57,48,56,54,101,50,99,99,56,48,54,101,56,50,56,97,56,52,56,55,55,102,49,101,98,56,101,53,100,57,55,52,100,56,55,51,101,48,54,53,50,50,52,57,48,49,53,53,53,102,98,56,56,50,49,53,57,48,97,51,51,98,97,99,99,54,49,101,51,57,55,48,49,99,102,57,98,52,54,98,100,50,53,98,102,53,102,48,53,57,53,98,98,101,50,52,54,53,53,49,52,49,52,51,56,101,55,97,49,48,48,98]⟩)∧Below w.heap.size w w')) (w:World):Calls Tryz.prog 13 #[] w fun E w'=>E=.returned (.bool true)∧Below w.heap.size w w':=by
 have HMIX:=Lh (show Tryz.prog.follows .mixedOrders=true by kernel_rfl)
 go_enter Tryz.func13,Tryz.ntmps13
 have hM0:=Mem.start w
 (go_step;go_step;refine wp_region_lit ?_)
 refine Ad (.bool false) ?_
 simp only[nmA]
 refine wpList_nil ?_
 ((iterate 3 go_step);refine wp_region_lit ?_)
 refine Ah hM0 (args:=#[.string (⟨#[57,100,54,49,98,49,57,100,101,102,102,100,53,97,54,48,98,97,56,52,52,97,102,52,57,50,101,99,50,99,99,52,52,52,52,57,99,53,54,57,55,98,51,50,54,57,49,57,55,48,51,98,97,99,48,51,49,99,97,101,55,102,54,48]⟩)]) (v:=.tuple #[.string SD,.int .i64 0]) (rcf (enters_of Tryz.func19 rfl rfl)) (KU.out w) rfl fun W1 hM1=>?_
 simp only[nmA]
 refine Ad (.tuple #[.string SD,.int .i64 0]) ?_
 simp only[nmA]
 refine Ad (.string SD) ?_
 simp only[nmA]
 refine Ad (.int .i64 0) ?_
 simp only[nmA]
 refine Ad (.string SD) ?_
 simp only[nmA]
 refine Ad (.int .i64 0) ?_
 simp only[nmA]
 refine wpList_nil ?_
 ((iterate 3 go_step);refine wp_region_lit ?_)
 refine Ad (.string SD) ?_
 simp only[nmA]
 refine Ah hM1 (args:=#[.string SD,.slice none 0 0]) (v:=.tuple #[.string SG,.int .i64 0]) (rcf (enters_of Tryz.func14 rfl rfl)) ((fun W=>KSg.out none 0 0 [] W rfl rfl (by simp) (.inl rfl)) W1) rfl fun W2 hM2=>?_
 simp only[nmA]
 refine Ad (.tuple #[.string SG,.int .i64 0]) ?_
 simp only[nmA]
 refine Ad (.string SG) ?_
 simp only[nmA]
 refine Ad (.int .i64 0) ?_
 simp only[nmA]
 refine Ad (.string SG) ?_
 simp only[nmA]
 refine Ad (.int .i64 0) ?_
 simp only[nmA]
 refine wpList_nil ?_
 ((iterate 3 go_step);refine wp_region_lit ?_)
 refine Ad (.string SG) ?_
 simp only[nmA]
 refine Ah hM2 (args:=#[.string SG]) (v:=.string (⟨#[101,53,53,54,52,51,48,48,99,51,54,48,97,99,55,50,57,48,56,54,101,50,99,99,56,48,54,101,56,50,56,97,56,52,56,55,55,102,49,101,98,56,101,53,100,57,55,52,100,56,55,51,101,48,54,53,50,50,52,57,48,49,53,53,53,102,98,56,56,50,49,53,57,48,97,51,51,98,97,99,99,54,49,101,51,57,55,48,49,99,102,57,98,52,54,98,100,50,53,98,102,53,102,48,53,57,53,98,98,101,50,52,54,53,53,49,52,49,52,51,56,101,55,97,49,48,48,98]⟩)) (rcf (enters_of Tryz.func20 rfl rfl)) (KX.out W2) rfl fun W3 hM3=>?_
 simp only[nmA]
 refine Ac (v:=.bool true) (fun W=>Ag rfl rfl rfl (fP (⟨#[101,53,53,54,52,51,48,48,99,51,54,48,97,99,55,50,57,48,56,54,101,50,99,99,56,48,54,101,56,50,56,97,56,52,56,55,55,102,49,101,98,56,101,53,100,57,55,52,100,56,55,51,101,48,54,53,50,50,52,57,48,49,53,53,53,102,98,56,56,50,49,53,57,48,97,51,51,98,97,99,99,54,49,101,51,57,55,48,49,99,102,57,98,52,54,98,100,50,53,98,102,53,102,48,53,57,53,98,98,101,50,52,54,53,53,49,52,49,52,51,56,101,55,97,49,48,48,98]⟩) _ _ W)) rfl ?_
 simp only[nmA]
 refine Ad (.bool true) ?_
 simp only[nmA]
 refine Ad (.int .i64 0) ?_
 simp only[nmA]
 refine Ac (v:=.bool true) (fun W=>O9 W rfl rfl rfl rfl) rfl ?_
 simp only[nmA]
 refine Ad (.bool true) ?_
 simp only[nmA]
 refine Ad (.bool true) ?_
 simp only[nmA]
 refine wpList_nil ?_
 ((iterate 3 go_step);refine bodyPost_ret (v:=.bool true) (AY Tryz.results13 rfl) rfl ⟨?_,hM3.below⟩)
 exact rfl
theorem FX (w:World):Calls Tryz.prog 13 #[] w fun E w'=>E=.returned (.bool true)∧Below w.heap.size w w':=by
 have KSg:=cT
 have KU:=Lh (fun w=>Sg ⟨#[57,100,54,49,98,49,57,100,101,102,102,100,53,97,54,48,98,97,56,52,52,97,102,52,57,50,101,99,50,99,99,52,52,52,52,57,99,53,54,57,55,98,51,50,54,57,49,57,55,48,51,98,97,99,48,51,49,99,97,101,55,102,54,48]⟩ w 32 (by decide) (by decide))
 rw[Na.1,Na.2] at KU
 have KX:=Lh (fun w=>bd ⟨([229,86,67,0,195,96,172,114,144,134,226,204,128,110,130,138,132,135,127,30,184,229,217,116,216,115,224,101,34,73,1,85,95,184,130,21,144,163,59,172,198,30,57,112,28,249,180,107,210,91,245,240,89,91,190,36,101,81,65,67,142,122,16,11]).toArray⟩ w (by decide))
 have e:Ha ((⟨([229,86,67,0,195,96,172,114,144,134,226,204,128,110,130,138,132,135,127,30,184,229,217,116,216,115,224,101,34,73,1,85,95,184,130,21,144,163,59,172,198,30,57,112,28,249,180,107,210,91,245,240,89,91,190,36,101,81,65,67,142,122,16,11]).toArray⟩:ByteArray).data.toList)=[101,53,53,54,52,51,48,48,99,51,54,48,97,99,55,50,57,48,56,54,101,50,99,99,56,48,54,101,56,50,56,97,56,52,56,55,55,102,49,101,98,56,101,53,100,57,55,52,100,56,55,51,101,48,54,53,50,50,52,57,48,49,53,53,53,102,98,56,56,50,49,53,57,48,97,51,51,98,97,99,99,54,49,101,51,57,55,48,49,99,102,57,98,52,54,98,100,50,53,98,102,53,102,48,53,57,53,98,98,101,50,52,54,53,53,49,52,49,52,51,56,101,55,97,49,48,48,98]:=ao
 rw[e] at KX
 obtain⟨SD,eS⟩:∃ S:ByteArray,S=⟨exS.toArray⟩:=⟨_,rfl⟩
 rw[← eS] at KU KSg
 obtain⟨SG,eP⟩:∃ S:ByteArray,S=⟨([229,86,67,0,195,96,172,114,144,134,226,204,128,110,130,138,132,135,127,30,184,229,217,116,216,115,224,101,34,73,1,85,95,184,130,21,144,163,59,172,198,30,57,112,28,249,180,107,210,91,245,240,89,91,190,36,101,81,65,67,142,122,16,11]).toArray⟩:=⟨_,rfl⟩
 rw[← eP] at KSg KX
 exact U5 SD SG KU KSg KX w
theorem FC (n k:Nat) (c:Bool) (hc:decide (k<n)=c) (x y:Operand) (W:World):(do eqGuard .gtr 3 x y (.int .i64 (n:Int)) (.int .i64 (k:Int));binOp .gtr 3 (.int .i64 (n:Int)) (.int .i64 (k:Int)):Sem Value).run Tryz.prog W=.ok (.bool c) W:=by
 have e:decide ((k:Int)<(n:Int))=c:=by
  rw[← hc,decide_eq_decide]
  omega
 go_simp
theorem Sl (e:Nat) (x y:Operand) (W:World):(do eqGuard .eql 3 x y (.int .i64 (e:Int)) (.int .i64 (e:Int));binOp .eql 3 (.int .i64 (e:Int)) (.int .i64 (e:Int)):Sem Value).run Tryz.prog W=.ok (.bool true) W:=by
 go_simp
theorem dt (p g m:ByteArray) (hp:decide (300<p.size)=true) (w:World):Calls Tryz.prog 5 #[.string p,.string g,.string m] w fun E w'=>E=.returned (.bool true)∧Below w.heap.size w w':=by
 have HMIX:=Lh (show Tryz.prog.follows .mixedOrders=true by kernel_rfl)
 go_enter Tryz.func5,Tryz.ntmps5
 have hM0:=Mem.start w
 (go_step;go_step;refine wp_region_lit ?_)
 refine Ad (.bool false) ?_
 simp only[nmA]
 refine wpList_nil ?_
 ((iterate 4 go_step);refine wp_region_lit ?_)
 refine Ad (.string p) ?_
 simp only[nmA]
 refine Ac (v:=.int .i64 (p.size:Int)) (fun W=>A8 W rfl (by simp[Act.eval]) rfl Tryz.underlying9) rfl ?_
 simp only[nmA]
 refine Ac (v:=.bool true) (fun W=>Ag rfl rfl rfl (FC p.size 300 true hp _ _ W)) rfl ?_
 simp only[nmA]
 refine Ad (.bool true) ?_
 simp only[nmA]
 refine Dg rfl ?_
 simp only[nmA]
 refine Dg rfl ?_
 simp only[nmA]
 refine Dg rfl ?_
 simp only[nmA]
 refine Ad (.bool true) ?_
 simp only[nmA]
 refine Ad (.bool true) ?_
 simp only[nmA]
 refine Dg rfl ?_
 simp only[nmA]
 refine Dg rfl ?_
 simp only[nmA]
 refine Dg rfl ?_
 simp only[nmA]
 refine Ad (.bool true) ?_
 simp only[nmA]
 refine wpList_nil ?_
 ((iterate 4 go_step);refine wp_region_lit ?_)
 refine Ah hM0 (args:=#[]) (v:=.bool true) (rcf (enters_of Tryz.func13 rfl rfl)) (FX w) rfl fun W1 hM1=>?_
 simp only[nmA]
 refine Ad (.bool true) ?_
 simp only[nmA]
 refine wpList_nil ?_
 ((iterate 4 go_step);refine bodyPost_ret (v:=.bool true) (AY Tryz.results5 rfl) rfl ⟨?_,hM1.below⟩)
 exact rfl
theorem dA (p g m:ByteArray) (hp:decide (300<p.size)=false) (hg:decide (300<g.size)=true) (w:World):Calls Tryz.prog 5 #[.string p,.string g,.string m] w fun E w'=>E=.returned (.bool true)∧Below w.heap.size w w':=by
 have HMIX:=Lh (show Tryz.prog.follows .mixedOrders=true by kernel_rfl)
 go_enter Tryz.func5,Tryz.ntmps5
 have hM0:=Mem.start w
 (go_step;go_step;refine wp_region_lit ?_)
 refine Ad (.bool false) ?_
 simp only[nmA]
 refine wpList_nil ?_
 ((iterate 4 go_step);refine wp_region_lit ?_)
 refine Ad (.string p) ?_
 simp only[nmA]
 refine Ac (v:=.int .i64 (p.size:Int)) (fun W=>A8 W rfl (by simp[Act.eval]) rfl Tryz.underlying9) rfl ?_
 simp only[nmA]
 refine Ac (v:=.bool false) (fun W=>Ag rfl rfl rfl (FC p.size 300 false hp _ _ W)) rfl ?_
 simp only[nmA]
 refine Ad (.bool false) ?_
 simp only[nmA]
 refine Ad (.string g) ?_
 simp only[nmA]
 refine Ac (v:=.int .i64 (g.size:Int)) (fun W=>A8 W rfl (by simp[Act.eval]) rfl Tryz.underlying9) rfl ?_
 simp only[nmA]
 refine Ac (v:=.bool true) (fun W=>Ag rfl rfl rfl (FC g.size 300 true hg _ _ W)) rfl ?_
 simp only[nmA]
 refine Ad (.bool true) ?_
 simp only[nmA]
 refine Ad (.bool true) ?_
 simp only[nmA]
 refine Dg rfl ?_
 simp only[nmA]
 refine Dg rfl ?_
 simp only[nmA]
 refine Dg rfl ?_
 simp only[nmA]
 refine Ad (.bool true) ?_
 simp only[nmA]
 refine wpList_nil ?_
 ((iterate 4 go_step);refine wp_region_lit ?_)
 refine Ah hM0 (args:=#[]) (v:=.bool true) (rcf (enters_of Tryz.func13 rfl rfl)) (FX w) rfl fun W1 hM1=>?_
 simp only[nmA]
 refine Ad (.bool true) ?_
 simp only[nmA]
 refine wpList_nil ?_
 ((iterate 4 go_step);refine bodyPost_ret (v:=.bool true) (AY Tryz.results5 rfl) rfl ⟨?_,hM1.below⟩)
 exact rfl
theorem df (p g m:ByteArray) (hp:decide (300<p.size)=false) (hg:decide (300<g.size)=false) (hm:decide (300<m.size)=true) (w:World):Calls Tryz.prog 5 #[.string p,.string g,.string m] w fun E w'=>E=.returned (.bool true)∧Below w.heap.size w w':=by
 have HMIX:=Lh (show Tryz.prog.follows .mixedOrders=true by kernel_rfl)
 go_enter Tryz.func5,Tryz.ntmps5
 have hM0:=Mem.start w
 (go_step;go_step;refine wp_region_lit ?_)
 refine Ad (.bool false) ?_
 simp only[nmA]
 refine wpList_nil ?_
 ((iterate 4 go_step);refine wp_region_lit ?_)
 refine Ad (.string p) ?_
 simp only[nmA]
 refine Ac (v:=.int .i64 (p.size:Int)) (fun W=>A8 W rfl (by simp[Act.eval]) rfl Tryz.underlying9) rfl ?_
 simp only[nmA]
 refine Ac (v:=.bool false) (fun W=>Ag rfl rfl rfl (FC p.size 300 false hp _ _ W)) rfl ?_
 simp only[nmA]
 refine Ad (.bool false) ?_
 simp only[nmA]
 refine Ad (.string g) ?_
 simp only[nmA]
 refine Ac (v:=.int .i64 (g.size:Int)) (fun W=>A8 W rfl (by simp[Act.eval]) rfl Tryz.underlying9) rfl ?_
 simp only[nmA]
 refine Ac (v:=.bool false) (fun W=>Ag rfl rfl rfl (FC g.size 300 false hg _ _ W)) rfl ?_
 simp only[nmA]
 refine Ad (.bool false) ?_
 simp only[nmA]
 refine Ad (.bool false) ?_
 simp only[nmA]
 refine Ad (.string m) ?_
 simp only[nmA]
 refine Ac (v:=.int .i64 (m.size:Int)) (fun W=>A8 W rfl (by simp[Act.eval]) rfl Tryz.underlying9) rfl ?_
 simp only[nmA]
 refine Ac (v:=.bool true) (fun W=>Ag rfl rfl rfl (FC m.size 300 true hm _ _ W)) rfl ?_
 simp only[nmA]
 refine Ad (.bool true) ?_
 simp only[nmA]
 refine wpList_nil ?_
 ((iterate 4 go_step);refine wp_region_lit ?_)
 refine Ah hM0 (args:=#[]) (v:=.bool true) (rcf (enters_of Tryz.func13 rfl rfl)) (FX w) rfl fun W1 hM1=>?_
 simp only[nmA]
 refine Ad (.bool true) ?_
 simp only[nmA]
 refine wpList_nil ?_
 ((iterate 4 go_step);refine bodyPost_ret (v:=.bool true) (AY Tryz.results5 rfl) rfl ⟨?_,hM1.below⟩)
 exact rfl
theorem bN (p g m:ByteArray) (hp:decide (300<p.size)=false) (hg:decide (300<g.size)=false) (hm:decide (300<m.size)=false) (e:Nat) (KV:Hid (∀ (a2:Option Addr) (l2 c2:Nat) (ss2:List (List UInt8)) (w:World),ss2.flatten=m.data.toList→l2=ss2.length→ss2.length≤1000→DN w a2 ss2→Calls Tryz.prog 16 #[.string p,.string g,.slice a2 l2 c2] w fun E w'=>E=.returned (.int .i64 (e:Int))∧Below w.heap.size w w')) (KR:Hid (∀ w,Calls Tryz.prog 17 #[.string p,.string g,.string m] w fun E w'=>E=.returned (.int .i64 (e:Int))∧Below w.heap.size w w')) (w:World):Calls Tryz.prog 5 #[.string p,.string g,.string m] w fun E w'=>E=.returned (.bool true)∧Below w.heap.size w w':=by
 have HMIX:=Lh (show Tryz.prog.follows .mixedOrders=true by kernel_rfl)
 go_enter Tryz.func5,Tryz.ntmps5
 have hM0:=Mem.start w
 (go_step;go_step;refine wp_region_lit ?_)
 refine Ad (.bool false) ?_
 simp only[nmA]
 refine wpList_nil ?_
 ((iterate 4 go_step);refine wp_region_lit ?_)
 refine Ad (.string p) ?_
 simp only[nmA]
 refine Ac (v:=.int .i64 (p.size:Int)) (fun W=>A8 W rfl (by simp[Act.eval]) rfl Tryz.underlying9) rfl ?_
 simp only[nmA]
 refine Ac (v:=.bool false) (fun W=>Ag rfl rfl rfl (FC p.size 300 false hp _ _ W)) rfl ?_
 simp only[nmA]
 refine Ad (.bool false) ?_
 simp only[nmA]
 refine Ad (.string g) ?_
 simp only[nmA]
 refine Ac (v:=.int .i64 (g.size:Int)) (fun W=>A8 W rfl (by simp[Act.eval]) rfl Tryz.underlying9) rfl ?_
 simp only[nmA]
 refine Ac (v:=.bool false) (fun W=>Ag rfl rfl rfl (FC g.size 300 false hg _ _ W)) rfl ?_
 simp only[nmA]
 refine Ad (.bool false) ?_
 simp only[nmA]
 refine Ad (.bool false) ?_
 simp only[nmA]
 refine Ad (.string m) ?_
 simp only[nmA]
 refine Ac (v:=.int .i64 (m.size:Int)) (fun W=>A8 W rfl (by simp[Act.eval]) rfl Tryz.underlying9) rfl ?_
 simp only[nmA]
 refine Ac (v:=.bool false) (fun W=>Ag rfl rfl rfl (FC m.size 300 false hm _ _ W)) rfl ?_
 simp only[nmA]
 refine Ad (.bool false) ?_
 simp only[nmA]
 refine wpList_nil ?_
 ((iterate 7 go_step);refine wp_region_lit ?_)
 refine Ad (.string p) ?_
 simp only[nmA]
 refine Ad (.string g) ?_
 simp only[nmA]
 refine Ad (.string m) ?_
 simp only[nmA]
 refine FN hM0 (f:=fun b=>.slice (some ⟨b,0,none⟩) 1 1) (ob:=.cells (#[.string m]) 9 (0,0)) (fun W=>Ax rfl (by simp[Act.eval]) (YU m W)) rfl fun b1 W1 hM1=>?_
 simp only[nmA]
 refine Ah hM1 (args:=#[.string p,.string g,.slice (some ⟨b1,0,none⟩) 1 1]) (v:=.int .i64 (e:Int)) (rcf (enters_of Tryz.func16 rfl rfl)) ((fun b W h=>KV.out (some ⟨b,0,none⟩) 1 1 [m.data.toList] W (by simp) rfl (by simp) (I8 [m] h)) b1 W1 (hM1.get 0 rfl)) rfl fun W2 hM2=>?_
 simp only[nmA]
 refine Ad (.string p) ?_
 simp only[nmA]
 refine Ad (.string g) ?_
 simp only[nmA]
 refine Ad (.string m) ?_
 simp only[nmA]
 refine Ah hM2 (args:=#[.string p,.string g,.string m]) (v:=.int .i64 (e:Int)) (rcf (enters_of Tryz.func17 rfl rfl)) (KR.out W2) rfl fun W3 hM3=>?_
 simp only[nmA]
 refine Ac (v:=.bool true) (fun W=>Ag rfl rfl rfl (Sl e _ _ W)) rfl ?_
 simp only[nmA]
 refine Ad (.bool true) ?_
 simp only[nmA]
 refine Ah hM3 (args:=#[]) (v:=.bool true) (rcf (enters_of Tryz.func13 rfl rfl)) (FX W3) rfl fun W4 hM4=>?_
 simp only[nmA]
 refine Ad (.bool true) ?_
 simp only[nmA]
 refine Ad (.bool true) ?_
 simp only[nmA]
 refine wpList_nil ?_
 ((iterate 3 go_step);refine bodyPost_ret (v:=.bool true) (AY Tryz.results5 rfl) rfl ⟨?_,hM4.below⟩)
 exact rfl
theorem edsignVerifies_walk (p g m:ByteArray) (w:World) (_:p.size≤maxLen) (_:g.size≤maxLen) (_:m.size≤maxLen):Calls Tryz.prog 5 #[.string p,.string g,.string m] w fun e w'=>e=.returned (.bool true)∧Below w.heap.size w w':=by
 by_cases hp:300<p.size
 ·exact dt p g m (decide_eq_true hp) w
 ·by_cases hg:300<g.size
  ·exact dA p g m (decide_eq_false hp) (decide_eq_true hg) w
  ·by_cases hm:300<m.size
   ·exact df p g m (decide_eq_false hp) (decide_eq_false hg) (decide_eq_true hm) w
   ·obtain⟨e,KV,KR⟩:=ga p g m (by omega) (by omega) (by omega)
    exact bN p g m (decide_eq_false hp) (decide_eq_false hg) (decide_eq_false hm) e KV KR w
end Go.Proofs.YtnaldciakclccaaGreat
