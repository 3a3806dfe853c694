/- Lemmas of this proof. -/
import Derived.Lib.Strings
import Derived.Test.YtnaldciakclccaaGreatEv25
import Derived.Test.YtnaldciakclccaaGreatShelfIdx
import Derived.Test.YtnaldciakclccaaGreatEv15
import Derived.Test.YtnaldciakclccaaGreatEv19
import Derived.Test.YtnaldciakclccaaGreatEv20
import Derived.Test.YtnaldciakclccaaGreatEv14
namespace Go.Proofs.YtnaldciakclccaaGreat
set_option maxRecDepth 20000
set_option maxHeartbeats 8000000
set_option linter.unusedSimpArgs false
set_option linter.unusedVariables false
open Go.RowKit
def dv (c:UInt8):Int:=Lib.indexByte [48,49,50,51,52,53,54,55,56,57,97,98,99,100,101,102] c
def rv (c:UInt8):Int:=if 97≤c∧c≤102 then (c.toNat:Int)-87 else (c.toNat:Int)%16
theorem Nb (p:UInt8→Bool) (h:(List.range 256).all (fun n=>p (UInt8.ofNat n))=true) (c:UInt8):p c=true:=by
 have h1:=List.all_eq_true.1 h c.toNat (List.mem_range.2 c.toNat_lt)
 simpa using h1
theorem Jf (c:UInt8) : -1≤dv c∧dv c<16∧(0≤dv c→rv c=dv c∧ofI (hexd (dv c))=c):=by
 have h:=Nb (fun c=>decide (-1≤dv c∧dv c<16∧(0≤dv c→rv c=dv c∧ofI (hexd (dv c))=c))) (by decide +kernel) c
 exact of_decide_eq_true h
theorem TL (x:Int) (x0:0≤x) (x1:x<16):dv (ofI (hexd x))=x:=by
 obtain⟨n,rfl⟩:=Int.eq_ofNat_of_zero_le x0
 have hn:n<16:=by omega
 match n,hn with
 | 0,_=>rfl | 1,_=>rfl | 2,_=>rfl | 3,_=>rfl | 4,_=>rfl | 5,_=>rfl | 6,_=>rfl | 7,_=>rfl
 | 8,_=>rfl | 9,_=>rfl | 10,_=>rfl | 11,_=>rfl | 12,_=>rfl | 13,_=>rfl | 14,_=>rfl | 15,_=>rfl
theorem et (c:UInt8):0≤rv c∧rv c<16:=by
 have h:=Nb (fun c=>decide (0≤rv c∧rv c<16)) (by decide +kernel) c
 exact of_decide_eq_true h
def Ey:List UInt8→List UInt8
 | a::b::r=>ofI (dv a*16+dv b)::Ey r
 | _=>[]
def CZ:List UInt8→List UInt8
 | a::b::r=>ofI (16*rv a+rv b)::CZ r
 | _=>[]
def okP:List UInt8→Bool
 | a::b::r=>decide (0≤dv a) && decide (0≤dv b) && okP r
 | [_]=>false
 | []=>true
theorem IU:∀ (l:List UInt8) (k:Nat) (a b:UInt8),l.length=2*k→Ey (l++[a,b])=Ey l++[ofI (dv a*16+dv b)]∧CZ (l++[a,b])=CZ l++[ofI (16*rv a+rv b)]∧okP (l++[a,b])=(okP l && (decide (0≤dv a) && decide (0≤dv b)))
 | [],_,a,b,_=>by simp[Ey,CZ,okP]
 | [x],k,_,_,h=>by simp at h;omega
 | x::y::r,k,a,b,h=>by
   obtain⟨h1,h2,h3⟩:=IU r (k-1) a b (by simp at h;omega)
   simp only[List.cons_append,Ey,CZ,okP,h1,h2,h3]
   refine⟨trivial,trivial,?_⟩
   simp[Bool.and_assoc]
theorem TO:∀ (l:List UInt8) (k:Nat) (a b:UInt8) (r:List UInt8),l.length=2*k→(decide (0≤dv a) && decide (0≤dv b))=false→okP (l++a::b::r)=false
 | [],_,a,b,r,_,h=>by simp only[List.nil_append,okP,h,Bool.false_and]
 | [x],k,_,_,_,h,_=>by simp at h;omega
 | x::y::t,k,a,b,r,h,hb=>by
   have h1:=TO t (k-1) a b r (by simp at h;omega) hb
   simp only[List.cons_append,okP,h1,Bool.and_false]
theorem Ls:∀ (l:List UInt8),okP l=true→CZ l=Ey l∧Ha (Ey l)=l
 | [],_=>⟨rfl,rfl⟩
 | [_],h=>by simp[okP] at h
 | a::b::r,h=>by
   simp only[okP,Bool.and_eq_true,decide_eq_true_eq] at h
   obtain⟨⟨h1,h2⟩,h3⟩:=h
   obtain⟨i1,i2⟩:=Ls r h3
   obtain⟨_,a1,a2⟩:=Jf a
   obtain⟨_,b1,b2⟩:=Jf b
   obtain⟨a3,a4⟩:=a2 h1
   obtain⟨b3,b4⟩:=b2 h2
   refine⟨?_,?_⟩
   ·simp only[CZ,Ey,i1,a3,b3,Int.mul_comm]
   ·show Ha (ofI (dv a*16+dv b)::Ey r)=_
    unfold Ha at i2 ⊢
    rw[List.flatMap_cons,i2]
    unfold Rl
    rw[NO _ (by omega) (by omega)]
    have e1:(dv a*16+dv b)/16=dv a:=by omega
    have e2:(dv a*16+dv b)%16=dv b:=by omega
    rw[e1,e2,a4,b4];rfl
theorem US:∀ (l:List UInt8),okP (Ha l)=true∧Ey (Ha l)=l
 | []=>⟨rfl,rfl⟩
 | b::r=>by
   obtain⟨i1,i2⟩:=US r
   obtain⟨b0,b1⟩:=Iq b
   have e:Ha (b::r)=ofI (hexd ((b.toNat:Int)/16))::ofI (hexd ((b.toNat:Int)%16))::Ha r:=rfl
   have d1:=TL ((b.toNat:Int)/16) (by omega) (by omega)
   have d2:=TL ((b.toNat:Int)%16) (by omega) (by omega)
   rw[e]
   simp only[okP,Ey,d1,d2,i1,i2]
   refine⟨by simp;omega,?_⟩
   have e3:(b.toNat:Int)/16*16+(b.toNat:Int)%16=b.toNat:=by omega
   rw[e3]
   congr 1
   unfold ofI
   simp
theorem VQ (x y:Int) (x0:0≤x) (x1:x<16) (y0:0≤y) (y1:y<16):bits .or .i64 (x*16) y=x*16+y:=by
 obtain⟨a,rfl⟩:=Int.eq_ofNat_of_zero_le x0
 obtain⟨b,rfl⟩:=Int.eq_ofNat_of_zero_le y0
 have h:(List.range 16).all (fun a=>(List.range 16).all fun b=>decide (bits .or .i64 ((a:Int)*16) (b:Int)=(a:Int)*16+b))=true:=by decide +kernel
 have h1:=List.all_eq_true.1 h a (List.mem_range.2 (by omega))
 have h2:=List.all_eq_true.1 h1 b (List.mem_range.2 (by omega))
 exact of_decide_eq_true h2
theorem O5 (c:UInt8) (w:World) :
    Calls Tryz.prog 56 #[.string ⟨#[48,49,50,51,52,53,54,55,56,57,97,98,99,100,101,102]⟩,.int .u8 (c.toNat:Int)] w fun e w'=>e=.returned (.int .i64 (dv c))∧w'=w:=by
 refine (Tryz.strings_IndexByte _ _ w).mono ?_
 rintro e w' ⟨rfl,rfl⟩
 refine⟨BE ?_,rfl⟩
 have e1:((c.toNat:Int).toNat).toUInt8=c:=by simp
 rw[e1];rfl
theorem Ri (l:List UInt8) (k:Nat) (h:2*k+1<l.length):l.take (2*(k+1))=l.take (2*k)++[l[2*k],l[2*k+1]]∧l=l.take (2*k)++l[2*k]::l[2*k+1]::l.drop (2*k+2):=by
 refine⟨?_,?_⟩
 ·rw[show 2*(k+1)=2*k+1+1 from by omega,List.take_succ_eq_append_getElem h,List.take_succ_eq_append_getElem (by omega:2*k<l.length),List.append_assoc];rfl
 ·have h1:l.drop (2*k)=l[2*k]::l[2*k+1]::l.drop (2*k+2):=by
    rw[List.drop_eq_getElem_cons (by omega:2*k<l.length),List.drop_eq_getElem_cons h]
  rw[← h1,List.take_append_drop]
def EP (s:ByteArray):ByteArray:=if okP s.data.toList then ⟨(Ey s.data.toList).toArray⟩ else ⟨#[]⟩
def E6 (s:ByteArray):Int:=if okP s.data.toList then 0 else 6
theorem Sg (s:ByteArray) (w:World) (n:Nat) (hs:s.size=2*n) (hn:n≤50000) :
    Calls Tryz.prog 19 #[.string s] w fun e w'=>e=.returned (.tuple #[.string (EP s),.int .i64 (E6 s)])∧Below w.heap.size w w':=by
 obtain⟨i0,hi,hz0,hz1,hz2⟩:=info_parts Tryz.info_u8
 have hn':s.size/2=n:=by omega
 have Hs:=Lh hs
 have t:((s.size:Int)%2 != 0)=false:=by simp;omega
 have t2:s.size≤100000:=by omega
 clear hs hn'
 go_enter Tryz.func19,Tryz.ntmps19
 go_wp2_with (at_make;refine wpList_make_own _ rfl (.const (.int .i64 0)) (.tmp 14) 90 rfl w.heap.size 5 i0 (.int .u8 0) 1 Tryz.underlying90 hi hz0 hz1 .i64 .i64 ((s.size/2:Nat):Int) (s.size/2) rfl (by simp[Act.eval]) rfl (by rw[hz2];omega) (by unfold maxLen;omega) (Nat.le_refl _) ?_;intro w1 hown1 hgrow1)
 go_loopw [4,5] (fun v i wr=>∃ k:Nat,k≤n∧i=.int .i64 (2*(k:Int))∧wr.ownsRow w.heap.size 5 1 v k ((Ey (s.data.toList.take (2*k))).map bc)∧okP (s.data.toList.take (2*k))=true∧Below w.heap.size w wr) (fun _ i _=>s.size-(intOf i).toNat)
 case atStart=>exact⟨0,by omega,rfl,hown1,rfl,(Below.refl _ _).grown hgrow1 (Nat.le_refl _) (by simp)⟩
 case round =>
  obtain⟨k,hk,rfl,hown,hok,hb⟩:=hrel
  by_cases hlt:k<n
  ·have hsz:2*k+1<s.size:=by have:=Hs.out;omega
   have q1:2*(k:Int)<(s.size:Int):=by omega
   have q2:2*(k:Int)+1<(s.size:Int):=by omega
   have q0:2*k<s.size:=by omega
   have hlen:s.data.toList.length=s.size:=Array.length_toList
   have TT:=Lh (Ri s.data.toList k (by omega))
   obtain⟨a,ha⟩:=exza (s[2*k])
   obtain⟨b,hb'⟩:∃ b,b=s[2*k+1]:=⟨_,rfl⟩
   have ea:s.data.toList[2*k]'(by omega)=a:=ha.symm
   have eb:s.data.toList[2*k+1]'(by omega)=b:=hb'.symm
   have TS:=Lh (TT.out.1.trans (by rw[ea,eb]:_=s.data.toList.take (2*k)++[a,b]))
   have TD:=Lh (TT.out.2.trans (by rw[ea,eb]:_=s.data.toList.take (2*k)++a::b::s.data.toList.drop (2*k+2)))
   have PS:=Lh (IU (s.data.toList.take (2*k)) k a b (by rw[List.length_take];omega))
   have PB:=fun h=>TO (s.data.toList.take (2*k)) k a b (s.data.toList.drop (2*k+2)) (by rw[List.length_take];omega) h
   obtain⟨a1,a2,_⟩:=Jf a
   obtain⟨b1,b2,_⟩:=Jf b
   have PB':=Lh PB
   have ha':s[2*k]=a:=ha.symm
   have hb'':s[2*k+1]=b:=hb'.symm
   clear ea eb PB ha hb' TT hlen
   have sum1:IntKind.i64.wrap (2*(k:Int)+1)=2*k+1:=IntWalk.i64_in _ (by omega)
   have nat1:(2*(k:Int)+1).toNat=2*k+1:=by omega
   have nat0:(2*(k:Int)).toNat=2*k:=by omega
   by_cases d1:0≤dv a
   ·by_cases d2:0≤dv b
    ·have o1:=VQ (dv a) (dv b) d1 a2 d2 b2
     have o2:IntKind.i64.wrap (dv a*16)=dv a*16:=IntWalk.i64_in _ (by omega)
     have o3:IntKind.u8.wrap (dv a*16+dv b)=dv a*16+dv b:=by rw[IntKind.wrap_u8'];omega
     go_wp2_with fail
     go_quiet ((go_at_call 56;exact Calls.quiet_of_same (O5 _ _)))
     go_wp2_with (at_builtin;refine wpList_append_own _ (by rfl) (.tmp 37) (.tmp 43) 90 (by rfl) w.heap.size 5 i0 (.int .u8 0) 1 1 Tryz.underlying90 hi hz0 hz1 hz2 rfl (by decide) _ k _ (by simp[Act.eval];rfl) (by exact hown.alloc _) ⟨wr.heap.size,0,none⟩ 1 1 [.int .u8 (dv a*16+dv b)] (by simp[Act.eval]) rfl (by exact BK wr #[_] _) (by simp[Value.oneCell']) (by unfold maxLen;omega) (by omega) (by have:=hb.size;simp;omega) ?_;intro v2 w2 hown2 hgrow2 _)
     go_roundw
     case rel =>
      obtain⟨p1,_,p3⟩:=PS.out
      refine⟨k+1,by omega,congrArg (Value.int .i64) (by omega),?_,?_,((below_drewN hb _).alloc hb.size _).grown hgrow2 (by have:=hb.size;simp;omega) (fun j hj=>(hown.lt j hj).1)⟩
      ·rw[TS.out,p1,List.map_append,List.map_cons,List.map_nil,LY _ (by omega) (by omega)]
       exact hown2
      ·rw[TS.out,p3,hok];simp;omega
     case measure=>simp[intOf];omega
    ·go_wp2_with fail
     go_quiet ((go_at_call 56;exact Calls.quiet_of_same (O5 _ _)))
     go_wp2_with fail
     go_ret2
     have hbad:okP s.data.toList=false:=by rw[TD.out];exact PB'.out (by simp;omega)
     exact⟨by simp only[EP,E6,hbad];rfl,below_drewN hb _⟩
   ·go_wp2_with fail
    go_quiet ((go_at_call 56;exact Calls.quiet_of_same (O5 _ _)))
    go_wp2_with fail
    go_ret2
    have hbad:okP s.data.toList=false:=by rw[TD.out];exact PB'.out (by simp;omega)
    exact⟨by simp only[EP,E6,hbad];rfl,below_drewN hb _⟩
  ·obtain rfl:k=n:=by omega
   have hL:s.data.toList.take (2*k)=s.data.toList:=List.take_of_length_le (by have:=Hs.out;have h2:s.data.toList.length=s.size:=Array.length_toList;omega)
   rw[hL] at hown hok
   have ks:=DH (P:=Tryz.prog) (t:=90) (ty:=9) Tryz.underlying90 Tryz.underlying5 Tryz.underlying9 hown
   have q1:(s.size:Int)≤2*(k:Int):=by have:=Hs.out;omega
   have E1:=Lh (by simp only[EP,hok];rfl:EP s=⟨(Ey s.data.toList).toArray⟩)
   have E2:=Lh (by simp only[E6,hok];rfl:E6 s=0)
   clear hL hok
   go_wp2_with fail
   go_ret2
   exact⟨TA E1.out.symm E2.out.symm,hb⟩
open Go.RowKit Go.Sort
theorem gd (n:Nat):clN n<B64^4:=by
 have hB:B64=18446744073709551616:=rfl
 exact Js _ (fun k=>by
  have h1:=Cb n 0
  have h2:=Cb n k
  have h3:=Nat.div_mul_le_self (wd n 0) 8
  have h4:wd n 3%4611686018427387904<4611686018427387904:=Nat.mod_lt _ (by decide)
  rw[hB]
  split
  ·omega
  ·split
   ·omega
   ·exact h2) 4
theorem bg (n:Nat):wd (clN n) 3=wd n 3%4611686018427387904+4611686018427387904:=Hq n 3 (by decide)
theorem TN (n x y:Nat) (hn:n<2^256) (hx:x<PN) (hy:y<PN) (h:(x*(tmX 256 n bX bY 1 0 1 1).2.2)%PN=(tmX 256 n bX bY 1 0 1 1).1%PN∧(y*(tmX 256 n bX bY 1 0 1 1).2.2)%PN=(tmX 256 n bX bY 1 0 1 1).2.1%PN):(AB n BD).1.val=x∧(AB n BD).2.val=y:=by
 have hr:=OA 256 n bX bY 1 0 1 1 BD Ci hn Dj FI Gm Lw
 obtain⟨n1,n2⟩:=h
 generalize tmX 256 n bX bY 1 0 1 1=t at *
 rw[Da,Dq _ (Cc _ Dj _)] at hr
 obtain⟨h1,h2,h3⟩:=hr
 rw[Zj,CB,← h2] at n1
 rw[Zj,CB,← h3] at n2
 have e1:=Gu _ _ _ h1 n1
 have e2:=Gu _ _ _ h1 n2
 rw[← e1,← e2,DO,DO,Nat.mod_eq_of_lt hx,Nat.mod_eq_of_lt hy]
 exact⟨rfl,rfl⟩
def Jl (L:List UInt8):List UInt8:=FV (CP Bt Bf [L++E8 L])
theorem J2 (L:List UInt8) (h:L.length=32):DY 128 (L++E8 L) [L++E8 L] []:=⟨by simp,by
 intro b hb
 obtain rfl:=List.mem_singleton.1 hb
 have:(E8 L).length=96:=by
  unfold E8
  rw[h]
  decide +kernel
 rw[List.length_append,h,this],by decide⟩
theorem Rc (L:List UInt8) (h:L.length=32):(Jl L).length=64:=by
 unfold Jl
 rw[Jg,(FT _ _ Cj.1 Cj.2 _).1]
theorem fo (s:ByteArray) (hs:s.size=32) (g:Nat) (w:World) (hg:w.heap[g]?=some (.cells #[.string s] 9 (0,0))):Calls Tryz.prog 54 #[.slice (some ⟨g,0,none⟩) 1 1] w fun e w'=>e=.returned (.string ⟨(Jl s.data.toList).toArray⟩)∧Below w.heap.size w w':=by
 have hl:s.data.toList.length=32:=by simpa using hs
 have h:=cn 1 (some ⟨g,0,none⟩) [s.data.toList] w (.inr ⟨g,0,rfl,(Array.getElem?_eq_some_iff.1 hg).1,fun i hi=>by
  have hi0:i=0:=by simpa using hi
  subst hi0
  rw[cell_of_row w g _ _ _ _ hg]
  show some (Value.string s)=some (Cd s.data.toList)
  unfold Cd
  rfl⟩) (by simp) (by simp;omega) [s.data.toList++E8 s.data.toList] [] (by simpa using J2 _ hl)
 exact h
theorem dZ (s:ByteArray) (hs:s.size=32) (w:World):Calls Tryz.prog 21 #[.string s] w fun e w'=>e=.returned (.string ⟨(Jl s.data.toList).toArray⟩)∧Below w.heap.size w w':=by
 have hl:s.data.toList.length=32:=by simpa using hs
 exact P7 s.data.toList (by omega) _ [] (J2 _ hl) w
def exS:List UInt8:=[157,97,177,157,239,253,90,96,186,132,74,244,146,236,44,196,68,73,197,105,123,50,105,25,112,59,172,3,28,174,127,96]
theorem Vz:Bd ⟨(exS++E8 exS).toArray⟩ 16=[11340540628589959776,13439949602277829828,4920681124708116761,8087246685239934816,9223372036854775808,0,0,0,0,0,0,0,0,0,0,256]:=by decide +kernel
theorem aC:Fu Bt Bf [11340540628589959776,13439949602277829828,4920681124708116761,8087246685239934816,9223372036854775808,0,0,0,0,0,0,0,0,0,0,256]=[3854099993999193035,4790192769505820988,18302390741936160931,11898774126494345487,11191175685748782186,8612717466478596128,6320598916537552790,17700147720492162959]:=by decide +kernel
theorem YN:Jl exS=[53,124,131,134,79,40,51,203,66,122,46,241,192,10,1,60,253,255,39,104,217,128,192,163,165,32,240,6,144,77,233,15,155,79,10,254,40,11,116,106,119,134,132,231,84,66,80,32,87,183,71,58,3,240,143,150,245,163,142,146,135,224,31,143]:=by
 show FV (Fu Bt Bf (Bd ⟨(exS++E8 exS).toArray⟩ 16))=_
 rw[Vz,aC]
 decide +kernel
theorem dY:clN (leN [53,124,131,134,79,40,51,203,66,122,46,241,192,10,1,60,253,255,39,104,217,128,192,163,165,32,240,6,144,77,233,15])=36144925721603087658594284515452164870581325872720374094707712194495455132720:=by decide +kernel
theorem eO:(38815646466658113194383306759739515082307681141926459231621296960732224964046*(tmX 256 36144925721603087658594284515452164870581325872720374094707712194495455132720 bX bY 1 0 1 1).2.2)%PN=(tmX 256 36144925721603087658594284515452164870581325872720374094707712194495455132720 bX bY 1 0 1 1).1%PN∧(11903303657706407974989296177215005343713679411332034699907763981919547054807*(tmX 256 36144925721603087658594284515452164870581325872720374094707712194495455132720 bX bY 1 0 1 1).2.2)%PN=(tmX 256 36144925721603087658594284515452164870581325872720374094707712194495455132720 bX bY 1 0 1 1).2.1%PN:=by decide +kernel
theorem aX:byL (E7 38815646466658113194383306759739515082307681141926459231621296960732224964046 11903303657706407974989296177215005343713679411332034699907763981919547054807)=[215,90,152,1,130,177,10,183,213,75,254,211,201,100,7,58,14,225,114,243,218,166,35,37,175,2,26,104,247,7,81,26]:=by decide +kernel
theorem Na:EP ⟨#[57,100,54,49,98,49,57,100,101,102,102,100,53,97,54,48,98,97,56,52,52,97,102,52,57,50,101,99,50,99,99,52,52,52,52,57,99,53,54,57,55,98,51,50,54,57,49,57,55,48,51,98,97,99,48,51,49,99,97,101,55,102,54,48]⟩=⟨exS.toArray⟩∧E6 ⟨#[57,100,54,49,98,49,57,100,101,102,102,100,53,97,54,48,98,97,56,52,52,97,102,52,57,50,101,99,50,99,99,52,52,52,52,57,99,53,54,57,55,98,51,50,54,57,49,57,55,48,51,98,97,99,48,51,49,99,97,101,55,102,54,48]⟩=0:=by decide +kernel
section
variable {P:Program} {o:Oper} {A:Act}
theorem Py {ty:TypeId} {x y:Operand} {S:ByteArray} {i:Nat} {c:UInt8} {k:IntKind} (W:World) (ho:o.op=.index ty x y) (hx:A.eval x=.string S) (hy:A.eval y=.int k (i:Int)) (hu:P.underlying ty=some .string) (hc:S[i]?=some c):(execOp A.eval o).run P W=.ok (.value (.int .u8 (c.toNat:Int))) W:=by
 unfold execOp
 simp[ho,hx,hy,Instr.index,asIntOf,Sem.run_bind,run_underlying hu W,hc]
theorem BG {ty:TypeId} {x:Operand} {lo hi mx:Option Operand} {S:ByteArray} {v:Value} (W:World) (ho:o.op=.slice ty x lo hi mx) (hx:A.eval x=.string S) (h:(Instr.sliceAt ty (.string S) (lo.map A.eval) (hi.map A.eval) (mx.map A.eval)).run P W=.ok v W):(execOp A.eval o).run P W=.ok (.value v) W:=by
 unfold execOp
 simp only[ho,hx,Sem.run_bind,h,Result.andThen_ok]
 rfl
theorem Lo {ty:TypeId} {S:ByteArray} {i j:Nat} {k k':IntKind} (W:World) (hu:P.underlying ty=some .string) (hij:i≤j) (hj:j≤S.size):(Instr.sliceAt ty (.string S) (some (.int k (i:Int))) (some (.int k' (j:Int))) none).run P W=.ok (.string (S.extract i j)) W:=by
 have h1:((i:Int)≤(j:Int)):=by omega
 have h2:((j:Int)≤(S.size:Int)):=by omega
 simp[Instr.sliceAt,Sem.run_bind,run_underlying hu W,Instr.slice,Instr.sliceBounds,Instr.sliceBound,asIntOf,go_sem,hij,hj]
theorem En {ty:TypeId} {S:ByteArray} {j:Nat} {k':IntKind} (W:World) (hu:P.underlying ty=some .string) (hj:j≤S.size):(Instr.sliceAt ty (.string S) none (some (.int k' (j:Int))) none).run P W=.ok (.string (S.extract 0 j)) W:=by
 simp[Instr.sliceAt,Sem.run_bind,run_underlying hu W,Instr.slice,Instr.sliceBounds,Instr.sliceBound,asIntOf,go_sem,hj]
theorem GQ {ty:TypeId} {S:ByteArray} {i:Nat} {k:IntKind} (W:World) (hu:P.underlying ty=some .string) (hi:i≤S.size):(Instr.sliceAt ty (.string S) (some (.int k (i:Int))) none none).run P W=.ok (.string (S.extract i S.size)) W:=by
 simp[Instr.sliceAt,Sem.run_bind,run_underlying hu W,Instr.slice,Instr.sliceBounds,Instr.sliceBound,asIntOf,go_sem,hi]
theorem NU {ops:Array Oper} {w0:World} {Q:Act→World→Prop} {o:Oper} {rest:List Oper} {k:Nat} {A:Act} {Ps:List PkW} {ns:List Nat} (j:Nat) (t:Tmp) {n:Nat} {L:Array Value} {T:TypeId} {v:Value} (hf:Ps.filter (BZ ops o)=[(j,fun u w'=>∃ b,u=.slice (some ⟨b,0,none⟩) n n∧w'.heap[b]?=some (.cells L T (0,0)))]) (hd:AW ops j=some t)
    (hw:∀ b,Region.wanted o (yielded ops (A.put (some t) (.slice (some ⟨b,0,none⟩) n n)).tmps)=true)
    (h:∀ b W,W.heap[b]?=some (.cells L T (0,0))→(execOp (A.put (some t) (.slice (some ⟨b,0,none⟩) n n)).eval o).run P W=.ok (.value v) W)
    (hr:BO P ops w0 Q rest (k+1) (A.put o.dst v) Ps ns):BO P ops w0 Q (o::rest) k A Ps ns :=
 .inl ⟨v,fun d os=>by
  rw[hf]
  rintro u ⟨b,rfl,hb⟩
  show CC P ops o _ _ (A.put (AW ops j) (.slice (some ⟨b,0,none⟩) n n))
  rw[hd]
  unfold CC
  rw[if_pos (hw b),h b _ hb]
  exact⟨rfl,Below.refl _ _⟩,hr⟩
theorem A8 {x:Operand} {tys:Array TypeId} {S:ByteArray} {ty:TypeId} (W:World) (ho:o.op=.call { callee:=.builtin .len,args:=#[x],argTypes:=tys }) (hx:#[x].map A.eval=#[.string S]) (ht:tys[0]?=some ty) (hu:P.underlying ty=some .string):(execOp A.eval o).run P W=.ok (.value (.int .i64 (S.size:Int))) W:=by
 have hx':A.eval x=.string S:=by simpa using hx
 unfold execOp
 simp[ho,resolve,invoke,builtin,hx',Builtin.len_,ht,Sem.run_bind,run_underlying hu W,goInt]
theorem FE {ty:TypeId} {S T:ByteArray} (x y:Operand) (W:World) (hz:S.size+T.size≤9223372036854775807):(do eqGuard .add ty x y (.string S) (.string T);binOp .add ty (.string S) (.string T):Sem Value).run P W=.ok (.string (S++T)) W:=by
 simp[eqGuard,binOp,Op.stringOp]
 omega
end
theorem fC (n i:Nat) (h:i<32):(⟨(byL n).toArray⟩:ByteArray)[i]?=some (UInt8.ofNat (n/256^i%256)):=by
 show (byL n).toArray[i]?=_
 rw[List.getElem?_toArray,byL,List.getElem?_map,List.getElem?_range h]
 rfl
theorem aN (l:Nat) (h:l<256):((UInt8.ofNat l).toNat:Int)=(l:Int):=by rw[UInt8.toNat_ofNat_of_lt' h]
theorem UE (n:Nat) (h:n<PN):n/256^31%256<128:=by
 have h1:n<256^31*128:=Nat.lt_trans h (by decide +kernel)
 exact Nat.lt_of_le_of_lt (Nat.mod_le _ _) (Nat.div_lt_of_lt_mul h1)
theorem WI (n i:Nat) (h:i<31):(n+HB)/256^i%256=n/256^i%256:=by
 have e:HB=(128*256^(30-i)*256)*256^i:=by
  have e1:256^31=256^(30-i)*256*256^i:=by
   rw[← Nat.pow_succ,← Nat.pow_add]
   congr 1
   omega
  rw[show HB=128*256^31 by decide +kernel,e1]
  simp only[Nat.mul_assoc]
 rw[e,Nat.add_mul_div_right _ _ (Nat.pow_pos (by decide)),Nat.add_mul_mod_self_right]
theorem ZG (n:Nat) (h:n<PN):(n+HB)/256^31%256=n/256^31%256+128:=by
 have h1:=UE n h
 have h0:n/256^31<128:=Nat.div_lt_of_lt_mul (Nat.lt_trans h (by decide +kernel))
 rw[show HB=128*256^31 by decide +kernel,Nat.add_mul_div_right _ _ (Nat.pow_pos (by decide))]
 obtain⟨q,hq⟩:=exzb (n/256^31)
 rw[hq] at h0 ⊢
 omega
theorem Rp (n m l:Nat) (hi:∀ i,i<31→m/256^i%256=n/256^i%256) (ht:m/256^31%256=l):((⟨(byL n).toArray⟩:ByteArray).extract 0 31)++(⟨#[UInt8.ofNat l]⟩:ByteArray)=⟨(byL m).toArray⟩:=by
 have h1:byL m=(byL n).take 31++[UInt8.ofNat l]:=by
  unfold byL
  rw[show List.range 32=List.range 31++[31] from List.range_succ,List.map_append,List.map_append,List.take_left' (by simp)]
  congr 1
  ·exact List.map_congr_left fun i hi'=>by rw[hi i (List.mem_range.1 hi')]
  ·simp[ht]
 rw[h1]
 refine ByteArray.ext ?_
 rw[ByteArray.data_append,ByteArray.data_extract]
 simp
theorem PM (x n:Nat) (h:n<PN):(x%2=1→((⟨(byL n).toArray⟩:ByteArray).extract 0 31)++(⟨#[UInt8.ofNat (n/256^31%256+128)]⟩:ByteArray)=⟨(byL (E7 x n)).toArray⟩)∧(¬ x%2=1→((⟨(byL n).toArray⟩:ByteArray).extract 0 31)++(⟨#[UInt8.ofNat (n/256^31%256)]⟩:ByteArray)=⟨(byL (E7 x n)).toArray⟩):=by
 unfold E7
 rw[Qp.1]
 constructor
 ·intro hx
  rw[if_pos hx]
  exact Rp _ _ _ (fun i hi=>WI n i hi) (ZG n h)
 ·intro hx
  rw[if_neg hx]
  exact Rp _ _ _ (fun _ _=>rfl) rfl
theorem T7:∀ l:List UInt8,beN l.reverse=leN l
 | []=>rfl
 | b::t=>by rw[List.reverse_cons,LR,T7 t,leN];omega
theorem Pz:∀ (l:List UInt8) (k:Nat),leN (l.take k)=leN l%256^k
 | [],k=>by simp[leN]
 | b::t,0=>by rw[List.take_zero,Nat.pow_zero,Nat.mod_one];rfl
 | b::t,k+1=>by
   have h2:=b.toNat_lt
   rw[List.take_succ_cons,leN,leN,Pz t k,Nat.pow_succ,Nat.mul_comm (256^k) 256,Nat.mod_mul]
   have h1:(b.toNat+256*leN t)%256=b.toNat:=by omega
   have h3:(b.toNat+256*leN t)/256=leN t:=by omega
   rw[h1,h3]
theorem PF:∀ (l:List UInt8) (k:Nat),leN (l.drop k)=leN l/256^k
 | l,0=>by rw[List.drop_zero,Nat.pow_zero,Nat.div_one]
 | [],k+1=>by simp[leN]
 | b::t,k+1=>by
   have h2:=b.toNat_lt
   rw[List.drop_succ_cons,PF t k,leN,Nat.pow_succ,Nat.mul_comm (256^k) 256,← Nat.div_div_eq_div_mul]
   congr 1
   omega
theorem cf (s:ByteArray) (i:Nat):beN (s.extract (8*i) (8*i+8)).data.toList.reverse=wd (leN s.data.toList) i:=by
 rw[T7,ByteArray.data_extract,Array.toList_extract,List.extract_eq_take_drop,Pz,PF]
 unfold wd
 rw[show 8*i+8-8*i=8 by omega,show (256:Nat)^8=B64 by decide,show B64=256^8 by decide,← Nat.pow_mul]
theorem Pw (s:ByteArray) (i:Nat) (hs:s.size=32) (hi:i<4) (w:World):Calls Tryz.prog 63 #[.string (s.extract (8*i) (8*i+8))] w fun e w'=>e=.returned (.string ⟨(s.extract (8*i) (8*i+8)).data.toList.reverse.toArray⟩)∧Below w.heap.size w w':=NI _ w (by
 rw[ByteArray.size_extract]
 omega)
theorem Um (s:ByteArray) (i v:Nat) (hs:s.size=32) (hi:i<4) (hv:wd (leN s.data.toList) i=v) (w:World):Calls Tryz.prog 62 #[.string ⟨(s.extract (8*i) (8*i+8)).data.toList.reverse.toArray⟩] w fun e w'=>e=.returned (.int .u64 (v:Int))∧Below w.heap.size w w':=by
 have hz:(⟨(s.extract (8*i) (8*i+8)).data.toList.reverse.toArray⟩:ByteArray).size≤8:=by
  show (s.extract (8*i) (8*i+8)).data.toList.reverse.toArray.size≤8
  rw[List.size_toArray,List.length_reverse,Array.length_toList]
  show (s.extract (8*i) (8*i+8)).size≤8
  rw[ByteArray.size_extract]
  omega
 refine (Gp _ w hz).mono ?_
 rintro e w' ⟨rfl,rfl⟩
 refine⟨?_,Below.refl _ _⟩
 show Ending.returned (.int .u64 ((beN (s.extract (8*i) (8*i+8)).data.toList.reverse:Nat):Int))=_
 rw[cf,hv]
theorem Q3 (a:Nat) (x y:Operand) (W:World):(do eqGuard .rem 22 x y (.int .u64 (a:Int)) (.int .u64 2);binOp .rem 22 (.int .u64 (a:Int)) (.int .u64 2):Sem Value).run Tryz.prog W=.ok (.int .u64 ((a%2:Nat):Int)) W:=by
 have e:((a:Int).tmod 2)=((a%2:Nat):Int):=by rw[Int.tmod_eq_emod_of_nonneg (by omega)];omega
 have e2:IntKind.u64.wrap ((a%2:Nat):Int)=((a%2:Nat):Int):=IntWalk.u64_in _ (by omega)
 have e3:(a:Int)%2=((a%2:Nat):Int):=by omega
 obtain⟨m,hm⟩:=exzb (a%2)
 rw[hm] at e e2 e3 ⊢
 go_simp
theorem Eu (b:Nat) (x y:Operand) (W:World):(do eqGuard .eql 22 x y (.int .u64 (b:Int)) (.int .u64 1);binOp .eql 22 (.int .u64 (b:Int)) (.int .u64 1):Sem Value).run Tryz.prog W=.ok (.bool (decide (b=1))) W:=by
 have e:((b:Int) == 1)=decide (b=1):=by
  rw[Bool.eq_iff_iff]
  simp
  omega
 go_simp
theorem Sa (b:Nat) (h:b<128) (x y:Operand) (W:World):(do eqGuard .add 5 x y (.int .u8 (b:Int)) (.int .u8 128);binOp .add 5 (.int .u8 (b:Int)) (.int .u8 128):Sem Value).run Tryz.prog W=.ok (.int .u8 ((b+128:Nat):Int)) W:=by
 have e2:IntKind.u8.wrap ((b:Int)+128)=((b+128:Nat):Int):=by rw[IntWalk.u8_in _ (by omega)];omega
 obtain⟨m,hm⟩:=exzb (b+128)
 rw[hm] at e2 ⊢
 go_simp
theorem Pu (b:Nat) (W:World):(Instr.indexAt 23 (.pointer (some ⟨b,0,none⟩)) (.int .i64 0)).run Tryz.prog W=.ok (.pointer (some ⟨b,0,none⟩)) W:=by
 go_simp
theorem fp (b:Nat) (W:World):(Instr.indexAt 23 (.pointer (some ⟨b,0,none⟩)) (.int .i64 1)).run Tryz.prog W=.ok (.pointer (some ⟨b,1,none⟩)) W:=by
 go_simp
theorem gE (b:Nat) (W:World):(Instr.indexAt 23 (.pointer (some ⟨b,0,none⟩)) (.int .i64 2)).run Tryz.prog W=.ok (.pointer (some ⟨b,2,none⟩)) W:=by
 go_simp
theorem Du (b:Nat) (W:World):(Instr.indexAt 23 (.pointer (some ⟨b,0,none⟩)) (.int .i64 3)).run Tryz.prog W=.ok (.pointer (some ⟨b,3,none⟩)) W:=by
 go_simp
theorem eM (c:Nat) (W:World):(Instr.buildSlice 90 1 #[(0,.int .u8 (c:Int))]).run Tryz.prog W=.ok (.slice (some ⟨W.heap.size,0,none⟩) 1 1) (W.alloc (.cells #[.int .u8 (c:Int)] 5 (0,0))):=by
 go_simp
theorem Km (c:Nat) (hc:c<256) (b:Nat) (W:World) (hb:W.heap[b]?=some (.cells #[.int .u8 (c:Int)] 5 (0,0))):(convert 90 9 (.slice (some ⟨b,0,none⟩) 1 1)).run Tryz.prog W=.ok (.string ⟨#[UInt8.ofNat c]⟩) W:=by
 have h:=run_convert_bytes_back (P:=Tryz.prog) W 90 9 5 ⟨b,0,none⟩ 1 [UInt8.ofNat c] Tryz.underlying90 Tryz.underlying5 Tryz.underlying9 (fun j hj=>by
  have j0:j=0:=by simpa using hj
  subst j0
  have hadd:(⟨b,0,none⟩:Addr).add 0=⟨b,0,none⟩:=by unfold Addr.add;split <;> simp_all
  rw[hadd,cell_of_row W b 0 _ _ _ hb]
  show _=some (Value.int .u8 ((UInt8.ofNat c).toNat:Int))
  rw[UInt8.toNat_ofNat_of_lt' hc]
  rfl)
 exact h
theorem H8 {b:N3} {p:Pt} (hb:Ok3 b p) (w:World):Calls Tryz.prog 23 #[pv3 b] w fun E w'=>E=.returned (.string ⟨(byL (E7 p.1.val p.2.val)).toArray⟩)∧Below w.heap.size w w':=by
 have HMIX:=Lh (show Tryz.prog.follows .mixedOrders=true by kernel_rfl)
 go_enter Tryz.func23,Tryz.ntmps23
 have hM0:=Mem.start w
 (go_step;go_step;refine wp_region_lit ?_)
 refine At hM0 (ob:=.cells ((rpL b.1 b.2.1 b.2.2).toArray) 55 (0,0)) (fun W=>AK rfl rfl (Kk _ _ _ W)) rfl fun b1 W1 hM1=>?_
 simp only[nmA]
 refine Ad (.string ⟨#[]⟩) ?_
 simp only[nmA]
 refine wpList_nil ?_
 ((iterate 3 go_step);refine wp_region_lit ?_)
 refine AD hM1 0 (v:=pv3 b) rfl rfl rfl rfl Cn rfl ?_
 simp only[nmA]
 obtain⟨v1,ev1⟩:=exza (p.1.val)
 have pv1:v1<PN:=by rw[ev1];exact Fin.isLt _
 obtain⟨v2,ev2⟩:=exza (p.2.val)
 have pv2:v2<PN:=by rw[ev2];exact Fin.isLt _
 have KX14:=Lh (fun W=>jc hb W)
 simp only[← ev1,← ev2] at KX14
 refine Ah hM1 (args:=#[pv3 b]) (v:=.tuple #[Aa v1,Aa v2]) (rcf (enters_of Tryz.func64 rfl rfl)) (KX14.out W1) rfl fun W2 hM2=>?_
 simp only[nmA]
 refine Ad (.tuple #[Aa v1,Aa v2]) ?_
 simp only[nmA]
 refine Ad (Aa v1) ?_
 simp only[nmA]
 refine Ad (Aa v2) ?_
 simp only[nmA]
 refine At hM2 (ob:=.cells z4 23 (0,0)) (fun W=>Ab rfl (Cr W)) rfl fun b2 W3 hM3=>?_
 simp only[nmA]
 refine At hM3 (ob:=.cells z4 23 (0,0)) (fun W=>Ab rfl (Cr W)) rfl fun b3 W4 hM4=>?_
 simp only[nmA]
 refine Av hM4 1 (cs:=(elR v1)) rfl rfl rfl rfl AG rfl (Ay v1) rfl rfl fun W5 hM5=>?_
 simp only[nm2,nm3] at hM5
 refine Av hM5 0 (cs:=(elR v2)) rfl rfl rfl rfl AG rfl (Ay v2) rfl rfl fun W6 hM6=>?_
 simp only[nm2,nm3] at hM6
 refine wpList_nil ?_
 ((iterate 3 go_step);refine wp_region_lit ?_)
 refine AD hM6 0 (v:=Aa v2) rfl rfl rfl rfl AG rfl ?_
 simp only[nmA]
 obtain⟨zb,ezb⟩:∃ t:ByteArray,t=⟨(byL v2).toArray⟩:=⟨_,rfl⟩
 have KZ:=Lh (fun w=>MZ v2 w)
 rw[← ezb] at KZ
 refine Ah hM6 (args:=#[Aa v2]) (v:=.string zb) (rcf (enters_of Tryz.func45 rfl rfl)) (KZ.out W6) rfl fun W7 hM7=>?_
 simp only[nmA]
 refine Ad (.string zb) ?_
 simp only[nmA]
 refine wpList_nil ?_
 ((iterate 3 go_step);refine wp_region_lit ?_)
 refine Ad (.string zb) ?_
 simp only[nmA]
 obtain⟨l,el⟩:=exzb (v2/256^31%256)
 have hl:l<128:=by rw[← el];exact UE v2 pv2
 have KI:zb[31]?=some (UInt8.ofNat l):=by rw[ezb,← el];exact fC v2 31 (by decide)
 refine Ac (v:=.int .u8 (l:Int)) (fun W=>(aN l (Nat.lt_trans hl (by decide))) ▸ Py W rfl rfl rfl Tryz.underlying9 KI) rfl ?_
 simp only[nmA]
 refine Ad (.int .u8 (l:Int)) ?_
 simp only[nmA]
 refine wpList_nil ?_
 ((iterate 4 go_step);refine wp_region_lit ?_)
 refine Ac (v:=.pointer (some ⟨b2,0,none⟩)) (fun W=>Ar rfl rfl rfl (Pu b2 W)) rfl ?_
 simp only[nmA]
 refine Bc hM7 1 (v:=.int .u64 (wd v1 0:Int)) rfl rfl rfl rfl BN rfl ?_
 simp only[nmA]
 refine Ac (v:=.int .u64 (((wd v1 0)%2:Nat):Int)) (fun W=>Ag rfl rfl rfl (Q3 (wd v1 0) _ _ W)) rfl ?_
 simp only[nmA]
 obtain⟨c1,hc1⟩:=exza (decide (((wd v1 0)%2)=1))
 refine Ac (v:=.bool c1) (fun W=>Ag rfl rfl rfl (by rw[hc1];exact Eu ((wd v1 0)%2) _ _ W)) rfl ?_
 simp only[nmA]
 refine wpList_nil ?_
 cases c1
 ·skip
  have hpar:=of_decide_eq_false hc1.symm
  rw[show wd v1 0=v1%B64 by unfold wd;rw[Nat.pow_zero,Nat.div_one],show v1%B64%2=v1%2 from Nat.mod_mod_of_dvd _ (by decide)] at hpar
  have hl256:l<256:=by omega
  ((iterate 7 go_step);refine Ak 7 HMIX.out (by decide) (by kernel_rfl) (by kernel_rfl) ?_)
  refine AM (.string zb) ?_;simp only[nmA]
  obtain⟨zc,ezc⟩:∃ t:ByteArray,t=zb.extract 0 31:=⟨_,rfl⟩
  have hzb:31≤zb.size:=by rw[ezb,EE];decide
  have hzc:zc.size=31:=by rw[ezc,ByteArray.size_extract,ezb,EE];rfl
  refine As (v:=.string zc) (fun W=>by rw[ezc];exact BG W rfl rfl (En (j:=31) W Tryz.underlying9 hzb)) rfl rfl ?_;simp only[nmA]
  refine AM (.int .u8 (l:Int)) ?_;simp only[nmA]
  refine AX (n:=1) (L:=#[.int .u8 (l:Int)]) (T:=5) (fun W=>Ax rfl (by simp[Act.eval]) (eM l W)) rfl rfl ?_;simp only[List.nil_append,List.cons_append]
  obtain⟨zd,ezd⟩:∃ t:ByteArray,t=⟨#[UInt8.ofNat l]⟩:=⟨_,rfl⟩
  have hzd:zd.size=1:=by rw[ezd];rfl
  refine NU 3 25 (v:=.string zd) rfl rfl (fun _=>rfl) (fun b W h=>by rw[ezd];exact NC rfl rfl (Km l hl256 b W h)) ?_;simp only[nmA]
  obtain⟨ze,eze⟩:∃ t:ByteArray,t=zc++zd:=⟨_,rfl⟩
  have hze:zc.size+zd.size≤9223372036854775807:=by rw[hzc,hzd];decide
  refine As (v:=.string ze) (fun W=>Ag rfl rfl rfl (by rw[eze];exact FE _ _ W hze)) rfl rfl ?_;simp only[nmA]
  refine AM (.string ze) ?_;simp only[nmA]
  refine AO fun d os=>?_
  refine Bb (t:=25) rfl fun s3=>?_
  refine Az fun hap=>?_
  simp only[nmA] at hap ⊢
  have hM8:=hM7.calls (below_regrown W7 d os)
  clear hap 
  generalize grow (redrawn W7 d) os=W8 at hM8 ⊢
  refine wpAny_done (by kernel_rfl) ?_ _
  ((iterate 3 go_step);refine bodyPost_ret (v:=.string ze) (AY Tryz.results23 rfl) rfl ⟨?_,hM8.below⟩)
  exact by
      have ht:=(PM v1 v2 pv2).2 hpar
      rw[el] at ht
      rw[eze,ezc,ezd,ezb,ht,ev1,ev2]
 ·skip
  have hpar:=of_decide_eq_true hc1.symm
  rw[show wd v1 0=v1%B64 by unfold wd;rw[Nat.pow_zero,Nat.div_one],show v1%B64%2=v1%2 from Nat.mod_mod_of_dvd _ (by decide)] at hpar
  ((iterate 3 go_step);refine wp_region_lit ?_)
  refine Ad (.int .u8 (l:Int)) ?_
  simp only[nmA]
  refine Ac (v:=.int .u8 ((l+128:Nat):Int)) (fun W=>Ag rfl rfl rfl (Sa l hl _ _ W)) rfl ?_
  simp only[nmA]
  refine Ad (.int .u8 ((l+128:Nat):Int)) ?_
  simp only[nmA]
  refine wpList_nil ?_
  have hl256:l+128<256:=by omega
  ((iterate 3 go_step);refine Ak 7 HMIX.out (by decide) (by kernel_rfl) (by kernel_rfl) ?_)
  refine AM (.string zb) ?_;simp only[nmA]
  obtain⟨zc,ezc⟩:∃ t:ByteArray,t=zb.extract 0 31:=⟨_,rfl⟩
  have hzb:31≤zb.size:=by rw[ezb,EE];decide
  have hzc:zc.size=31:=by rw[ezc,ByteArray.size_extract,ezb,EE];rfl
  refine As (v:=.string zc) (fun W=>by rw[ezc];exact BG W rfl rfl (En (j:=31) W Tryz.underlying9 hzb)) rfl rfl ?_;simp only[nmA]
  refine AM (.int .u8 ((l+128:Nat):Int)) ?_;simp only[nmA]
  refine AX (n:=1) (L:=#[.int .u8 ((l+128:Nat):Int)]) (T:=5) (fun W=>Ax rfl (by simp[Act.eval]) (eM (l+128) W)) rfl rfl ?_;simp only[List.nil_append,List.cons_append]
  obtain⟨zd,ezd⟩:∃ t:ByteArray,t=⟨#[UInt8.ofNat (l+128)]⟩:=⟨_,rfl⟩
  have hzd:zd.size=1:=by rw[ezd];rfl
  refine NU 3 25 (v:=.string zd) rfl rfl (fun _=>rfl) (fun b W h=>by rw[ezd];exact NC rfl rfl (Km (l+128) hl256 b W h)) ?_;simp only[nmA]
  obtain⟨ze,eze⟩:∃ t:ByteArray,t=zc++zd:=⟨_,rfl⟩
  have hze:zc.size+zd.size≤9223372036854775807:=by rw[hzc,hzd];decide
  refine As (v:=.string ze) (fun W=>Ag rfl rfl rfl (by rw[eze];exact FE _ _ W hze)) rfl rfl ?_;simp only[nmA]
  refine AM (.string ze) ?_;simp only[nmA]
  refine AO fun d os=>?_
  refine Bb (t:=25) rfl fun s3=>?_
  refine Az fun hap=>?_
  simp only[nmA] at hap ⊢
  have hM8:=hM7.calls (below_regrown W7 d os)
  clear hap 
  generalize grow (redrawn W7 d) os=W8 at hM8 ⊢
  refine wpAny_done (by kernel_rfl) ?_ _
  ((iterate 3 go_step);refine bodyPost_ret (v:=.string ze) (AY Tryz.results23 rfl) rfl ⟨?_,hM8.below⟩)
  exact by
      have ht:=(PM v1 v2 pv2).1 hpar
      rw[el] at ht
      rw[eze,ezc,ezd,ezb,ht,ev1,ev2]
theorem Em (s:ByteArray) (hs:s.size=32) (w:World):Calls Tryz.prog 22 #[.string s] w fun E w'=>E=.returned (Aa (leN s.data.toList))∧Below w.heap.size w w':=by
 obtain⟨N,hN⟩:=exzb (leN s.data.toList)
 obtain⟨w0,hw0⟩:=exzb (wd (leN s.data.toList) 0)
 obtain⟨w1,hw1⟩:=exzb (wd (leN s.data.toList) 1)
 obtain⟨w2,hw2⟩:=exzb (wd (leN s.data.toList) 2)
 obtain⟨w3,hw3⟩:=exzb (wd (leN s.data.toList) 3)
 rw[hN]
 go_enter Tryz.func22,Tryz.ntmps22
 have hM0:=Mem.start w
 (go_step;go_step;refine wp_region_lit ?_)
 refine At hM0 (ob:=.cells z4 23 (0,0)) (fun W=>Ab rfl (Cr W)) rfl fun b1 W1 hM1=>?_
 simp only[nmA]
 refine wpList_nil ?_
 ((iterate 3 go_step);refine wp_region_lit ?_)
 refine At hM1 (ob:=.cells z4 23 (0,0)) (fun W=>Ab rfl (Cr W)) rfl fun b2 W2 hM2=>?_
 simp only[nmA]
 refine wpList_nil ?_
 ((iterate 4 go_step);refine wp_region_lit ?_)
 refine Ad (.int .i64 0) ?_
 simp only[nmA]
 refine wpList_nil ?_
 ((iterate 3 go_step);refine wp_loop_rounds 5 ?_)
 rw[rounds_succ]
 (go_step;go_step;refine wp_region_lit ?_)
 refine Ad (.int .i64 0) ?_
 simp only[nmA]
 refine Ac (v:=.bool true) (fun W=>by go_simp) rfl ?_
 simp only[nmA]
 refine wpList_nil ?_
 ((iterate 8 go_step);refine wp_region_lit ?_)
 refine Ad (.int .i64 0) ?_
 simp only[nmA]
 refine Ad (.string s) ?_
 simp only[nmA]
 refine Ad (.int .i64 0) ?_
 simp only[nmA]
 refine Ac (v:=.int .i64 0) (fun W=>by go_simp;decide) rfl ?_
 simp only[nmA]
 refine Ad (.int .i64 0) ?_
 simp only[nmA]
 refine Ac (v:=.int .i64 0) (fun W=>by go_simp;decide) rfl ?_
 simp only[nmA]
 refine Ac (v:=.int .i64 8) (fun W=>by go_simp;decide) rfl ?_
 simp only[nmA]
 refine Ac (v:=.string (s.extract (8*0) (8*0+8))) (fun W=>BG W rfl rfl (Lo (i:=8*0) (j:=8*0+8) W Tryz.underlying9 (by omega) (by omega))) rfl ?_
 simp only[nmA]
 refine Ah hM2 (args:=#[.string (s.extract (8*0) (8*0+8))]) (v:=.string ⟨(s.extract (8*0) (8*0+8)).data.toList.reverse.toArray⟩) (rcf (enters_of Tryz.func63 rfl rfl)) ((fun W=>Pw s 0 hs (by decide) W) W2) rfl fun W3 hM3=>?_
 simp only[nmA]
 refine Ah hM3 (args:=#[.string ⟨(s.extract (8*0) (8*0+8)).data.toList.reverse.toArray⟩]) (v:=.int .u64 (w0:Int)) (rcf (enters_of Tryz.func62 rfl rfl)) ((fun W=>Um s 0 w0 hs (by decide) hw0 W) W3) rfl fun W4 hM4=>?_
 simp only[nmA]
 refine Ac (v:=.pointer (some ⟨b2,0,none⟩)) (fun W=>Ar rfl rfl rfl (Pu b2 W)) rfl ?_
 simp only[nmA]
 refine Ba hM4 0 (cs':=#[.int .u64 (w0:Int),.int .u64 0,.int .u64 0,.int .u64 0]) rfl rfl rfl rfl (by show 0<4;decide) (rfl) BN rfl rfl rfl fun W5 hM5=>?_
 simp only[nm2,nm3] at hM5
 refine wpList_nil ?_
 (go_step;go_step;refine wp_region_lit ?_)
 refine Ad (.int .i64 0) ?_
 simp only[nmA]
 refine Ac (v:=.int .i64 1) (fun W=>by go_simp;decide) rfl ?_
 simp only[nmA]
 refine Ad (.int .i64 1) ?_
 simp only[nmA]
 refine wpList_nil ?_
 go_step
 rw[rounds_succ]
 (go_step;go_step;refine wp_region_lit ?_)
 refine Ad (.int .i64 1) ?_
 simp only[nmA]
 refine Ac (v:=.bool true) (fun W=>by go_simp) rfl ?_
 simp only[nmA]
 refine wpList_nil ?_
 ((iterate 8 go_step);refine wp_region_lit ?_)
 refine Ad (.int .i64 1) ?_
 simp only[nmA]
 refine Ad (.string s) ?_
 simp only[nmA]
 refine Ad (.int .i64 1) ?_
 simp only[nmA]
 refine Ac (v:=.int .i64 8) (fun W=>by go_simp;decide) rfl ?_
 simp only[nmA]
 refine Ad (.int .i64 1) ?_
 simp only[nmA]
 refine Ac (v:=.int .i64 8) (fun W=>by go_simp;decide) rfl ?_
 simp only[nmA]
 refine Ac (v:=.int .i64 16) (fun W=>by go_simp;decide) rfl ?_
 simp only[nmA]
 refine Ac (v:=.string (s.extract (8*1) (8*1+8))) (fun W=>BG W rfl rfl (Lo (i:=8*1) (j:=8*1+8) W Tryz.underlying9 (by omega) (by omega))) rfl ?_
 simp only[nmA]
 refine Ah hM5 (args:=#[.string (s.extract (8*1) (8*1+8))]) (v:=.string ⟨(s.extract (8*1) (8*1+8)).data.toList.reverse.toArray⟩) (rcf (enters_of Tryz.func63 rfl rfl)) ((fun W=>Pw s 1 hs (by decide) W) W5) rfl fun W6 hM6=>?_
 simp only[nmA]
 refine Ah hM6 (args:=#[.string ⟨(s.extract (8*1) (8*1+8)).data.toList.reverse.toArray⟩]) (v:=.int .u64 (w1:Int)) (rcf (enters_of Tryz.func62 rfl rfl)) ((fun W=>Um s 1 w1 hs (by decide) hw1 W) W6) rfl fun W7 hM7=>?_
 simp only[nmA]
 refine Ac (v:=.pointer (some ⟨b2,1,none⟩)) (fun W=>Ar rfl rfl rfl (fp b2 W)) rfl ?_
 simp only[nmA]
 refine Ba hM7 0 (cs':=#[.int .u64 (w0:Int),.int .u64 (w1:Int),.int .u64 0,.int .u64 0]) rfl rfl rfl rfl (by show 1<4;decide) (rfl) BN rfl rfl rfl fun W8 hM8=>?_
 simp only[nm2,nm3] at hM8
 refine wpList_nil ?_
 (go_step;go_step;refine wp_region_lit ?_)
 refine Ad (.int .i64 1) ?_
 simp only[nmA]
 refine Ac (v:=.int .i64 2) (fun W=>by go_simp;decide) rfl ?_
 simp only[nmA]
 refine Ad (.int .i64 2) ?_
 simp only[nmA]
 refine wpList_nil ?_
 go_step
 rw[rounds_succ]
 (go_step;go_step;refine wp_region_lit ?_)
 refine Ad (.int .i64 2) ?_
 simp only[nmA]
 refine Ac (v:=.bool true) (fun W=>by go_simp) rfl ?_
 simp only[nmA]
 refine wpList_nil ?_
 ((iterate 8 go_step);refine wp_region_lit ?_)
 refine Ad (.int .i64 2) ?_
 simp only[nmA]
 refine Ad (.string s) ?_
 simp only[nmA]
 refine Ad (.int .i64 2) ?_
 simp only[nmA]
 refine Ac (v:=.int .i64 16) (fun W=>by go_simp;decide) rfl ?_
 simp only[nmA]
 refine Ad (.int .i64 2) ?_
 simp only[nmA]
 refine Ac (v:=.int .i64 16) (fun W=>by go_simp;decide) rfl ?_
 simp only[nmA]
 refine Ac (v:=.int .i64 24) (fun W=>by go_simp;decide) rfl ?_
 simp only[nmA]
 refine Ac (v:=.string (s.extract (8*2) (8*2+8))) (fun W=>BG W rfl rfl (Lo (i:=8*2) (j:=8*2+8) W Tryz.underlying9 (by omega) (by omega))) rfl ?_
 simp only[nmA]
 refine Ah hM8 (args:=#[.string (s.extract (8*2) (8*2+8))]) (v:=.string ⟨(s.extract (8*2) (8*2+8)).data.toList.reverse.toArray⟩) (rcf (enters_of Tryz.func63 rfl rfl)) ((fun W=>Pw s 2 hs (by decide) W) W8) rfl fun W9 hM9=>?_
 simp only[nmA]
 refine Ah hM9 (args:=#[.string ⟨(s.extract (8*2) (8*2+8)).data.toList.reverse.toArray⟩]) (v:=.int .u64 (w2:Int)) (rcf (enters_of Tryz.func62 rfl rfl)) ((fun W=>Um s 2 w2 hs (by decide) hw2 W) W9) rfl fun W10 hM10=>?_
 simp only[nmA]
 refine Ac (v:=.pointer (some ⟨b2,2,none⟩)) (fun W=>Ar rfl rfl rfl (gE b2 W)) rfl ?_
 simp only[nmA]
 refine Ba hM10 0 (cs':=#[.int .u64 (w0:Int),.int .u64 (w1:Int),.int .u64 (w2:Int),.int .u64 0]) rfl rfl rfl rfl (by show 2<4;decide) (rfl) BN rfl rfl rfl fun W11 hM11=>?_
 simp only[nm2,nm3] at hM11
 refine wpList_nil ?_
 (go_step;go_step;refine wp_region_lit ?_)
 refine Ad (.int .i64 2) ?_
 simp only[nmA]
 refine Ac (v:=.int .i64 3) (fun W=>by go_simp;decide) rfl ?_
 simp only[nmA]
 refine Ad (.int .i64 3) ?_
 simp only[nmA]
 refine wpList_nil ?_
 go_step
 rw[rounds_succ]
 (go_step;go_step;refine wp_region_lit ?_)
 refine Ad (.int .i64 3) ?_
 simp only[nmA]
 refine Ac (v:=.bool true) (fun W=>by go_simp) rfl ?_
 simp only[nmA]
 refine wpList_nil ?_
 ((iterate 8 go_step);refine wp_region_lit ?_)
 refine Ad (.int .i64 3) ?_
 simp only[nmA]
 refine Ad (.string s) ?_
 simp only[nmA]
 refine Ad (.int .i64 3) ?_
 simp only[nmA]
 refine Ac (v:=.int .i64 24) (fun W=>by go_simp;decide) rfl ?_
 simp only[nmA]
 refine Ad (.int .i64 3) ?_
 simp only[nmA]
 refine Ac (v:=.int .i64 24) (fun W=>by go_simp;decide) rfl ?_
 simp only[nmA]
 refine Ac (v:=.int .i64 32) (fun W=>by go_simp;decide) rfl ?_
 simp only[nmA]
 refine Ac (v:=.string (s.extract (8*3) (8*3+8))) (fun W=>BG W rfl rfl (Lo (i:=8*3) (j:=8*3+8) W Tryz.underlying9 (by omega) (by omega))) rfl ?_
 simp only[nmA]
 refine Ah hM11 (args:=#[.string (s.extract (8*3) (8*3+8))]) (v:=.string ⟨(s.extract (8*3) (8*3+8)).data.toList.reverse.toArray⟩) (rcf (enters_of Tryz.func63 rfl rfl)) ((fun W=>Pw s 3 hs (by decide) W) W11) rfl fun W12 hM12=>?_
 simp only[nmA]
 refine Ah hM12 (args:=#[.string ⟨(s.extract (8*3) (8*3+8)).data.toList.reverse.toArray⟩]) (v:=.int .u64 (w3:Int)) (rcf (enters_of Tryz.func62 rfl rfl)) ((fun W=>Um s 3 w3 hs (by decide) hw3 W) W12) rfl fun W13 hM13=>?_
 simp only[nmA]
 refine Ac (v:=.pointer (some ⟨b2,3,none⟩)) (fun W=>Ar rfl rfl rfl (Du b2 W)) rfl ?_
 simp only[nmA]
 refine Ba hM13 0 (cs':=#[.int .u64 (w0:Int),.int .u64 (w1:Int),.int .u64 (w2:Int),.int .u64 (w3:Int)]) rfl rfl rfl rfl (by show 3<4;decide) (rfl) BN rfl rfl rfl fun W14 hM14=>?_
 simp only[nm2,nm3] at hM14
 refine wpList_nil ?_
 (go_step;go_step;refine wp_region_lit ?_)
 refine Ad (.int .i64 3) ?_
 simp only[nmA]
 refine Ac (v:=.int .i64 4) (fun W=>by go_simp;decide) rfl ?_
 simp only[nmA]
 refine Ad (.int .i64 4) ?_
 simp only[nmA]
 refine wpList_nil ?_
 go_step
 rw[rounds_succ]
 (go_step;go_step;refine wp_region_lit ?_)
 refine Ad (.int .i64 4) ?_
 simp only[nmA]
 refine Ac (v:=.bool false) (fun W=>by go_simp) rfl ?_
 simp only[nmA]
 refine wpList_nil ?_
 have EN:#[Value.int .u64 (w0:Int),.int .u64 (w1:Int),.int .u64 (w2:Int),.int .u64 (w3:Int)]=elR N:=by unfold elR;rw[← hw0,← hw1,← hw2,← hw3,hN]
 rw[EN] at hM14
 ((iterate 7 go_step);refine wp_region_lit ?_)
 refine AD hM14 0 (v:=Aa N) rfl rfl rfl rfl AG rfl ?_
 simp only[nmA]
 refine Av hM14 1 (cs:=(elR N)) rfl rfl rfl rfl AG rfl (Ay N) rfl rfl fun W15 hM15=>?_
 simp only[nm2,nm3] at hM15
 refine wpList_nil ?_
 ((iterate 3 go_step);refine bodyPost_ret (v:=Aa N) (Ap Tryz.results22 rfl (hM15.load 1 rfl AG)) rfl ⟨?_,hM15.below⟩)
 exact rfl
section
variable {P:Program} {w w0 w' W:World} {M:List Blk} {o:Oper} {A:Act}
theorem OJ {ops:Array Oper} {md:Region.Mode} {fuel:Nat} {listed:Array Bool} {Q:Exit→Act→World→Prop} {S:World→Prop} {n:Nat} {d:Tmp} {f:FuncId} {args:Array Value} {v:Value} (L:Array Bool) (hL:listed.setIfInBounds n true=L) (hr:Region.ready md ops listed=[n]) (hn:ops[n]?=some o) (hdd:o.dst=some d) (hgd:Region.wanted o (yielded ops A.tmps)=true) (hM:Mem w0 M w) (h:∀ W,(execOp A.eval o).run P W=.ok (.enter f args) W) (hc:Calls P f args w fun e w'=>e=.returned v∧Below w.heap.size w w')
    (hSW:∀ W,Mem w0 M W→S W) (hk:∀ W,Mem w0 M W→wpAnyH P md ops Q S fuel L (A.put (some d) v) W):wpAnyH P md ops Q S (fuel+1) listed A w :=
 wpAnyH_ready hr (by simp) fun j hj=>by
  obtain rfl:j=n:=by simpa using hj
  unfold wpOp
  simp only[hn]
  rw[if_pos hgd]
  refine .inl ?_
  unfold Oper.wp
  rw[h]
  refine hc.mono fun e w2 he=>?_
  obtain⟨rfl,hb⟩:=he
  show S _∧wpAnyH P md ops Q S fuel _ (A.put o.dst _) _
  rw[hdd,hL]
  exact⟨hSW _ (hM.calls hb),hk _ (hM.calls hb)⟩
end
end Go.Proofs.YtnaldciakclccaaGreat
