/- Lemmas of this proof. -/
import Derived.Laws.BitsAllLaws
import Derived.Laws.Bits64
import Derived.IntWalk
import Derived.Lib.Strings
import Derived.BigQuiet
import Derived.Lib.QuietBelow
import Derived.Deep.RegionHeld3
import Derived.Deep.AppendLies
import Derived.Test.YtnaldciakclccaaGreatEv19
import Derived.Test.YtnaldciakclccaaGreatEv01
namespace Go.Proofs.YtnaldciakclccaaGreat
set_option maxRecDepth 20000
set_option maxHeartbeats 8000000
set_option linter.unusedSimpArgs false
set_option linter.unusedVariables false
open Go.RowKit Go.Sort
theorem NE (N:Nat):∃ (y x:Nat) (ok b:Bool),y=N%(9223372036854775808*B64^3)∧y≤N∧x=Bu iV (sqR y)∧okN iV (sqR y)=ok∧OF N=b∧M9 N=(if y<PN then (if ok=true then (if b=true∧x=0 then 22 else 0) else 22) else 2)∧Zi N=(if b=true then (0+PN-x)%PN else x)∧Qx N=(if M9 N=0 then (fz (Zi N),fz y) else Ci) :=
 ⟨L7 N,Bu iV (sqR (L7 N)),okN iV (sqR (L7 N)),OF N,rfl,Nat.mod_le _ _,rfl,rfl,rfl,by unfold M9;exact Eq.refl _,by unfold Zi;exact Eq.refl _,by unfold Qx;exact Eq.refl _⟩
theorem MA (s:ByteArray) (hs:s.size=32):∃ a:N4,Ok4 a (Qx (leN s.data.toList))∧∀ w,Calls Tryz.prog 10 #[.string s] w fun E w'=>E=.returned (.tuple #[pv4 a,.int .i64 (M9 (leN s.data.toList):Int)])∧Below w.heap.size w w':=by
 have hNB:=Uk s hs
 obtain⟨N,hN⟩:=exzb (leN s.data.toList)
 rw[hN] at hNB ⊢
 obtain⟨b0,b1⟩:=PQ N
 obtain⟨y,x,ok,b,ey,hyN,ex,hok,hb,hE,hX,hP⟩:=NE N
 have hmB:y<B64^4:=Nat.lt_of_le_of_lt hyN hNB
 have hxl:x<PN:=by rw[ex];exact BI _
 by_cases hm:y<PN
 ·rw[if_pos hm] at hE
  cases ok
  ·rw[if_neg (by decide)] at hE
   rw[hE,if_neg (by decide)] at hP
   rw[hE,hP]
   exact⟨Cu,Ft,fun w=>fL s hs N y _ x hN ey rfl hm ex hok w⟩
  ·rw[if_pos rfl] at hE
   have hon:On (fz x,fz y):=by rw[ex];exact Jx y hok
   have hat:Ok4 (x,y,1,x*y%PN) (fz x,fz y):=J3 x y _ hxl hm hon rfl rfl
   cases b
   ·rw[if_neg (by simp)] at hE
    rw[if_neg (by decide)] at hX
    rw[hE,if_pos rfl,hX] at hP
    rw[hE,hP]
    exact⟨_,hat,fun w=>Zb s hs N y x hN ey (b0 hb) hm ex hok w⟩
   ·by_cases h0:x=0
    ·rw[if_pos ⟨rfl,h0⟩] at hE
     rw[hE,if_neg (by decide)] at hP
     rw[hE,hP]
     exact⟨Cu,Ft,fun w=>bO s hs N y x hN ey (b1 hb) hm ex hok h0 w⟩
    ·rw[if_neg (fun h=>h0 h.2)] at hE
     rw[if_pos rfl] at hX
     rw[hE,if_pos rfl,hX,F6 x hxl] at hP
     have hn:Ok4 (G9 (x,y,1,x*y%PN)) (-fz x,fz y):=Le hat
     rw[hE,hP]
     exact⟨_,hn,fun w=>aE s hs N y x hN ey (b1 hb) hm ex hok h0 w⟩
 ·rw[if_neg hm] at hE
  rw[hE,if_neg (by decide)] at hP
  rw[hE,hP]
  exact⟨Cu,Ft,fun w=>Vy s hs N y _ hN ey hmB rfl hm w⟩
open Go.RowKit
theorem cz (n:Int) (k:Nat) (hk:k<63):bits .and .i64 n ((2^k-1:Nat):Int)=n%((2^k:Nat):Int):=by
 have h1:2^k-1<2^63:=by have:=Nat.pow_lt_pow_right (a:=2) (by decide) hk;have:=Nat.two_pow_pos k;omega
 show IntKind.i64.wrap ((BitVec.ofInt 64 n &&& BitVec.ofInt 64 ((2^k-1:Nat):Int)).toNat:Int)=_
 rw[BitVec.toNat_and,BitVec.ofInt_natCast,BitVec.toNat_ofNat,Nat.mod_eq_of_lt (a:=2^k-1) (by omega),Nat.and_two_pow_sub_one_eq_mod,BitVec.toNat_ofInt]
 have h2:(n%((2^64:Nat):Int)).toNat%2^k<2^k:=Nat.mod_lt _ (Nat.two_pow_pos k)
 have h3:2^k<2^63:=Nat.pow_lt_pow_right (by decide) hk
 have e:(((n%((2^64:Nat):Int)).toNat%2^k:Nat):Int)=n%((2^k:Nat):Int):=by
  rw[Int.natCast_emod,Int.toNat_of_nonneg (Int.emod_nonneg _ (by decide))]
  apply Int.emod_emod_of_dvd
  exact Int.natCast_dvd_natCast.2 (Nat.pow_dvd_pow 2 (by omega))
 rw[e] at *
 rw[IntKind.wrap_i64]
 have h4:0≤n%((2^k:Nat):Int):=Int.emod_nonneg _ (by have:=Nat.two_pow_pos k;omega)
 have h5:n%((2^k:Nat):Int)<((2^k:Nat):Int):=Int.emod_lt_of_pos _ (by have:=Nat.two_pow_pos k;omega)
 omega
theorem gX (n:Int):bits .and .i64 n 63=n%64:=cz n 6 (by decide)
theorem m64:bits .xor .u64 IntKind.u64.max 0=18446744073709551615:=by decide +kernel
theorem s64:IntKind.u64.signed=false:=rfl
set_option maxRecDepth 100000 in
theorem cH (w:World) :
    Calls Tryz.prog 196 #[.int .u64 18446744073709551615] w fun e w'=>e=.returned (.int .i64 64)∧w=w':=by
 go_enter Tryz.func196,Tryz.ntmps196
 go_wp2
 go_ret
 exact⟨BE (by decide +kernel),rfl⟩
def BY (b X r:Nat):Nat:=X/2^r ||| (X*2^(b-r))%2^b
theorem Up (b X r:Nat) (hX:X<2^b):BY b X r<2^b :=
 Nat.or_lt_two_pow (Nat.lt_of_le_of_lt (Nat.div_le_self _ _) hX) (Nat.mod_lt _ (Nat.two_pow_pos b))
theorem Zm (b X r i:Nat) (hr:r<b) (hX:X<2^b) (hi:i<b):(BY b X r).testBit i=X.testBit ((i+r)%b):=by
 unfold BY
 rw[Nat.testBit_or,Nat.testBit_div_two_pow,Nat.testBit_mod_two_pow,Nat.testBit_mul_two_pow]
 by_cases h:i+r<b
 ·rw[Nat.mod_eq_of_lt h]
  have h1:¬ (b-r≤i):=by omega
  simp[h1]
 ·have h1:b-r≤i:=by omega
  have h2:(i+r)%b=i-(b-r):=by
   rw[Nat.mod_eq_sub_mod (by omega),Nat.mod_eq_of_lt (by omega)];omega
  have h3:X.testBit (i+r)=false:=Nat.testBit_lt_two_pow (Nat.lt_of_lt_of_le hX (Nat.pow_le_pow_right (by decide) (by omega)))
  rw[h2,h3]
  simp[hi,h1]
def Ht (b x n:Int):Int:=(BY b.toNat x.toNat (n%b).toNat:Nat)
def Fg (x i:Int):Int:=((x.toNat.testBit i.toNat).toNat:Nat)
theorem bQ (x i:Int) (hx:0≤x):(x/2^i.toNat).tmod 2=Fg x i:=by
 obtain⟨X,rfl⟩:=Int.eq_ofNat_of_zero_le hx
 have e:((X:Int)/2^i.toNat)=((X/2^i.toNat:Nat):Int):=by
  rw[Int.natCast_ediv,Int.natCast_pow];rfl
 rw[e,Int.tmod_eq_emod_of_nonneg (Int.natCast_nonneg _)]
 unfold Fg
 rw[Int.toNat_natCast,Nat.testBit_eq_decide_div_mod_eq]
 have:X/2^i.toNat%2<2:=Nat.mod_lt _ (by decide)
 by_cases h:X/2^i.toNat%2=1
 ·simp[h];omega
 ·simp[h];omega
theorem Im (x i:Int):0≤Fg x i∧Fg x i≤1:=by
 unfold Fg
 cases x.toNat.testBit i.toNat <;> simp
theorem YF (x n:Int) (h0:0≤x) (h1:x<18446744073709551616) :
    bits .or .u64 (x/2^(n%64).toNat) (IntKind.u64.wrap (x*2^(64-n%64).toNat))=Ht 64 x n:=by
 obtain⟨X,rfl⟩:=Int.eq_ofNat_of_zero_le h0
 have hr:(n%64).toNat<64:=by omega
 have er:(64-n%64).toNat=64-(n%64).toNat:=by omega
 unfold Ht
 rw[er]
 generalize (n%64).toNat=r at *
 have e1:((X:Int)/2^r)=((X/2^r:Nat):Int):=by rw[Int.natCast_ediv,Int.natCast_pow];rfl
 have e2:IntKind.u64.wrap ((X:Int)*2^(64-r))=((X*2^(64-r)%2^64:Nat):Int):=by
  rw[IntKind.wrap_u64,Int.natCast_emod,Int.natCast_mul,Int.natCast_pow];rfl
 rw[e1,e2,u64_or_nat _ _ (Nat.lt_of_le_of_lt (Nat.div_le_self _ _) (by omega)) (Nat.mod_lt _ (Nat.two_pow_pos 64))]
 rfl
theorem dG (x n:Int) (w:World) (x0:0≤x) (x1:x<18446744073709551616) :
    Calls Tryz.prog 202 #[.int .u64 x,.int .i64 n] w fun e w'=>e=.returned (.int .u64 (Ht 64 x n))∧∃ nq,w.drewN nq=w':=by
 have hr:=Lh (YF x n x0 x1)
 have hs:=s64
 have ha:=gX n
 have l0:0≤n%64:=by omega
 have l1:n%64<64:=by omega
 have l2:IntKind.i64.wrap (64-n%64)=64-n%64:=IntWalk.i64_in _ (by omega)
 have l3:0≤64-n%64:=by omega
 go_enter Tryz.func202,Tryz.ntmps202
 go_wp2_with fail
 rw[m64]
 refine (cH _).mono ?_
 rintro e w' ⟨rfl,rfl⟩
 go_wp2_with fail
 go_quiet (fail)
 go_wp2_with fail
 go_ret
 exact⟨BE hr.out,_,rfl⟩
theorem DI (x i:Int) (w:World) (x0:0≤x) (_x1:x<18446744073709551616) (i0:0≤i) (i1:i<64) :
    Calls Tryz.prog 199 #[.int .u64 x,.int .i64 i] w fun e w'=>e=.returned (.int .u64 (Fg x i))∧w=w':=by
 have hr:=Lh (bQ x i x0)
 go_enter Tryz.func199,Tryz.ntmps199
 go_wp2
 go_ret
 exact⟨BE hr.out,rfl⟩
theorem YG (b x n:Int) (k:Nat) (hb:b=32∨b=64) (h0:0≤x) (h1:x<2^b.toNat) (hk:(k:Int)<b) :
    IntKind.u64.wrap (((BY b.toNat x.toNat (n%b).toNat%2^k:Nat):Int)+IntKind.u64.wrap (Fg x ((k+n%b)%b)*2^k))=((BY b.toNat x.toNat (n%b).toNat%2^(k+1):Nat):Int):=by
 obtain⟨X,rfl⟩:=Int.eq_ofNat_of_zero_le h0
 obtain⟨B,rfl⟩:=Int.eq_ofNat_of_zero_le (by omega:0≤b)
 have hX:X<2^B:=by have h2:(X:Int)<((2^B:Nat):Int):=by rw[Int.natCast_pow];simpa using h1
                   exact Int.ofNat_lt.1 h2
 have hr:(n%(B:Int)).toNat<B:=by have:=Int.emod_lt_of_pos n (by omega:(0:Int)<B);have:=Int.emod_nonneg n (by omega:(B:Int)≠0);omega
 have hn:n%(B:Int)=((n%(B:Int)).toNat:Int):=by have:=Int.emod_nonneg n (by omega:(B:Int)≠0);omega
 generalize (n%(B:Int)).toNat=r at *
 rw[hn]
 simp only[Int.toNat_natCast]
 have hbit:=Zm B X r k hr hX (by omega)
 have e1:Fg (X:Int) (((k:Int)+(r:Int))%(B:Int))=(((BY B X r).testBit k).toNat:Int):=by
  unfold Fg
  rw[hbit]
  congr 2
 have em:BY B X r%2^(k+1)=BY B X r%2^k+2^k*((BY B X r).testBit k).toNat:=by rw[Nat.pow_succ,Nat.mod_mul,Nat.toNat_testBit]
 rw[e1,em]
 have hp:2^(k+1)≤2^64:=Nat.pow_le_pow_right (by decide) (by omega)
 have hp1:2^(k+1)=2*2^k:=by rw[Nat.pow_succ];omega
 have hm:BY B X r%2^k<2^k:=Nat.mod_lt _ (Nat.two_pow_pos k)
 have hc:((2:Int)^k)=((2^k:Nat):Int):=by rw[Int.natCast_pow];rfl
 rw[hc]
 generalize 2^k=q at *
 generalize BY B X r%q=m at *
 have hw:∀ z:Int,0≤z→z<18446744073709551616→IntKind.u64.wrap z=z:=fun z a b=>by rw[IntKind.wrap_u64];omega
 clear em e1 hbit hc
 cases (BY B X r).testBit k
 ·simp only[Bool.toNat_false,Nat.mul_zero,Nat.add_zero]
  have e0:(((0:Nat):Int)*(q:Int))=0:=by simp
  rw[e0,hw 0 (by omega) (by omega),hw _ (by omega) (by omega)]
  omega
 ·simp only[Bool.toNat_true,Nat.mul_one]
  have e0:(((1:Nat):Int)*(q:Int))=q:=by simp
  rw[e0,hw q (by omega) (by omega),hw _ (by omega) (by omega)]
  omega
theorem Th (n b:Int) (hb:b=32∨b=64):(0≤n.tmod b∧n.tmod b=n%b)∨(n.tmod b<0∧n.tmod b+b=n%b):=by
 by_cases h:0≤n
 ·have e:n.tmod b=n%b:=Int.tmod_eq_emod_of_nonneg h
  rw[e]
  left
  exact⟨Int.emod_nonneg _ (by omega),rfl⟩
 ·obtain⟨m,rfl⟩:∃ m,n = -m:=⟨-n,by omega⟩
  have e:(-m).tmod b = -(m%b):=by rw[Int.neg_tmod,Int.tmod_eq_emod_of_nonneg (by omega)]
  rw[e]
  rcases hb with rfl | rfl <;> omega
def Rq (b x n:Int) (k:Nat):Int:=(BY b.toNat x.toNat (n%b).toNat%2^k:Nat)
theorem NT (b x n r:Int) (k:Nat) (hr:r=n%b) (hb:b=32∨b=64) (h0:0≤x) (h1:x<2^b.toNat) (hk:(k:Int)<b) :
    IntKind.u64.wrap (Rq b x n k+IntKind.u64.wrap (Fg x ((k+r)%b)*2^k))=Rq b x n (k+1):=by
 subst hr;exact YG b x n k hb h0 h1 hk
theorem Qu (b x n:Int) (k:Nat) (hk:(k:Int)=b) (h0:0≤x) (h1:x<2^b.toNat):Rq b x n k=Ht b x n:=by
 subst hk
 obtain⟨X,rfl⟩:=Int.eq_ofNat_of_zero_le h0
 have hX:X<2^k:=by have h2:(X:Int)<((2^k:Nat):Int):=by rw[Int.natCast_pow];simpa using h1
                   exact Int.ofNat_lt.1 h2
 unfold Rq Ht
 simp only[Int.toNat_natCast]
 rw[Nat.mod_eq_of_lt (Up k X _ hX)]
theorem eW (x n b:Int) (w:World) (hb:b=32∨b=64) (x0:0≤x) (x1:x<2^b.toNat) (xm:x<18446744073709551616) :
    Calls Tryz.prog 198 #[.int .u64 x,.int .i64 n,.int .i64 b] w fun e w'=>e=.returned (.int .u64 (Ht b x n))∧w=w':=by
 have b0:32≤b:=by omega
 have b1:b≤64:=by omega
 obtain⟨r,hr⟩:=exza (n%b)
 have r0:0≤r:=by rw[hr];exact Int.emod_nonneg _ (by omega)
 have r1:r<b:=by rw[hr];exact Int.emod_lt_of_pos _ (by omega)
 have hc:=Th n b hb
 rw[← hr] at hc
 have hbd : -64≤n.tmod b∧n.tmod b≤64:=by omega
 obtain⟨t0,t1⟩:=hbd
 have hb0:¬ b=0:=by omega
 have Hb:=Lh hb
 have Hr:=Lh hr
 have X1:=Lh x1
 clear hb hr x1
 rcases hc with ⟨_,hn⟩ | ⟨hlt,hn⟩
 ·clear t0 t1
  go_enter Tryz.func198,Tryz.ntmps198
  go_wp2_with fail
  go_loop [8,9] (fun y i=>∃ k:Nat,(k:Int)≤b∧i=.int .i64 k∧y=.int .u64 (Rq b x n k)) (fun _ i=>(b-intOf i).toNat)
  case atStart=>exact⟨0,by omega,rfl,by simp[Rq,Nat.mod_one]⟩
  case round =>
   obtain⟨k,hk,rfl,rfl⟩:=hrel
   by_cases hkb:(k:Int)<b
   ·have i0:0≤((k:Int)+r)%b:=Int.emod_nonneg _ (by omega)
    have i1:((k:Int)+r)%b<b:=Int.emod_lt_of_pos _ (by omega)
    have hst:=Lh (NT b x n r k Hr.out Hb.out x0 X1.out hkb)
    go_wp2_with (go_at_call 199;refine (DI _ _ _ x0 xm (by omega) (by omega)).mono ?_;rintro e w' ⟨rfl,rfl⟩)
    go_round
    case rel=>exact⟨k+1,by omega,by go_num,congrArg (Value.int .u64) hst.out⟩
    case measure=>simp[intOf];omega
   ·have Hk:=Lh (by omega:(k:Int)=b)
    go_wp2
    go_ret
    exact⟨BE (Qu b x n k Hk.out x0 X1.out),rfl⟩
 ·have hw:IntKind.i64.wrap (n.tmod b+b)=r:=by rw[hn];exact IntWalk.i64_in _ (by omega)
  clear hn
  go_enter Tryz.func198,Tryz.ntmps198
  go_wp2_with fail
  go_loop [8,9] (fun y i=>∃ k:Nat,(k:Int)≤b∧i=.int .i64 k∧y=.int .u64 (Rq b x n k)) (fun _ i=>(b-intOf i).toNat)
  case atStart=>exact⟨0,by omega,rfl,by simp[Rq,Nat.mod_one]⟩
  case round =>
   obtain⟨k,hk,rfl,rfl⟩:=hrel
   by_cases hkb:(k:Int)<b
   ·have i0:0≤((k:Int)+r)%b:=Int.emod_nonneg _ (by omega)
    have i1:((k:Int)+r)%b<b:=Int.emod_lt_of_pos _ (by omega)
    have hst:=Lh (NT b x n r k Hr.out Hb.out x0 X1.out hkb)
    go_wp2_with (go_at_call 199;refine (DI _ _ _ x0 xm (by omega) (by omega)).mono ?_;rintro e w' ⟨rfl,rfl⟩)
    go_round
    case rel=>exact⟨k+1,by omega,by go_num,congrArg (Value.int .u64) hst.out⟩
    case measure=>simp[intOf];omega
   ·have Hk:=Lh (by omega:(k:Int)=b)
    go_wp2
    go_ret
    exact⟨BE (Qu b x n k Hk.out x0 X1.out),rfl⟩
def Fo (x:Int) (l:List Int):Int:=l.foldl (fun a n=>bits .xor .u64 a (Ht 64 x n)) 0
theorem M8 (x:Int) (zs:List Int) (k:Nat) (hk:k<zs.length):Fo x (zs.take (k+1))=bits .xor .u64 (Fo x (zs.take k)) (Ht 64 x (zs.getD k 0)):=by
 unfold Fo
 rw[List.take_succ_eq_append_getElem hk,List.foldl_append,cC zs k hk];rfl
theorem Uh (x:Int) (b off len cap:Nat) (zs:List Int) (w:World) (x0:0≤x) (x1:x<18446744073709551616) (hl:len≤cap) (hm:cap≤maxLen) (hz:zs.length=cap)
    (hcell:∀ i,i<zs.length→w.cell? ⟨b,off+i,none⟩=some (.int .i64 (zs.getD i 0))) (h0:0<len) :
    Calls Tryz.prog 181 #[.int .u64 x,.slice (some ⟨b,off,none⟩) len cap] w fun e w'=>e=.returned (.int .u64 (Fo x (zs.take len)))∧∃ nq,w.drewN nq=w':=by
 unfold maxLen at hm
 have HZ:=Lh hz
 have HC:=Lh hcell
 have hc0:=hcell 0 (by omega)
 clear hz hcell
 go_enter Tryz.func181,Tryz.ntmps181
 go_wp2_with fail
 go_loopw [5,10] (fun out i wr=>∃ k:Nat,k≤len∧i=.int .i64 k∧out=.int .u64 (Fo x (zs.take k))∧∃ nq,w.drewN nq=wr) (fun _ i _=>len-(intOf i).toNat)
 case atStart=>exact⟨0,by omega,rfl,rfl,0,rfl⟩
 case round =>
  obtain⟨k,hk,rfl,rfl,nq,rfl⟩:=hrel
  by_cases hlt:k<len
  ·have hck:=HC.out k (by have:=HZ.out;omega)
   obtain⟨v,hv⟩:=exza (zs.getD k 0)
   have HS:=Lh (M8 x zs k (by have:=HZ.out;omega))
   rw[← hv] at hck
   have Hv:=Lh hv
   generalize Fo x (zs.take k)=t at *
   clear hv hc0
   go_wp2_with (go_at_call 202;refine (dG _ _ _ x0 x1).mono ?_;rintro e w' ⟨rfl,n2,rfl⟩)
   go_roundw
   case rel=>exact⟨k+1,by omega,by go_num,congrArg (Value.int .u64) (by rw[HS.out,← Hv.out]),nq+n2,by simp[World.drewN]⟩
   case measure=>simp[intOf];omega
  ·obtain rfl:k=len:=by omega
   go_wp2
   go_ret
   exact⟨rfl,_,rfl⟩
def My (x y z:Int):Int:=bits .or .u32 (bits .and .u32 x y) (bits .and .u32 (bits .xor .u32 IntKind.u32.max x) z)
def Sw (x y z:Int):Int:=bits .or .u32 (bits .or .u32 (bits .and .u32 x y) (bits .and .u32 x z)) (bits .and .u32 y z)
def DL (x y z:Int):Int:=bits .or .u64 (bits .and .u64 x y) (bits .and .u64 (bits .xor .u64 IntKind.u64.max x) z)
def FO (x y z:Int):Int:=bits .or .u64 (bits .or .u64 (bits .and .u64 x y) (bits .and .u64 x z)) (bits .and .u64 y z)
theorem Pa (x y z:Int) (w:World) :
    Calls Tryz.prog 182 #[.int .u64 x,.int .u64 y,.int .u64 z] w fun e w'=>e=.returned (.int .u64 (DL x y z))∧w=w':=by
 have hs:=s64
 go_enter Tryz.func182,Tryz.ntmps182
 go_wp2
 go_ret
 exact⟨rfl,rfl⟩
theorem TG (x y z:Int) (w:World) :
    Calls Tryz.prog 183 #[.int .u64 x,.int .u64 y,.int .u64 z] w fun e w'=>e=.returned (.int .u64 (FO x y z))∧w=w':=by
 go_enter Tryz.func183,Tryz.ntmps183
 go_wp2
 go_ret
 exact⟨rfl,rfl⟩
def OB (F:Int) (k:Nat):Int:=(F.toNat%2^k:Nat)
theorem Ng (F nb:Int) (k:Nat) (hk:k<64) (hn:nb=((F.toNat.testBit k).toNat:Nat)):IntKind.u64.wrap (OB F k+IntKind.u64.wrap (nb*2^k))=OB F (k+1):=by
 subst hn
 unfold OB
 generalize F.toNat=X
 have em:X%2^(k+1)=X%2^k+2^k*(X.testBit k).toNat:=by rw[Nat.pow_succ,Nat.mod_mul,Nat.toNat_testBit]
 rw[em]
 have hp:2^(k+1)≤2^64:=Nat.pow_le_pow_right (by decide) (by omega)
 have hp1:2^(k+1)=2*2^k:=by rw[Nat.pow_succ];omega
 have hm:X%2^k<2^k:=Nat.mod_lt _ (Nat.two_pow_pos k)
 have hc:((2:Int)^k)=((2^k:Nat):Int):=by rw[Int.natCast_pow];rfl
 rw[hc]
 generalize 2^k=q at *
 generalize X%q=m at *
 have hw:∀ z:Int,0≤z→z<18446744073709551616→IntKind.u64.wrap z=z:=fun z a b=>by rw[IntKind.wrap_u64];omega
 clear em hc
 cases X.testBit k
 ·simp only[Bool.toNat_false,Nat.mul_zero,Nat.add_zero]
  have e0:(((0:Nat):Int)*(q:Int))=0:=by simp
  rw[e0,hw 0 (by omega) (by omega),hw _ (by omega) (by omega)]
  omega
 ·simp only[Bool.toNat_true,Nat.mul_one]
  have e0:(((1:Nat):Int)*(q:Int))=q:=by simp
  rw[e0,hw q (by omega) (by omega),hw _ (by omega) (by omega)]
  omega
theorem Qy (F:Int) (h0:0≤F) (h1:F<18446744073709551616):OB F 64=F:=by unfold OB;omega
def Il (X Y Z:Nat):Nat:=(X &&& Y) ||| ((2^32-1) ^^^ X) &&& Z
def Lq (X Y Z:Nat):Nat:=(X &&& Y) ||| (X &&& Z) ||| (Y &&& Z)
theorem OV (X Y Z:Nat) (hx:X<4294967296) (hy:Y<4294967296) (hz:Z<4294967296):My X Y Z=(Il X Y Z:Nat):=by
 unfold My Il
 have e:IntKind.u32.max=((4294967295:Nat):Int):=rfl
 have h1:4294967295 ^^^ X<2^32:=Nat.xor_lt_two_pow (by decide) hx
 have h2:X &&& Y<2^32:=Nat.and_lt_two_pow _ hy
 have h3:(4294967295 ^^^ X) &&& Z<2^32:=Nat.and_lt_two_pow _ hz
 rw[e,u32_xor_nat _ _ (by decide) hx,u32_and_nat _ _ hx hy,u32_and_nat _ _ h1 hz,u32_or_nat _ _ h2 h3]
theorem Tc (X Y Z:Nat) (hx:X<4294967296) (hy:Y<4294967296) (hz:Z<4294967296):Sw X Y Z=(Lq X Y Z:Nat):=by
 unfold Sw Lq
 have h2:X &&& Y<2^32:=Nat.and_lt_two_pow _ hy
 have h3:X &&& Z<2^32:=Nat.and_lt_two_pow _ hz
 have h4:Y &&& Z<2^32:=Nat.and_lt_two_pow _ hz
 have h5:X &&& Y ||| X &&& Z<2^32:=Nat.or_lt_two_pow h2 h3
 rw[u32_and_nat _ _ hx hy,u32_and_nat _ _ hx hz,u32_and_nat _ _ hy hz,u32_or_nat _ _ h2 h3,u32_or_nat _ _ h5 h4]
def BP (X Y Z:Nat):Nat:=(X &&& Y) ||| ((2^64-1) ^^^ X) &&& Z
def CN (X Y Z:Nat):Nat:=(X &&& Y) ||| (X &&& Z) ||| (Y &&& Z)
theorem DT (X Y Z:Nat) (hx:X<18446744073709551616) (hy:Y<18446744073709551616) (hz:Z<18446744073709551616):DL X Y Z=(BP X Y Z:Nat):=by
 unfold DL BP
 have e:IntKind.u64.max=((18446744073709551615:Nat):Int):=rfl
 have h1:18446744073709551615 ^^^ X<2^64:=Nat.xor_lt_two_pow (by decide) hx
 have h2:X &&& Y<2^64:=Nat.and_lt_two_pow _ hy
 have h3:(18446744073709551615 ^^^ X) &&& Z<2^64:=Nat.and_lt_two_pow _ hz
 rw[e,u64_xor_nat _ _ (by decide) hx,u64_and_nat _ _ hx hy,u64_and_nat _ _ h1 hz,u64_or_nat _ _ h2 h3]
theorem EX (X Y Z:Nat) (hx:X<18446744073709551616) (hy:Y<18446744073709551616) (hz:Z<18446744073709551616):FO X Y Z=(CN X Y Z:Nat):=by
 unfold FO CN
 have h2:X &&& Y<2^64:=Nat.and_lt_two_pow _ hy
 have h3:X &&& Z<2^64:=Nat.and_lt_two_pow _ hz
 have h4:Y &&& Z<2^64:=Nat.and_lt_two_pow _ hz
 have h5:X &&& Y ||| X &&& Z<2^64:=Nat.or_lt_two_pow h2 h3
 rw[u64_and_nat _ _ hx hy,u64_and_nat _ _ hx hz,u64_and_nat _ _ hy hz,u64_or_nat _ _ h2 h3,u64_or_nat _ _ h5 h4]
theorem Jv (X Y Z:Nat) (hy:Y<18446744073709551616) (hz:Z<18446744073709551616):BP X Y Z<18446744073709551616:=by
 have h2:X &&& Y<2^64:=Nat.and_lt_two_pow _ hy
 have h3:((2^64-1) ^^^ X) &&& Z<2^64:=Nat.and_lt_two_pow _ hz
 exact Nat.or_lt_two_pow h2 h3
theorem LO (X Y Z:Nat) (hy:Y<18446744073709551616) (hz:Z<18446744073709551616):CN X Y Z<18446744073709551616:=by
 have h2:X &&& Y<2^64:=Nat.and_lt_two_pow _ hy
 have h3:X &&& Z<2^64:=Nat.and_lt_two_pow _ hz
 have h4:Y &&& Z<2^64:=Nat.and_lt_two_pow _ hz
 exact Nat.or_lt_two_pow (Nat.or_lt_two_pow h2 h3) h4
theorem Pr (X Y Z:Nat):Il (X%4294967296) (Y%4294967296) (Z%4294967296)=BP X Y Z%4294967296:=by
 apply Nat.eq_of_testBit_eq
 intro i
 unfold Il BP
 have e:(4294967296:Nat)=2^32:=rfl
 rw[e]
 simp only[Nat.testBit_mod_two_pow,Nat.testBit_or,Nat.testBit_and,Nat.testBit_xor,Nat.testBit_two_pow_sub_one]
 by_cases h:i<32
 ·have h':i<64:=by omega
  simp[h,h']
 ·simp[h]
theorem SM (X Y Z:Nat):Lq (X%4294967296) (Y%4294967296) (Z%4294967296)=CN X Y Z%4294967296:=by
 apply Nat.eq_of_testBit_eq
 intro i
 unfold Lq CN
 have e:(4294967296:Nat)=2^32:=rfl
 rw[e]
 simp only[Nat.testBit_mod_two_pow,Nat.testBit_or,Nat.testBit_and]
 by_cases h:i<32
 ·simp[h]
 ·simp[h]
theorem Q6 (X Y Z i:Nat) (hi:i<64):(BP X Y Z).testBit i=if X.testBit i then Y.testBit i else Z.testBit i:=by
 unfold BP
 simp only[Nat.testBit_or,Nat.testBit_and,Nat.testBit_xor,Nat.testBit_two_pow_sub_one,hi]
 cases X.testBit i <;> simp
theorem Vg (X Y Z i:Nat):(CN X Y Z).testBit i=(X.testBit i && Y.testBit i || X.testBit i && Z.testBit i || Y.testBit i && Z.testBit i):=by
 unfold CN
 simp only[Nat.testBit_or,Nat.testBit_and]
structure Joined (x y z:Int):Prop where
 c0:0≤DL x y z
 c1:DL x y z<18446744073709551616
 m0:0≤FO x y z
 m1:FO x y z<18446744073709551616
 cs:My (x%4294967296) (y%4294967296) (z%4294967296)=DL x y z%4294967296
 ms:Sw (x%4294967296) (y%4294967296) (z%4294967296)=FO x y z%4294967296
 cb:∀ k:Nat,k<64→((((DL x y z).toNat.testBit k).toNat:Nat):Int)=if (Fg x k == 1)=true then Fg y k else Fg z k
 mb:∀ k:Nat,k<64→((((FO x y z).toNat.testBit k).toNat:Nat):Int)=(Fg x k+Fg y k+Fg z k)/2
theorem YD (x y z:Int) (x0:0≤x) (x1:x<18446744073709551616) (y0:0≤y) (y1:y<18446744073709551616) (z0:0≤z) (z1:z<18446744073709551616):Joined x y z:=by
 obtain⟨X,rfl⟩:=Int.eq_ofNat_of_zero_le x0
 obtain⟨Y,rfl⟩:=Int.eq_ofNat_of_zero_le y0
 obtain⟨Z,rfl⟩:=Int.eq_ofNat_of_zero_le z0
 have hX:X<18446744073709551616:=by omega
 have hY:Y<18446744073709551616:=by omega
 have hZ:Z<18446744073709551616:=by omega
 have eX:((X:Int)%4294967296)=((X%4294967296:Nat):Int):=by omega
 have eY:((Y:Int)%4294967296)=((Y%4294967296:Nat):Int):=by omega
 have eZ:((Z:Int)%4294967296)=((Z%4294967296:Nat):Int):=by omega
 have lc:=Jv X Y Z hY hZ
 have lm:=LO X Y Z hY hZ
 refine⟨?_,?_,?_,?_,?_,?_,?_,?_⟩
 ·rw[DT _ _ _ hX hY hZ];omega
 ·rw[DT _ _ _ hX hY hZ];omega
 ·rw[EX _ _ _ hX hY hZ];omega
 ·rw[EX _ _ _ hX hY hZ];omega
 ·rw[DT _ _ _ hX hY hZ,eX,eY,eZ,OV _ _ _ (Nat.mod_lt _ (by decide)) (Nat.mod_lt _ (by decide)) (Nat.mod_lt _ (by decide)),Pr];omega
 ·rw[EX _ _ _ hX hY hZ,eX,eY,eZ,Tc _ _ _ (Nat.mod_lt _ (by decide)) (Nat.mod_lt _ (by decide)) (Nat.mod_lt _ (by decide)),SM];omega
 ·intro k hk
  rw[DT _ _ _ hX hY hZ,Int.toNat_natCast,Q6 _ _ _ _ hk]
  unfold Fg
  simp only[Int.toNat_natCast]
  cases X.testBit k <;> simp
 ·intro k hk
  rw[EX _ _ _ hX hY hZ,Int.toNat_natCast,Vg]
  unfold Fg
  simp only[Int.toNat_natCast]
  cases X.testBit k <;> cases Y.testBit k <;> cases Z.testBit k <;> rfl
theorem fv (x y z:Int) (w:World) (x0:0≤x) (x1:x<18446744073709551616) (y0:0≤y) (y1:y<18446744073709551616) (z0:0≤z) (z1:z<18446744073709551616) :
    Calls Tryz.prog 168 #[.int .u64 x,.int .u64 y,.int .u64 z,.int .i64 0] w fun e w'=>e=.returned (.int .u64 (DL x y z))∧w=w':=by
 have J:=Lh (YD x y z x0 x1 y0 y1 z0 z1)
 go_enter Tryz.func168,Tryz.ntmps168
 go_wp2_with fail
 go_loop [9,10] (fun y1 i=>∃ k:Nat,k≤64∧i=.int .i64 k∧y1=.int .u64 (OB (DL x y z) k)) (fun _ i=>(64-intOf i).toNat)
 case atStart=>exact⟨0,by omega,rfl,by simp[OB,Nat.mod_one]⟩
 case round =>
  obtain⟨k,hk,rfl,rfl⟩:=hrel
  by_cases hlt:k<64
  ·obtain⟨x2,x3⟩:=Im x k
   obtain⟨y2,y3⟩:=Im y k
   obtain⟨z2,z3⟩:=Im z k
   have S:=Ng (DL x y z) (if (Fg x k == 1)=true then Fg y k else Fg z k) k hlt (J.out.cb k hlt).symm
   by_cases hb:(Fg x k == 1)=true
   ·rw[if_pos hb] at S
    have HS:=Lh S
    clear S
    go_wp2_with (first
     | (go_at_call_of 199 (x);refine (DI _ _ _ x0 x1 (by omega) (by omega)).mono ?_;rintro e w' ⟨rfl,rfl⟩)
     | (go_at_call_of 199 (y);refine (DI _ _ _ y0 y1 (by omega) (by omega)).mono ?_;rintro e w' ⟨rfl,rfl⟩)
     | (go_at_call_of 199 (z);refine (DI _ _ _ z0 z1 (by omega) (by omega)).mono ?_;rintro e w' ⟨rfl,rfl⟩))
    go_round
    case rel=>exact⟨k+1,by omega,by go_num,congrArg (Value.int .u64) HS.out⟩
    case measure=>simp[intOf];omega
   ·rw[if_neg hb] at S
    have HS:=Lh S
    have hb':(Fg x k == 1)=false:=Bool.eq_false_iff.2 hb
    clear S hb
    go_wp2_with (first
     | (go_at_call_of 199 (x);refine (DI _ _ _ x0 x1 (by omega) (by omega)).mono ?_;rintro e w' ⟨rfl,rfl⟩)
     | (go_at_call_of 199 (y);refine (DI _ _ _ y0 y1 (by omega) (by omega)).mono ?_;rintro e w' ⟨rfl,rfl⟩)
     | (go_at_call_of 199 (z);refine (DI _ _ _ z0 z1 (by omega) (by omega)).mono ?_;rintro e w' ⟨rfl,rfl⟩))
    go_round
    case rel=>exact⟨k+1,by omega,by go_num,congrArg (Value.int .u64) HS.out⟩
    case measure=>simp[intOf];omega
  ·obtain rfl:k=64:=by omega
   have e:=Qy (DL x y z) J.out.c0 J.out.c1
   have E:=Lh e
   clear e
   go_wp2
   go_ret
   exact⟨BE E.out,rfl⟩
theorem gg (x y z:Int) (w:World) (x0:0≤x) (x1:x<18446744073709551616) (y0:0≤y) (y1:y<18446744073709551616) (z0:0≤z) (z1:z<18446744073709551616) :
    Calls Tryz.prog 168 #[.int .u64 x,.int .u64 y,.int .u64 z,.int .i64 1] w fun e w'=>e=.returned (.int .u64 (FO x y z))∧w=w':=by
 have J:=Lh (YD x y z x0 x1 y0 y1 z0 z1)
 go_enter Tryz.func168,Tryz.ntmps168
 go_wp2_with fail
 go_loop [9,10] (fun y1 i=>∃ k:Nat,k≤64∧i=.int .i64 k∧y1=.int .u64 (OB (FO x y z) k)) (fun _ i=>(64-intOf i).toNat)
 case atStart=>exact⟨0,by omega,rfl,by simp[OB,Nat.mod_one]⟩
 case round =>
  obtain⟨k,hk,rfl,rfl⟩:=hrel
  by_cases hlt:k<64
  ·obtain⟨x2,x3⟩:=Im x k
   obtain⟨y2,y3⟩:=Im y k
   obtain⟨z2,z3⟩:=Im z k
   have HS:=Lh (Ng (FO x y z) ((Fg x k+Fg y k+Fg z k)/2) k hlt (J.out.mb k hlt).symm)
   go_wp2_with (first
    | (go_at_call_of 199 (x);refine (DI _ _ _ x0 x1 (by omega) (by omega)).mono ?_;rintro e w' ⟨rfl,rfl⟩)
    | (go_at_call_of 199 (y);refine (DI _ _ _ y0 y1 (by omega) (by omega)).mono ?_;rintro e w' ⟨rfl,rfl⟩)
    | (go_at_call_of 199 (z);refine (DI _ _ _ z0 z1 (by omega) (by omega)).mono ?_;rintro e w' ⟨rfl,rfl⟩))
   go_round
   case rel=>exact⟨k+1,by omega,by go_num,congrArg (Value.int .u64) HS.out⟩
   case measure=>simp[intOf];omega
  ·obtain rfl:k=64:=by omega
   have e:=Qy (FO x y z) J.out.m0 J.out.m1
   have E:=Lh e
   clear e
   go_wp2
   go_ret
   exact⟨BE E.out,rfl⟩
theorem Sc (s:ByteArray) (k:Nat) (h:k<s.size):s.data.toList.take (k+1)=s.data.toList.take k++[s[k]]:=by
 rw[List.take_succ_eq_append_getElem (by simpa using h)];rfl
def beN (l:List UInt8):Nat:=l.foldl (fun n b=>n*256+b.toNat) 0
theorem LR (l:List UInt8) (b:UInt8):beN (l++[b])=beN l*256+b.toNat:=by simp[beN]
theorem St:∀ (k:Nat) (l:List UInt8),beN (l.take k)<256^k
 | 0,l=>by simp[beN]
 | k+1,l=>by
   have ih:=St k l
   by_cases h:k<l.length
   ·rw[List.take_succ_eq_append_getElem h,LR,Nat.pow_succ]
    have:=(l[k]).toNat_lt
    omega
   ·rw[List.take_of_length_le (by omega)]
    rw[List.take_of_length_le (by omega)] at ih
    rw[Nat.pow_succ]
    omega
theorem Gp (s:ByteArray) (w:World) (hs:s.size≤8) :
    Calls Tryz.prog 62 #[.string s] w fun e w'=>e=.returned (.int .u64 (beN s.data.toList:Int))∧w=w':=by
 have hsl:=Lib.size_eq s
 go_enter Tryz.func62,Tryz.ntmps62
 go_wp2_with fail
 go_loop [3,4] (fun v i=>∃ k:Nat,k≤s.size∧v=.int .u64 (beN (s.data.toList.take k):Int)∧i=.int .i64 (k:Int)) (fun _ i=>s.size-(Go.RowKit.intOf i).toNat)
 case atStart=>exact⟨0,by omega,rfl,rfl⟩
 case round =>
  obtain⟨k,hk,rfl,rfl⟩:=hrel
  by_cases hlt:k<s.size
  ·have p1:(k:Int)<(s.size:Int):=by omega
   have h1:=St k s.data.toList
   have h2:beN (s.data.toList.take k)<256^7:=Nat.lt_of_lt_of_le h1 (Nat.pow_le_pow_right (by decide) (by omega))
   have h3:beN (s.data.toList.take (k+1))=beN (s.data.toList.take k)*256+(s[k]'hlt).toNat:=by
    rw[Sc s k hlt,LR]
   have h4:=(s[k]'hlt).toNat_lt
   obtain⟨A,hA⟩:=exzb (beN (s.data.toList.take k))
   obtain⟨c,hc⟩:=exzb ((s[k]'hlt).toNat)
   rw[hA,hc] at h3
   rw[hA] at h2 ⊢
   have hc':((s[k]'hlt).toNat:Int)=(c:Int):=by rw[hc]
   rw[hc] at h4
   have H3:=Lh h3
   have o1:IntKind.u64.wrap ((A:Int)*256)=(A:Int)*256:=IntWalk.u64_in _ (by omega)
   have o2:IntKind.u64.wrap ((A:Int)*256+(c:Int))=(A:Int)*256+(c:Int):=IntWalk.u64_in _ (by omega)
   have o0:IntKind.u64.wrap (c:Int)=(c:Int):=IntWalk.u64_in _ (by omega)
   clear hA hc h3 h1 h2 h4 hsl
   go_wp2_with fail
   go_round
   case rel=>exact⟨k+1,by omega,by rw[H3.out];exact congrArg (Value.int .u64) (by omega),congrArg (Value.int .i64) (by omega)⟩
   case measure =>
    simp[Go.RowKit.intOf]
    omega
  ·obtain rfl:k=s.size:=by omega
   have p1:¬ (s.size:Int)<(s.size:Int):=by omega
   have hall:s.data.toList.take s.size=s.data.toList:=List.take_of_length_le (by omega)
   rw[hall]
   clear hall hsl
   go_wp2_with fail
   go_ret
   exact⟨rfl,rfl⟩
def M64:Nat:=18446744073709551616
def sg0 (x:Nat):Nat:=BY 64 x 1 ^^^ BY 64 x 8 ^^^ x/128
def sg1 (x:Nat):Nat:=BY 64 x 19 ^^^ BY 64 x 61 ^^^ x/64
def O6 (a:Nat):Nat:=BY 64 a 28 ^^^ BY 64 a 34 ^^^ BY 64 a 39
def Mk (e:Nat):Nat:=BY 64 e 14 ^^^ BY 64 e 18 ^^^ BY 64 e 41
def LZ (l:List Nat):Nat:=(sg1 (l.getD (l.length-2) 0)+l.getD (l.length-7) 0+sg0 (l.getD (l.length-15) 0)+l.getD (l.length-16) 0)%M64
def wsN (m:List Nat):Nat→List Nat
 | 0=>m
 | k+1=>wsN m k++[LZ (wsN m k)]
theorem Ja (m:List Nat):∀ k,(wsN m k).length=m.length+k
 | 0=>rfl
 | k+1=>by unfold wsN;rw[List.length_append,Ja m k];rfl
theorem Mc (m:List Nat) (hm:∀ x ∈ m,x<M64):∀ k,∀ x ∈ wsN m k,x<M64
 | 0=>hm
 | k+1=>fun x hx=>by
   rcases List.mem_append.1 hx with h | h
   ·exact Mc m hm k x h
   ·rw[List.mem_singleton.1 h]
    exact Nat.mod_lt _ (by decide)
theorem BT (x r:Nat) (hx:x<M64):BY 64 x r<M64:=Up 64 x r hx
theorem D9 {x y:Nat} (hx:x<M64) (hy:y<M64):x ^^^ y<M64:=Nat.xor_lt_two_pow (n:=64) hx hy
theorem Dh (x y:Nat) (hx:x<M64) (hy:y<M64):bits .xor .u64 (x:Int) (y:Int)=((x ^^^ y:Nat):Int):=by
 unfold M64 at hx hy
 rw[u64_xor _ _ (by omega) (by omega) (by omega) (by omega),Int.toNat_natCast,Int.toNat_natCast]
theorem Ef (x r:Nat) (hr:r<64) (w:World) (hx:x<M64) :
    Calls Tryz.prog 166 #[.int .u64 (x:Int),.int .i64 (r:Int)] w fun e w'=>e=.returned (.int .u64 (BY 64 x r:Int))∧w=w':=by
 have K:=Lh (fun w=>eW (x:Int) (r:Int) 64 w (.inr rfl) (by omega) (by unfold M64 at hx;show (x:Int)<18446744073709551616;omega) (by unfold M64 at hx;omega))
 have e:Ht 64 (x:Int) (r:Int)=(BY 64 x r:Int):=by
  unfold Ht
  rw[Int.toNat_natCast,show ((r:Int)%64).toNat=r by omega]
  rfl
 rw[e] at K
 clear e
 go_enter Tryz.func166,Tryz.ntmps166
 go_wp2_with fail
 refine (K.out _).mono ?_
 rintro e w1 ⟨rfl,rfl⟩
 go_wp2_with fail
 go_ret
 exact⟨rfl,rfl⟩
theorem Ie (z:Int) (w:World) :
    Calls Tryz.prog 167 #[.int .u64 z] w fun e w'=>e=.returned (.int .u64 z)∧w=w':=by
 go_enter Tryz.func167,Tryz.ntmps167
 go_wp2_with fail
 go_ret
 exact⟨rfl,rfl⟩
theorem Fj (n:Nat):IntKind.u64.wrap (n:Int)=((n%M64:Nat):Int):=by
 rw[IntKind.wrap_u64]
 unfold M64
 omega
theorem Dz (a b:Nat):IntKind.u64.wrap ((a:Int)+(b:Int))=(((a+b)%M64:Nat):Int):=by rw[← Fj,Int.natCast_add]
theorem Tryz.sinfo_u64:(Tryz.prog.info? 22).map (fun i=>(i.zero,i.size,i.bytes))=some (some (.int .u64 0),1,8):=by kernel_rfl
def Fk (l:List Nat):List Value:=l.map fun x:Nat=>Value.int .u64 (x:Int)
theorem GG (l:List Nat) (x:Nat):Fk (l++[x])=Fk l++[.int .u64 (x:Int)]:=by simp[Fk]
theorem Rh (l:List Nat):(Fk l).length=l.length:=List.length_map _
theorem Nt {w:World} {base n:Nat} {v:Value} {l:List Nat} (h:w.ownsRow base 22 1 v n (Fk l)) (h0:0<n) :
    ∃ g cap,v=.slice (some ⟨g,0,none⟩) n cap∧base≤g∧n≤cap∧g<w.heap.size∧∀ i,i<n→w.cell? ⟨g,i,none⟩=some (.int .u64 (l.getD i 0:Int)):=by
 obtain⟨hl,⟨_,h1⟩ | ⟨g,cap,cur,rfl,h1,h2,h3,h4,h5,h6⟩⟩:=h
 ·omega
 ·refine⟨g,cap,rfl,h1,h3,?_,fun i hi=>?_⟩
  ·apply Nat.lt_of_not_le
   intro hle
   rw[Array.getElem?_eq_none hle] at h2
   simp at h2
  ·have hx:(cur.toList.take (n*1))[i]?=(Fk l)[i]?:=congrArg (fun l:List Value=>l[i]?) h6
   have hil:i<l.length:=by rw[Rh] at hl;omega
   rw[List.getElem?_take,if_pos (by omega)] at hx
   have hc:w.cell? ⟨g,i,none⟩=cur.toList[i]?:=by simp[World.cell?,h2]
   rw[hc,hx]
   simp[Fk,hil]
def GS (s:ByteArray) (t:Nat):Nat:=beN (s.extract (8*t) (8*t+8)).data.toList
def Bd (s:ByteArray) (k:Nat):List Nat:=(List.range k).map (GS s)
theorem PG (s:ByteArray) (k:Nat):Bd s (k+1)=Bd s k++[GS s k]:=by unfold Bd;rw[List.range_succ,List.map_append];rfl
theorem GN (s:ByteArray) (k:Nat):(Bd s k).length=k:=by simp[Bd]
theorem GF (s:ByteArray) (t:Nat) (h:8*t+8≤s.size):GS s t<M64:=by
 unfold GS
 have h1:=St 8 (s.extract (8*t) (8*t+8)).data.toList
 rw[List.take_of_length_le (by rw[← Lib.size_eq,ByteArray.size_extract];omega)] at h1
 exact h1
set_option linter.unusedSimpArgs false in
theorem WV (s:ByteArray) (w:World) (hs:s.size=128) :
    Calls Tryz.prog 165 #[.string s] w fun e w'=>∃ v,e=.returned v∧w'.ownsRow w.heap.size 22 1 v 80 (Fk (wsN (Bd s 16) 64))∧Below w.heap.size w w':=by
 obtain⟨i0,hi,hz0,hz1,hz2⟩:=info_parts Tryz.sinfo_u64
 have p64:(s.size:Int)=128:=by omega
 go_enter Tryz.func165,Tryz.ntmps165
 go_wp2_with fail
 go_loopw [3,4] (fun v i wr=>∃ k:Nat,k≤16∧i=.int .i64 (k:Int)∧wr.ownsRow w.heap.size 22 1 v k (Fk (Bd s k))∧Below w.heap.size w wr) (fun _ i _=>16-(Go.RowKit.intOf i).toNat)
 case atStart=>exact⟨0,by omega,rfl,World.ownsRow_nil _ _ _ _,Below.refl _ _⟩
 case round =>
  obtain⟨k,hk,rfl,hown,hbe⟩:=hrel
  by_cases hlt:k<16
  ·have p1:(k:Int)<16:=by omega
   have n0:(8*(k:Int)).toNat=8*k:=by omega
   have n1:(8*(k:Int)+8).toNat=8*k+8:=by omega
   have sz:=hbe.size
   have KG:=Lh (fun w=>Gp (s.extract (8*k) (8*k+8)) w (by rw[ByteArray.size_extract];omega))
   have hbl:=GF s k (by omega)
   rw[show beN (s.extract (8*k) (8*k+8)).data.toList=GS s k from rfl] at KG
   have HS:=Lh (PG s k)
   obtain⟨c,hc⟩:=exzb (GS s k)
   rw[hc] at KG HS
   clear hc hbl
   go_wp2_with fail
   refine (KG.out _).mono ?_
   rintro e w1 ⟨rfl,rfl⟩
   go_wp2_with (at_builtin;refine wpList_append_own _ (by rfl) (.tmp 14) (.tmp 23) 95 (by rfl) w.heap.size 22 i0 (.int .u64 0) 1 8 Tryz.underlying95 hi hz0 hz1 hz2 rfl (by decide) _ k _ (by simp[Act.eval];rfl) (by exact hown.alloc _) ⟨wr.heap.size,0,none⟩ 1 1 [.int .u64 (c:Int)] (by simp[Act.eval]) rfl (by exact BK wr #[_] _) (by simp[Value.oneCell']) (by unfold maxLen;omega) (by omega) (by simp;omega) ?_;intro v3 w3 hown3 hgrow3 _)
   go_roundw
   case rel =>
    refine⟨k+1,by omega,congrArg (Value.int .i64) (by omega),?_,(Al hbe _).grown hgrow3 (by simp;omega) (fun j hj=>(hown.lt j hj).1)⟩
    rw[HS.out,GG]
    exact hown3
   case measure =>
    simp[Go.RowKit.intOf]
    omega
  ·obtain rfl:k=16:=by omega
   have p1:¬ (16:Int)<16:=by omega
   change Code.wp _ _ _ _ _
   go_wp2_with fail
   go_loopw [3,5] (fun v i wq=>∃ k t:Nat,t=16+k∧k≤64∧i=.int .i64 (t:Int)∧wq.ownsRow w.heap.size 22 1 v t (Fk (wsN (Bd s 16) k))∧Below w.heap.size w wq) (fun _ i _=>80-(Go.RowKit.intOf i).toNat)
   case atStart=>exact⟨0,16,rfl,by omega,rfl,hown,hbe⟩
   case round =>
    obtain⟨k,t,ht,hk,rfl,hown,hbe⟩:=hrel
    by_cases hlt:k<64
    ·have p2:(t:Int)<80:=by omega
     obtain⟨g,cap,rfl,hg,hcap,hgl,hc⟩:=Nt hown (by omega)
     have hl:=Ja (Bd s 16) k
     rw[GN] at hl
     have hM:∀ x ∈ Bd s 16,x<M64:=fun x hx=>by
      unfold Bd at hx
      obtain⟨t,ht,rfl⟩:=List.mem_map.1 hx
      have:=List.mem_range.1 ht
      exact GF s t (by omega)
     have hall:=Mc (Bd s 16) hM k
     have hget:∀ j,j<16+k→(wsN (Bd s 16) k).getD j 0<M64:=fun j hj=>by
      have hj2:j<(wsN (Bd s 16) k).length:=by omega
      rw[List.getD_eq_getElem?_getD,List.getElem?_eq_getElem hj2]
      exact hall _ (List.getElem_mem hj2)
     have hnext:wsN (Bd s 16) (k+1)=wsN (Bd s 16) k++[(sg1 ((wsN (Bd s 16) k).getD (14+k) 0)+(wsN (Bd s 16) k).getD (9+k) 0+sg0 ((wsN (Bd s 16) k).getD (1+k) 0)+(wsN (Bd s 16) k).getD k 0)%M64]:=by
      show wsN (Bd s 16) k++[LZ (wsN (Bd s 16) k)]=_
      unfold LZ
      rw[hl,show 16+k-2=14+k by omega,show 16+k-7=9+k by omega,show 16+k-15=1+k by omega,show 16+k-16=k by omega]
     have c1:=hc (1+k) (by omega)
     have c2:=hc (14+k) (by omega)
     have c3:=hc (9+k) (by omega)
     have c4:=hc k (by omega)
     have b1:=hget (1+k) (by omega)
     have b2:=hget (14+k) (by omega)
     have b3:=hget (9+k) (by omega)
     have b4:=hget k (by omega)
     obtain⟨L,hL⟩:=exzb (wsN (Bd s 16) k)
     rw[hL] at c1 c2 c3 c4 b1 b2 b3 b4 hnext hown
     obtain⟨x,hx⟩:=exzb (L.getD (1+k) 0)
     obtain⟨y,hy⟩:=exzb (L.getD (14+k) 0)
     obtain⟨u,hu⟩:=exzb (L.getD (9+k) 0)
     obtain⟨z,hz⟩:=exzb (L.getD k 0)
     rw[hx] at c1 b1 hnext
     rw[hy] at c2 b2 hnext
     rw[hu] at c3 b3 hnext
     rw[hz] at c4 b4 hnext
     have K1:Hid (∀ w,Calls Tryz.prog 166 #[.int .u64 (x:Int),.int .i64 1] w fun e w'=>e=.returned (.int .u64 (BY 64 x 1:Int))∧w=w'):=fun w=>Ef x 1 (by decide) w b1
     have K2:Hid (∀ w,Calls Tryz.prog 166 #[.int .u64 (x:Int),.int .i64 8] w fun e w'=>e=.returned (.int .u64 (BY 64 x 8:Int))∧w=w'):=fun w=>Ef x 8 (by decide) w b1
     have K3:Hid (∀ w,Calls Tryz.prog 166 #[.int .u64 (y:Int),.int .i64 19] w fun e w'=>e=.returned (.int .u64 (BY 64 y 19:Int))∧w=w'):=fun w=>Ef y 19 (by decide) w b2
     have K4:Hid (∀ w,Calls Tryz.prog 166 #[.int .u64 (y:Int),.int .i64 61] w fun e w'=>e=.returned (.int .u64 (BY 64 y 61:Int))∧w=w'):=fun w=>Ef y 61 (by decide) w b2
     have a1:=BT x 1 b1
     have a2:=BT x 8 b1
     have a3:=BT y 19 b2
     have a4:=BT y 61 b2
     have d1:x/128<M64:=Nat.lt_of_le_of_lt (Nat.div_le_self _ _) b1
     have d2:y/64<M64:=Nat.lt_of_le_of_lt (Nat.div_le_self _ _) b2
     have e1:=Dh _ _ a1 a2
     have e2:=Dh _ _ (D9 a1 a2) d1
     have e3:=Dh _ _ a3 a4
     have e4:=Dh _ _ (D9 a3 a4) d2
     have s0:=D9 (D9 a1 a2) d1
     have s1:=D9 (D9 a3 a4) d2
     have q1:IntKind.u64.wrap ((x:Int)/128)=((x/128:Nat):Int):=by rw[IntWalk.u64_in _ (by unfold M64 at b1;omega)];omega
     have q2:IntKind.u64.wrap ((y:Int)/64)=((y/64:Nat):Int):=by rw[IntWalk.u64_in _ (by unfold M64 at b2;omega)];omega
     have n1:((t:Int)-15).toNat=1+k:=by omega
     have n2:((t:Int)-2).toNat=14+k:=by omega
     have n3:((t:Int)-7).toNat=9+k:=by omega
     have n4:((t:Int)-16).toNat=k:=by omega
     obtain⟨j15,hj15⟩:=exzb (1+k)
     obtain⟨j2,hj2⟩:=exzb (14+k)
     obtain⟨j7,hj7⟩:=exzb (9+k)
     rw[hj15] at c1 n1
     rw[hj2] at c2 n2
     rw[hj7] at c3 n3
     obtain⟨B,hB⟩:=exzb (BY 64 x 1 ^^^ BY 64 x 8 ^^^ x/128)
     obtain⟨A,hA⟩:=exzb (BY 64 y 19 ^^^ BY 64 y 61 ^^^ y/64)
     rw[show sg1 y=A from hA,show sg0 x=B from hB] at hnext
     have HN:=Lh hnext
     rw[hB] at e2 s0
     rw[hA] at e4 s1
     obtain⟨x8,hx8⟩:=exzb (x/128)
     obtain⟨y10,hy10⟩:=exzb (y/64)
     rw[hx8] at e2 q1
     rw[hy10] at e4 q2
     have K5:=Lh (fun (w:World)=>Ie ((((A+u+B+z)%M64:Nat)):Int) w)
     have v1:=Dz A u
     have v2:=Dz ((A+u)%M64) B
     have v3:=Dz (((A+u)%M64+B)%M64) z
     rw[show (((A+u)%M64+B)%M64+z)%M64=(A+u+B+z)%M64 by unfold M64;omega] at v3
     obtain⟨nw,hnw⟩:=exzb ((A+u+B+z)%M64)
     rw[hnw] at K5 HN v3
     obtain⟨i2,hi2⟩:=exzb (((A+u)%M64+B)%M64)
     rw[hi2] at v2 v3
     obtain⟨i1,hi1⟩:=exzb ((A+u)%M64)
     rw[hi1] at v1 v2
     clear hi2 hi1
     have bw:nw<M64:=by rw[← hnw];exact Nat.mod_lt _ (by decide)
     have HOW:=Lh hown
     have HBE:=Lh hbe
     have hk2:(k:Int)<64:=by omega
     have sz:=hbe.size
     have w7:IntKind.i64.wrap ((t:Int)-7)=(t:Int)-7:=IntWalk.i64_in _ (by omega)
     have w16:IntKind.i64.wrap ((t:Int)-16)=(t:Int)-16:=IntWalk.i64_in _ (by omega)
     have r7:(0:Int)≤(t:Int)-7:=by omega
     have r8:(t:Int)-7<(t:Int):=by omega
     have r9:(0:Int)≤(t:Int)-16:=by omega
     have r10:(t:Int)-16<(t:Int):=by omega
     have HT:=Lh ht
     have ht64:(t:Int)≤80:=by omega
     have ht16:(16:Int)≤(t:Int):=by omega
     have ht7:(7:Int)≤(t:Int):=by omega
     clear ht hj15 hj2 hj7 hx8 hy10 hnext hnw hB hA hx hy hu hz hget hall hM hl hc hown hbe a1 a2 a3 a4 d1 d2 s0 s1 b1 b2 b3 b4 hL
     go_wp2_with fail
     go_quiet (fail)
     go_wp2_with (first
      | (go_at_call_of 166 (Value.int .i64 1);refine (K1.out _).mono ?_;rintro e w1 ⟨rfl,rfl⟩)
      | (go_at_call_of 166 (Value.int .i64 8);refine (K2.out _).mono ?_;rintro e w1 ⟨rfl,rfl⟩)
      | (go_at_call_of 166 (Value.int .i64 19);refine (K3.out _).mono ?_;rintro e w1 ⟨rfl,rfl⟩)
      | (go_at_call_of 166 (Value.int .i64 61);refine (K4.out _).mono ?_;rintro e w1 ⟨rfl,rfl⟩))
     have g3:(wr.drewN nq).cell? ⟨g,j7,none⟩=_:=c3
     have g4:(wr.drewN nq).cell? ⟨g,k,none⟩=_:=c4
     have sz2:w.heap.size≤(wr.drewN nq).heap.size:=sz
     have HOQ:Hid ((wr.drewN nq).ownsRow w.heap.size 22 1 (.slice (some ⟨g,0,none⟩) t cap) t (Fk L)):=HOW.out
     have HBQ:Hid (Below w.heap.size w (wr.drewN nq)):=HBE.out.trans ⟨rfl,rfl,rfl,Nat.le_refl _,fun _ _=>rfl⟩
     clear HOW HBE c1 c2 c3 c4 K1 K2 K3 K4
     generalize wr.drewN nq=V at g3 g4 sz2 HOQ HBQ ⊢
     refine wp_region_held_drew (S:=fun _=>True) (by kernel_rfl) trivial (fun hHeld=>?_)
     refine wpAnyH_take (i:=0) (v:=?_) rfl (by kernel_rfl) (by kernel_rfl) (by kernel_rfl) (fun _ _ _ h=>h) (Or.inl ⟨by rfl,?_⟩) (by assumption) ?_
     rotate_left
     focus (intro w hSw;(try dsimp only at hSw);go_simp;(try (with_reducible rfl));done)
     try simp only[Act.put,List.setIfInBounds_toArray,List.set_cons_zero,List.set_cons_succ]
     refine wpAnyH_take (i:=1) (v:=?_) rfl (by kernel_rfl) (by kernel_rfl) (by kernel_rfl) (fun _ _ _ h=>h) (Or.inl ⟨by rfl,?_⟩) (by assumption) ?_
     rotate_left
     focus (intro w hSw;(try dsimp only at hSw);go_simp;(try (with_reducible rfl));done)
     try simp only[Act.put,List.setIfInBounds_toArray,List.set_cons_zero,List.set_cons_succ]
     refine wpAnyH_take (i:=2) (v:=?_) rfl (by kernel_rfl) (by kernel_rfl) (by kernel_rfl) (fun _ _ _ h=>h) (Or.inl ⟨by rfl,?_⟩) (by assumption) ?_
     rotate_left
     focus (intro w hSw;(try dsimp only at hSw);go_simp;(try (with_reducible rfl));done)
     try simp only[Act.put,List.setIfInBounds_toArray,List.set_cons_zero,List.set_cons_succ]
     refine wpAnyH_take (i:=3) (v:=?_) rfl (by kernel_rfl) (by kernel_rfl) (by kernel_rfl) (fun _ _ _ h=>h) (Or.inl ⟨by rfl,?_⟩) (by assumption) ?_
     rotate_left
     focus (intro w hSw;(try dsimp only at hSw);go_simp;(try (with_reducible rfl));done)
     try simp only[Act.put,List.setIfInBounds_toArray,List.set_cons_zero,List.set_cons_succ]
     refine wpAnyH_take (i:=4) (v:=?_) rfl (by kernel_rfl) (by kernel_rfl) (by kernel_rfl) (fun _ _ _ h=>h) (Or.inl ⟨by rfl,?_⟩) (by assumption) ?_
     rotate_left
     focus (intro w hSw;(try dsimp only at hSw);go_simp;(try (with_reducible rfl));done)
     try simp only[Act.put,List.setIfInBounds_toArray,List.set_cons_zero,List.set_cons_succ]
     refine wpAnyH_take (i:=5) (v:=?_) rfl (by kernel_rfl) (by kernel_rfl) (by kernel_rfl) (fun _ _ _ h=>h) (Or.inl ⟨by rfl,?_⟩) (by assumption) ?_
     rotate_left
     focus (intro w hSw;(try dsimp only at hSw);go_simp;(try (with_reducible rfl));done)
     try simp only[Act.put,List.setIfInBounds_toArray,List.set_cons_zero,List.set_cons_succ]
     refine wpAnyH_take (i:=8) (v:=?_) rfl (by kernel_rfl) (by kernel_rfl) (by kernel_rfl) (fun _ _ _ h=>h) (Or.inl ⟨by rfl,?_⟩) (by assumption) ?_
     rotate_left
     focus (intro w hSw;(try dsimp only at hSw);go_simp;(try (with_reducible rfl));done)
     try simp only[Act.put,List.setIfInBounds_toArray,List.set_cons_zero,List.set_cons_succ]
     refine wpAnyH_take (i:=10) (v:=?_) rfl (by kernel_rfl) (by kernel_rfl) (by kernel_rfl) (fun _ _ _ h=>h) (Or.inl ⟨by rfl,?_⟩) (by assumption) ?_
     rotate_left
     focus (intro w hSw;(try dsimp only at hSw);go_simp;(try (with_reducible rfl));done)
     try simp only[Act.put,List.setIfInBounds_toArray,List.set_cons_zero,List.set_cons_succ]
     refine wpAnyH_take (i:=11) (v:=?_) rfl (by kernel_rfl) (by kernel_rfl) (by kernel_rfl) (fun _ _ _ h=>h) (Or.inl ⟨by rfl,?_⟩) (by assumption) ?_
     rotate_left
     focus (intro w hSw;(try dsimp only at hSw);go_simp;(try (with_reducible rfl));done)
     try simp only[Act.put,List.setIfInBounds_toArray,List.set_cons_zero,List.set_cons_succ]
     refine wpAnyH_take (i:=12) (v:=?_) rfl (by kernel_rfl) (by kernel_rfl) (by kernel_rfl) (fun _ _ _ h=>h) (Or.inl ⟨by rfl,?_⟩) (by assumption) ?_
     rotate_left
     focus (intro w hSw;(try dsimp only at hSw);go_simp;(try (with_reducible rfl));done)
     try simp only[Act.put,List.setIfInBounds_toArray,List.set_cons_zero,List.set_cons_succ]
     refine wpAnyH_take (i:=13) (v:=?_) rfl (by kernel_rfl) (by kernel_rfl) (by kernel_rfl) (fun _ _ _ h=>h) (Or.inl ⟨by rfl,?_⟩) (by assumption) ?_
     rotate_left
     focus (intro w hSw;(try dsimp only at hSw);go_simp;(try (with_reducible rfl));done)
     try simp only[Act.put,List.setIfInBounds_toArray,List.set_cons_zero,List.set_cons_succ]
     refine wpAnyH_ready (rs:=[6,14]) (by kernel_rfl) (by simp) ?_
     refine AllReadyH.cons rfl (fun K hK=>?_) (AllReadyH.cons rfl (fun K hK=>?_) AllReadyH.nil)
     go_simp
     refine hK.out _ _ trivial (fun hHeld=>?_)
     clear hK K
     try simp only[Act.put,List.setIfInBounds_toArray,List.set_cons_zero,List.set_cons_succ]
     refine wpAnyH_take (i:=7) (v:=?_) rfl (by kernel_rfl) (by kernel_rfl) (by kernel_rfl) (fun _ _ _ h=>h) (Or.inl ⟨by rfl,?_⟩) (by assumption) ?_
     rotate_left
     focus (intro w hSw;(try dsimp only at hSw);go_simp;(try (with_reducible rfl));done)
     try simp only[Act.put,List.setIfInBounds_toArray,List.set_cons_zero,List.set_cons_succ]
     refine wpAnyH_take (i:=9) (v:=?_) rfl (by kernel_rfl) (by kernel_rfl) (by kernel_rfl) (fun _ _ _ h=>h) (Or.inl ⟨by rfl,?_⟩) (by assumption) ?_
     rotate_left
     focus (intro w hSw;(try dsimp only at hSw);go_simp;(try (with_reducible rfl));done)
     try simp only[Act.put,List.setIfInBounds_toArray,List.set_cons_zero,List.set_cons_succ]
     refine wpAnyH_ready (rs:=[14]) (by kernel_rfl) (by simp) ?_
     refine AllReadyH.cons rfl (fun K hK=>?_) AllReadyH.nil
     go_simp
     refine hK.out _ _ trivial (fun hHeld=>?_)
     clear hK K
     try simp only[Act.put,List.setIfInBounds_toArray,List.set_cons_zero,List.set_cons_succ]
     rotate_left
     go_simp
     refine hK.out _ _ trivial (fun hHeld=>?_)
     clear hK K
     try simp only[Act.put,List.setIfInBounds_toArray,List.set_cons_zero,List.set_cons_succ]
     refine wpAnyH_ready (rs:=[6]) (by kernel_rfl) (by simp) ?_
     refine AllReadyH.cons rfl (fun K hK=>?_) AllReadyH.nil
     go_simp
     refine hK.out _ _ trivial (fun hHeld=>?_)
     clear hK K
     try simp only[Act.put,List.setIfInBounds_toArray,List.set_cons_zero,List.set_cons_succ]
     refine wpAnyH_take (i:=7) (v:=?_) rfl (by kernel_rfl) (by kernel_rfl) (by kernel_rfl) (fun _ _ _ h=>h) (Or.inl ⟨by rfl,?_⟩) (by assumption) ?_
     rotate_left
     focus (intro w hSw;(try dsimp only at hSw);go_simp;(try (with_reducible rfl));done)
     try simp only[Act.put,List.setIfInBounds_toArray,List.set_cons_zero,List.set_cons_succ]
     refine wpAnyH_take (i:=9) (v:=?_) rfl (by kernel_rfl) (by kernel_rfl) (by kernel_rfl) (fun _ _ _ h=>h) (Or.inl ⟨by rfl,?_⟩) (by assumption) ?_
     rotate_left
     focus (intro w hSw;(try dsimp only at hSw);go_simp;(try (with_reducible rfl));done)
     try simp only[Act.put,List.setIfInBounds_toArray,List.set_cons_zero,List.set_cons_succ]
     all_goals
      refine wpAnyH_take (i:=15) (v:=?_) rfl (by kernel_rfl) (by kernel_rfl) (by kernel_rfl) (fun _ _ _ h=>h) (Or.inl ⟨by rfl,?_⟩) (by assumption) ?_
      rotate_left
      focus (intro w hSw;(try dsimp only at hSw);go_simp;(try (with_reducible rfl));done)
      try simp only[Act.put,List.setIfInBounds_toArray,List.set_cons_zero,List.set_cons_succ]
      refine wpAnyH_ready (rs:=[16]) (by kernel_rfl) (by simp) ?_
      refine AllReadyH.cons rfl (fun K hK=>?_) AllReadyH.nil
      go_simp
      go_at_call 167
      refine (K5.out _).mono ?_
      rintro e w' ⟨rfl,rfl⟩
      go_wp2_with fail
      refine hK.out _ _ trivial (fun hHeld=>?_)
      clear hK K
      try simp only[Act.put,List.setIfInBounds_toArray,List.set_cons_zero,List.set_cons_succ]
      refine wpAnyH_ready (rs:=[17]) (by kernel_rfl) (by simp) ?_
      refine AllReadyH.cons rfl (fun K hK=>?_) AllReadyH.nil
      go_simp
      refine hK.out _ _ trivial (fun hHeld=>?_)
      clear hK K
      try simp only[Act.put,List.setIfInBounds_toArray,List.set_cons_zero,List.set_cons_succ]
      refine wpAnyH_ready (rs:=[18]) (by kernel_rfl) (by simp) ?_
      refine AllReadyH.cons rfl (fun K hK=>?_) AllReadyH.nil
      refine Dn (by rfl) (.tmp 55) (.tmp 72) 95 (by rfl) w.heap.size 22 i0 (.int .u64 0) 1 8 Tryz.underlying95 hi hz0 hz1 hz2 rfl (by decide) _ t _ (by simp[Act.eval];rfl) (by exact HOQ.out.alloc _) ⟨V.heap.size,0,none⟩ 1 1 [.int .u64 (nw:Int)] (by simp[Act.eval]) rfl (by exact BK V #[_] _) (by simp[Value.oneCell']) (by unfold maxLen;omega) (by omega) (by simp;omega) ?_
      intro v2 w2 hown2 hgrow2
      refine hK.out _ _ trivial (fun hHeld=>?_)
      clear hK K
      try simp only[Act.put,List.setIfInBounds_toArray,List.set_cons_zero,List.set_cons_succ]
      refine wpAnyH_ready (rs:=[19]) (by kernel_rfl) (by simp) ?_
      refine AllReadyH.cons rfl (fun K hK=>?_) AllReadyH.nil
      go_simp
      refine hK.out _ _ trivial (fun hHeld=>?_)
      clear hK K
      try simp only[Act.put,List.setIfInBounds_toArray,List.set_cons_zero,List.set_cons_succ]
      refine wpAnyH_done (by kernel_rfl) ?_ _
     all_goals
      go_wp2_with fail
      go_roundw
      case rel =>
       have ht:=HT.out
       refine⟨k+1,t+1,by omega,by omega,congrArg (Value.int .i64) (by omega),?_,((Al HBQ.out _).drew).grown hgrow2 (by simp;omega) (fun j hj=>(HOQ.out.lt j hj).1)⟩
       rw[HN.out,GG]
       exact hown2
      case measure =>
       have ht:=HT.out
       simp[Go.RowKit.intOf]
       omega
    ·obtain rfl:k=64:=by omega
     subst ht
     have p2:¬ (80:Int)<80:=by omega
     change wr.ownsRow _ _ _ _ 80 _ at hown
     have HOW:=Lh hown
     have HBE:=Lh hbe
     clear hown hbe
     go_wp2_with fail
     go_ret
     exact⟨_,rfl,HOW.out,HBE.out⟩
def rnd (v:List Nat) (kt wt:Nat):List Nat :=
 let x:=(v.getD 7 0+Mk (v.getD 4 0)+BP (v.getD 4 0) (v.getD 5 0) (v.getD 6 0)+kt+wt)%M64
 let y:=(O6 (v.getD 0 0)+CN (v.getD 0 0) (v.getD 1 0) (v.getD 2 0))%M64
 [(x+y)%M64,v.getD 0 0,v.getD 1 0,v.getD 2 0,(v.getD 3 0+x)%M64,v.getD 4 0,v.getD 5 0,v.getD 6 0]
def rnds (h ks ws:List Nat):Nat→List Nat
 | 0=>h
 | t+1=>rnd (rnds h ks ws t) (ks.getD t 0) (ws.getD t 0)
def Fu (h ks m:List Nat):List Nat:=(List.range 8).map fun i=>(h.getD i 0+(rnds h ks (wsN m 64) 80).getD i 0)%M64
def Bt:List Nat:=[7640891576956012808,13503953896175478587,4354685564936845355,11912009170470909681,5840696475078001361,11170449401992604703,2270897969802886507,6620516959819538809]
def Bf:List Nat:=[4794697086780616226,8158064640168781261,13096744586834688815,16840607885511220156,4131703408338449720,6480981068601479193,10538285296894168987,12329834152419229976,15566598209576043074,1334009975649890238,2608012711638119052,6128411473006802146,8268148722764581231,9286055187155687089,11230858885718282805,13951009754708518548,16472876342353939154,17275323862435702243,1135362057144423861,2597628984639134821,3308224258029322869,5365058923640841347,6679025012923562964,8573033837759648693,10970295158949994411,12119686244451234320,12683024718118986047,13788192230050041572,14330467153632333762,15395433587784984357,489312712824947311,1452737877330783856,2861767655752347644,3322285676063803686,5560940570517711597,5996557281743188959,7280758554555802590,8532644243296465576,9350256976987008742,10552545826968843579,11727347734174303076,12113106623233404929,14000437183269869457,14369950271660146224,15101387698204529176,15463397548674623760,17586052441742319658,1182934255886127544,1847814050463011016,2177327727835720531,2830643537854262169,3796741975233480872,4115178125766777443,5681478168544905931,6601373596472566643,7507060721942968483,8399075790359081724,8693463985226723168,9568029438360202098,10144078919501101548,10430055236837252648,11840083180663258601,13761210420658862357,14299343276471374635,14566680578165727644,15097957966210449927,16922976911328602910,17689382322260857208,500013540394364858,748580250866718886,1242879168328830382,1977374033974150939,2944078676154940804,3659926193048069267,4368137639120453308,4836135668995329356,5532061633213252278,6448918945643986474,6902733635092675308,7801388544844847127]
theorem QD (h ks ws:List Nat) (hh:h.length=8):∀ t,(rnds h ks ws t).length=8
 | 0=>hh
 | _+1=>rfl
def IsW (w:World) (g:Nat) (l:List Nat):Prop:=g<w.heap.size∧∀ i,i<l.length→w.cell? ⟨g,i,none⟩=some (.int .u64 (l.getD i 0:Int))
theorem IsW.below {w w':World} {g:Nat} {l:List Nat} (h:IsW w g l) (hb:Below w.heap.size w w'):IsW w' g l:=⟨Nat.lt_of_lt_of_le h.1 hb.size,fun i hi=>(hb.cell (p:=⟨g,i,none⟩) h.1).trans (h.2 i hi)⟩
theorem ax (X Y Z:Nat) (w:World) (hx:X<M64) (hy:Y<M64) (hz:Z<M64) :
    Calls Tryz.prog 168 #[.int .u64 (X:Int),.int .u64 (Y:Int),.int .u64 (Z:Int),.int .i64 0] w fun e w'=>e=.returned (.int .u64 (BP X Y Z:Int))∧Below w.heap.size w w':=by
 have h1:=hx
 have h2:=hy
 have h3:=hz
 unfold M64 at h1 h2 h3
 refine (fv (X:Int) (Y:Int) (Z:Int) w (by omega) (by omega) (by omega) (by omega) (by omega) (by omega)).mono ?_
 rintro e w' ⟨rfl,rfl⟩
 refine⟨?_,Below.refl _ _⟩
 rw[DT X Y Z (by omega) (by omega) (by omega)]
theorem UY (X Y Z:Nat) (w:World) (hx:X<M64) (hy:Y<M64) (hz:Z<M64) :
    Calls Tryz.prog 168 #[.int .u64 (X:Int),.int .u64 (Y:Int),.int .u64 (Z:Int),.int .i64 1] w fun e w'=>e=.returned (.int .u64 (CN X Y Z:Int))∧Below w.heap.size w w':=by
 have h1:=hx
 have h2:=hy
 have h3:=hz
 unfold M64 at h1 h2 h3
 refine (gg (X:Int) (Y:Int) (Z:Int) w (by omega) (by omega) (by omega) (by omega) (by omega) (by omega)).mono ?_
 rintro e w' ⟨rfl,rfl⟩
 refine⟨?_,Below.refl _ _⟩
 rw[EX X Y Z (by omega) (by omega) (by omega)]
theorem iU (X Y Z:Nat) (hy:Y<M64) (hz:Z<M64):BP X Y Z<M64:=Jv X Y Z hy hz
theorem fZ (X Y Z:Nat) (hy:Y<M64) (hz:Z<M64):CN X Y Z<M64:=LO X Y Z hy hz
theorem UB (a:Nat) (h:a<M64):O6 a<M64:=D9 (D9 (BT a 28 h) (BT a 34 h)) (BT a 39 h)
theorem cX (a:Nat) (h:a<M64):Mk a<M64:=D9 (D9 (BT a 14 h) (BT a 18 h)) (BT a 41 h)
theorem BF {l:List Nat} (h:∀ x ∈ l,x<M64) (i:Nat):l.getD i 0<M64:=by
 by_cases hi:i<l.length
 ·rw[List.getD_eq_getElem?_getD,List.getElem?_eq_getElem hi]
  exact h _ (List.getElem_mem hi)
 ·rw[List.getD_eq_getElem?_getD,List.getElem?_eq_none (by omega)]
  decide
theorem gz (v:List Nat) (kt wt:Nat) (hv:∀ x ∈ v,x<M64):∀ x ∈ rnd v kt wt,x<M64:=fun x hx=>by
 unfold rnd at hx
 simp only[List.mem_cons,List.not_mem_nil,or_false] at hx
 rcases hx with rfl | rfl | rfl | rfl | rfl | rfl | rfl | rfl
 ·exact Nat.mod_lt _ (by decide)
 ·exact BF hv 0
 ·exact BF hv 1
 ·exact BF hv 2
 ·exact Nat.mod_lt _ (by decide)
 ·exact BF hv 4
 ·exact BF hv 5
 ·exact BF hv 6
theorem Ot (h ks ws:List Nat) (hh:∀ x ∈ h,x<M64):∀ t,∀ x ∈ rnds h ks ws t,x<M64
 | 0=>hh
 | t+1=>gz _ _ _ (Ot h ks ws hh t)
theorem jb (U:World) (a0 a1 a2 a3 a4 a5 a6 a7:Nat):IsW (U.alloc (.cells #[.int .u64 (a0:Int),.int .u64 (a1:Int),.int .u64 (a2:Int),.int .u64 (a3:Int),.int .u64 (a4:Int),.int .u64 (a5:Int),.int .u64 (a6:Int),.int .u64 (a7:Int)] 22)) U.heap.size [a0,a1,a2,a3,a4,a5,a6,a7]:=by
 have hn:(U.alloc (.cells #[.int .u64 (a0:Int),.int .u64 (a1:Int),.int .u64 (a2:Int),.int .u64 (a3:Int),.int .u64 (a4:Int),.int .u64 (a5:Int),.int .u64 (a6:Int),.int .u64 (a7:Int)] 22)).heap[U.heap.size]?=some (.cells #[.int .u64 (a0:Int),.int .u64 (a1:Int),.int .u64 (a2:Int),.int .u64 (a3:Int),.int .u64 (a4:Int),.int .u64 (a5:Int),.int .u64 (a6:Int),.int .u64 (a7:Int)] 22 (0,0)):=by
  show (U.heap.push _)[U.heap.size]?=_
  simp
 have hc:∀ i,(U.alloc (.cells #[.int .u64 (a0:Int),.int .u64 (a1:Int),.int .u64 (a2:Int),.int .u64 (a3:Int),.int .u64 (a4:Int),.int .u64 (a5:Int),.int .u64 (a6:Int),.int .u64 (a7:Int)] 22)).cell? ⟨U.heap.size,i,none⟩=(#[.int .u64 (a0:Int),.int .u64 (a1:Int),.int .u64 (a2:Int),.int .u64 (a3:Int),.int .u64 (a4:Int),.int .u64 (a5:Int),.int .u64 (a6:Int),.int .u64 (a7:Int)]:Array Value)[i]?:=fun i=>by
  simp only[World.cell?,hn]
  rfl
 refine⟨by rw[World.size_alloc];omega,fun i hi=>?_⟩
 rw[hc i]
 have hi8:i<8:=hi
 have h8:i=0∨i=1∨i=2∨i=3∨i=4∨i=5∨i=6∨i=7:=by omega
 rcases h8 with rfl | rfl | rfl | rfl | rfl | rfl | rfl | rfl <;> rfl
end Go.Proofs.YtnaldciakclccaaGreat
