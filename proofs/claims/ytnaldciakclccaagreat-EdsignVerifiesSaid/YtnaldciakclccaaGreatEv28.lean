/- Lemmas of this proof. -/
import Derived.Laws.BitsAllLaws
import Derived.Laws.Bits64
import Derived.IntWalk
import Derived.Lib.Bytealg
import Derived.Deep.RegionLaw
import Derived.Deep.AppendLies
import Derived.Test.YtnaldciakclccaaGreatEv18
import Derived.Test.YtnaldciakclccaaGreatShelfRep
import Derived.Test.YtnaldciakclccaaGreatEv26
import Derived.Test.YtnaldciakclccaaGreatEv02
import Derived.Test.YtnaldciakclccaaGreatEv20
import Derived.Test.YtnaldciakclccaaGreatEv19
import Derived.Test.YtnaldciakclccaaGreatEv10
namespace Go.Proofs.YtnaldciakclccaaGreat
set_option maxRecDepth 20000
set_option maxHeartbeats 8000000
set_option linter.unusedSimpArgs false
set_option linter.unusedVariables false
open Go.RowKit
theorem Pd:∀ (l r:List UInt8),leN (l++r)=leN l+256^l.length*leN r
 | [],r=>by simp[leN]
 | b::l,r=>by
   have h:=Pd l r
   rw[List.cons_append,leN.eq_2,leN.eq_2,h,List.length_cons,Nat.pow_succ,Nat.mul_add,← Nat.mul_assoc,Nat.mul_comm (256^l.length) 256,Nat.add_assoc]
theorem NB:∀ c,leN (Lib.repeatL [0] c)=0
 | 0=>rfl
 | c+1=>by
   show leN (0::Lib.repeatL [0] c)=0
   unfold leN
   rw[NB c]
   rfl
theorem Tf (l:List UInt8) (hl:l.length=64):MD (leN (l.take 32)) (leN (l.drop 32)) LN=leN l%LN:=by
 have h:leN l=leN (l.take 32)+B64^4*leN (l.drop 32):=by
  conv=>lhs;rw[← List.take_append_drop 32 l]
  rw[Pd,List.length_take,hl,show 256^min 32 64=B64^4 by decide]
 unfold MD
 rw[if_neg (by have:=FL;omega),h,Nat.mul_comm (leN (l.drop 32)),Nat.add_comm]
theorem Nr (l:List UInt8) (h:l.length≤32):leN l<B64^4 :=
 Nat.lt_of_lt_of_le (J9 l) (Nat.le_trans (Nat.pow_le_pow_right (by decide) h) (by decide))
theorem Tj (s:ByteArray) (w:World) (hs:s.size≤64) :
    Calls Tryz.prog 90 #[.string s] w fun e w'=>e=.returned (.tuple #[Aa (leN s.data.toList%LN),.int .i64 0])∧Below w.heap.size w w':=by
 have p1:¬ (64:Int)<(s.size:Int):=by omega
 have K0:=Lh (fun w=>Tryz.strings_Repeat ⟨#[0]⟩ (64-s.size) w (by omega) (by rw[show (⟨#[0]⟩:ByteArray).size=1 from rfl];omega))
 have q1:(64:Int)-(s.size:Int)=((64-s.size:Nat):Int):=by omega
 obtain⟨Zs,hZs⟩:∃ Zs:ByteArray,(⟨(Lib.repeatL (⟨#[0]⟩:ByteArray).data.toList (64-s.size)).toArray⟩:ByteArray)=Zs:=⟨_,rfl⟩
 rw[hZs] at K0
 have hZl:Zs.data.toList=Lib.repeatL [0] (64-s.size):=by rw[← hZs]
 have hZn:Zs.size=64-s.size:=by rw[Lib.size_eq,hZl,Lib.repeatL_length];simp
 have hTl:(s++Zs).data.toList=s.data.toList++Lib.repeatL [0] (64-s.size):=by rw[← hZl];simp
 have hTn:(s++Zs).size=64:=by rw[ByteArray.size_append,hZn];omega
 have hTe:leN (s++Zs).data.toList=leN s.data.toList:=by rw[hTl,Pd,NB];omega
 obtain⟨T,hT⟩:=exzb (s++Zs)
 rw[hT] at hTn hTe
 have hlo:(T.extract 0 32).size=32:=by rw[ByteArray.size_extract];omega
 have hhi:(T.extract 32 64).size=32:=by rw[ByteArray.size_extract];omega
 have elo:(T.extract 0 32).data.toList=T.data.toList.take 32:=by simp
 have ehi:(T.extract 32 64).data.toList=T.data.toList.drop 32:=by
  have h1:=Lib.size_eq T
  rw[hTn] at h1
  have h2:(T.data.toList.drop 32).length≤32:=by rw[List.length_drop];omega
  simp only[ByteArray.data_extract,Array.toList_extract,List.extract_eq_take_drop]
  exact List.take_of_length_le h2
 have K1:=Lh (fun w=>Gh (T.extract 0 32) w hlo)
 have K2:=Lh (fun w=>Gh (T.extract 32 64) w hhi)
 have K3:=Lh TU
 have hTl2:T.data.toList.length=64:=by rw[← Lib.size_eq T];exact hTn
 have K4:=Lh (fun w=>Kd (leN (T.data.toList.take 32)) (leN (T.data.toList.drop 32)) LN w (Nr _ (by rw[List.length_take];omega)) (Nr _ (by rw[List.length_drop];omega)) Hx)
 rw[Tf _ hTl2,hTe] at K4
 rw[elo] at K1
 rw[ehi] at K2
 obtain⟨S,hS⟩:=exzb (leN (T.data.toList.take 32))
 obtain⟨H,hH⟩:=exzb (leN (T.data.toList.drop 32))
 obtain⟨R,hRR⟩:=exzb (leN s.data.toList%LN)
 obtain⟨Lv,hLv⟩:=exzb (LN)
 rw[hS] at K1
 rw[hH] at K2
 rw[hS,hH,hRR,hLv] at K4
 rw[hLv] at K3
 rw[hRR]
 simp only[AL] at K1 K2 K3 K4 ⊢
 have HTT:=Lh hT
 have hq:¬ 9223372036854775807<s.size+Zs.size:=by omega
 have t1:(T.size:Int)=64:=by omega
 obtain⟨xr,xz,xB⟩:=JF w
 rw[← q1] at K0
 have hs64:(s.size:Int)≤64:=by omega
 clear hS hH hRR hLv hlo hhi elo ehi hTl2 hTe hTl hZl hZs hT q1
 go_enter Tryz.func90,Tryz.ntmps90
 go_wp2_with fail
 change Calls _ _ _ (FY w) _
 generalize FY w=X at *
 refine (K0.out X).mono ?_
 rintro e w1 ⟨rfl,hb1⟩
 have xr1:=xr.keep hb1
 have hB1:Below w.heap.size w w1:=xB.trans (hb1.mono (by omega))
 clear xr xB hb1 K0
 have hT:=HTT.out
 go_wp2_with fail
 refine (K1.out w1).mono ?_
 rintro e w2 ⟨rfl,hb2⟩
 have xr2:=(xr1.keep hb2).alloc (.cells #[.int .u64 (wd S 0:Int),.int .u64 (wd S 1:Int),.int .u64 (wd S 2:Int),.int .u64 (wd S 3:Int)] 24)
 have hB2:=hB1.trans (hb2.mono (by have:=AU xr1;omega))
 have hz2:w.heap.size<w2.heap.size:=by have:=AU (xr1.keep hb2);omega
 have R5:IsA (w2.alloc (.cells #[.int .u64 (wd S 0:Int),.int .u64 (wd S 1:Int),.int .u64 (wd S 2:Int),.int .u64 (wd S 3:Int)] 24)) w2.heap.size S 24:=Aj w2 _
 have hB3:=Dt hB2 (by omega) (.cells #[.int .u64 (wd S 0:Int),.int .u64 (wd S 1:Int),.int .u64 (wd S 2:Int),.int .u64 (wd S 3:Int)] 24)
 have hz3:(w2.alloc (.cells #[.int .u64 (wd S 0:Int),.int .u64 (wd S 1:Int),.int .u64 (wd S 2:Int),.int .u64 (wd S 3:Int)] 24)).heap.size=w2.heap.size+1:=by simp
 clear hB2 xr1 hB1 hb2 K1
 have XR2:=Lh xr2
 have HR5:=Lh R5
 have HB3:=Lh hB3
 clear xr2 R5 hB3
 go_wp2_with fail
 generalize w2.alloc (.cells #[.int .u64 (wd S 0:Int),.int .u64 (wd S 1:Int),.int .u64 (wd S 2:Int),.int .u64 (wd S 3:Int)] 24)=V at *
 refine (K2.out V).mono ?_
 rintro e w3 ⟨rfl,hb3⟩
 have XR3:=Lh ((XR2.out.keep hb3).alloc (.cells #[.int .u64 (wd H 0:Int),.int .u64 (wd H 1:Int),.int .u64 (wd H 2:Int),.int .u64 (wd H 3:Int)] 24))
 have R5:=Lh ((HR5.out.keep hb3).alloc (.cells #[.int .u64 (wd H 0:Int),.int .u64 (wd H 1:Int),.int .u64 (wd H 2:Int),.int .u64 (wd H 3:Int)] 24))
 have R6:Hid (IsA (w3.alloc (.cells #[.int .u64 (wd H 0:Int),.int .u64 (wd H 1:Int),.int .u64 (wd H 2:Int),.int .u64 (wd H 3:Int)] 24)) w3.heap.size H 24):=(Aj w3 _ :)
 have hb3s:=hb3.size
 have HB2:=Lh (Dt (HB3.out.trans (hb3.mono (by omega))) (by omega) (.cells #[.int .u64 (wd H 0:Int),.int .u64 (wd H 1:Int),.int .u64 (wd H 2:Int),.int .u64 (wd H 3:Int)] 24))
 have XR2:=XR3
 clear XR3 HB3 HR5 hb3 K2
 go_wp2_with fail
 generalize w3.alloc (.cells #[.int .u64 (wd H 0:Int),.int .u64 (wd H 1:Int),.int .u64 (wd H 2:Int),.int .u64 (wd H 3:Int)] 24)=Y at HB2 XR2 R5 R6 ⊢
 have hne1:w2.heap.size≠w.heap.size:=by omega
 have hne2:w3.heap.size≠w.heap.size:=by omega
 obtain⟨⟨p0,p1,p2,p3⟩,_⟩:=Aq R5.out
 obtain⟨⟨q0,q1,q2,q3⟩,_⟩:=Aq R6.out
 go_region_held3 (fun w'=>w'.cell? ⟨w2.heap.size,0,none⟩=some (.int .u64 (wd S 0:Int))∧w'.cell? ⟨w2.heap.size,1,none⟩=some (.int .u64 (wd S 1:Int))∧w'.cell? ⟨w2.heap.size,2,none⟩=some (.int .u64 (wd S 2:Int))∧w'.cell? ⟨w2.heap.size,3,none⟩=some (.int .u64 (wd S 3:Int))∧w'.cell? ⟨w3.heap.size,0,none⟩=some (.int .u64 (wd H 0:Int))∧w'.cell? ⟨w3.heap.size,1,none⟩=some (.int .u64 (wd H 1:Int))∧w'.cell? ⟨w3.heap.size,2,none⟩=some (.int .u64 (wd H 2:Int))∧w'.cell? ⟨w3.heap.size,3,none⟩=some (.int .u64 (wd H 3:Int))) (first | (with_reducible exact⟨p0,p1,p2,p3,q0,q1,q2,q3⟩) | (with_reducible exact Db r4 s4) | (with_reducible exact Db r5 s5) | (with_reducible exact Db (r5.far hne1) (s5.far hne2)) | go_keep) (first
  | (go_at_call 37;go_must (refine (K3.out _).mono ?_);rintro e w4 ⟨rfl,hb4⟩
     have r4:=(show IsA Y.drew _ _ _ from R5.out).keep hb4
     have s4:=(show IsA Y.drew _ _ _ from R6.out).keep hb4
     have x4:=(show IsA Y.drew _ _ _ from XR2.out).keep hb4
     have B4:=HB2.out.drew.trans (hb4.mono HB2.out.size)
     obtain⟨⟨m0,m1,m2,m3⟩,_⟩:=Aq r4
     obtain⟨⟨n0,n1,n2,n3⟩,_⟩:=Aq s4)
  | (go_at_call 100;go_must (refine (K4.out _).mono ?_);rintro e w5 ⟨rfl,hb5⟩
     have r5:=r4.keep hb5
     have s5:=s4.keep hb5
     have x5:=x4.keep hb5
     have B5:=B4.trans (hb5.mono B4.size)
     obtain⟨⟨d0,d1,d2,d3⟩,e0,e1,e2,e3⟩:=Aq x5))
 all_goals
  have KL:=Lh (DE (AN (n:=R) x5))
  have BR:=Lh (Bg (v0:=.int .u64 (wd R 0:Int)) (v1:=.int .u64 (wd R 1:Int)) (v2:=.int .u64 (wd R 2:Int)) (v3:=.int .u64 (wd R 3:Int)) B5 (b:=w.heap.size) (Nat.le_refl _))
  go_wp2_with fail
  exact bodyPost_ret (AC Tryz.results90 (by rfl) (by rfl) KL.out) rfl ⟨rfl,BR.out⟩
theorem Tryz.rinfo_u8:(Tryz.prog.info? 5).map (fun i=>(i.zero,i.size,i.bytes))=some (some (.int .u8 0),1,1):=by kernel_rfl
theorem S8 (s:ByteArray) (k:Nat) (h:k<s.size):s.data.toList.take (k+1)=s.data.toList.take k++[s[k]]:=by
 rw[List.take_succ_eq_append_getElem (by simpa using h)];rfl
theorem Vj (l:List UInt8) (b:UInt8):Ha (l++[b])=Ha l++Rl b:=by simp[Ha]
theorem Rf (s:ByteArray) (w:World) (hs:s.size≤100000) :
    Calls Tryz.prog 194 #[.string s] w fun e w'=>e=.returned (.string ⟨(Ha s.data.toList).toArray⟩)∧Below w.heap.size w w':=by
 obtain⟨i0,hi,hz0,hz1,hz2⟩:=info_parts Tryz.rinfo_u8
 go_enter Tryz.func194,Tryz.ntmps194
 go_wp2_with fail
 go_loopw [3,4] (fun v i wr=>∃ k:Nat,k≤s.size∧i=.int .i64 k∧wr.ownsRow w.heap.size 5 1 v (2*k) ((Ha (s.data.toList.take k)).map bc)∧Below w.heap.size w wr) (fun _ i _=>s.size-(intOf i).toNat)
 case atStart=>exact⟨0,by omega,rfl,World.ownsRow_nil _ _ _ _,Below.refl _ _⟩
 case round =>
  obtain⟨k,hk,rfl,hown,hb⟩:=hrel
  by_cases hlt:k<s.size
  ·have hT:=Lh (S8 s k hlt)
   obtain⟨b0,b1⟩:=Iq s[k]
   have w1:IntKind.u8.wrap ((s[k].toNat:Int)/16)=(s[k].toNat:Int)/16:=by rw[IntKind.wrap_u8'];omega
   have w2:(s[k].toNat:Int).tmod 16=(s[k].toNat:Int)%16:=Int.tmod_eq_emod_of_nonneg b0
   have hli:(k:Int)<(s.size:Int):=by omega
   go_wp2_with fail
   go_region_held3 (fun _=>True) (first | trivial | go_keep) (first
    | (go_at_call 207;go_must (refine (Vu _ _ (by omega) (by omega)).mono ?_);rintro e w' ⟨rfl,rfl⟩)
    | (refine Dn (by rfl) (.tmp 11) (.tmp 22) 90 (by rfl) w.heap.size 5 i0 (.int .u8 0) 1 1 Tryz.underlying90 hi hz0 hz1 hz2 rfl (by decide) _ (2*k) _ (by simp[Act.eval];rfl) (by exact hown.alloc _) ⟨wr.heap.size,0,none⟩ 2 2 [.int .u8 (hexd ((s[k].toNat:Int)/16)),.int .u8 (hexd ((s[k].toNat:Int)%16))] (by simp[Act.eval]) rfl (by exact BK wr #[_,_] _) (by simp[Value.oneCell']) (by unfold maxLen;omega) (by omega) (by have:=hb.size;simp;omega) ?_;intro v2 w2 hown2 hgrow2))
   all_goals
    go_wp2_with fail
    go_roundw
    case rel =>
     refine⟨k+1,by omega,by go_num,?_,((hb.alloc hb.size _).drew).grown hgrow2 (by have:=hb.size;simp;omega) (fun j hj=>(hown.lt j hj).1)⟩
     rw[hT.out,Vj,List.map_append,← L2]
     exact hown2
    case measure=>simp[intOf];omega
  ·obtain rfl:k=s.size:=by omega
   have hL:s.data.toList.take s.size=s.data.toList:=List.take_of_length_le (Nat.le_of_eq Array.length_toList)
   rw[hL] at hown
   have ks:=DH (P:=Tryz.prog) (t:=90) (ty:=9) Tryz.underlying90 Tryz.underlying5 Tryz.underlying9 hown
   clear hL
   go_wp2_with fail
   go_ret
   exact⟨rfl,hb⟩
theorem Sk {w w':World} {base:Nat} {e:TypeId} {size:Nat} {v:Value} {n:Nat} {xs:List Value} (h:w.ownsRow base e size v n xs) (hb:Below w.heap.size w w'):w'.ownsRow base e size v n xs:=by
 obtain⟨h1,h2⟩:=h
 refine⟨h1,?_⟩
 rcases h2 with h2 | ⟨g,cap,cur,hv,hg,hh,r⟩
 ·exact Or.inl h2
 ·refine Or.inr ⟨g,cap,cur,hv,hg,?_,r⟩
  have hlt:g<w.heap.size:=by
   apply Nat.lt_of_not_le
   intro hle
   rw[Array.getElem?_eq_none hle] at hh
   simp at hh
  rw[hb.block g hlt];exact hh
theorem WK (c:UInt8) (w:World) :
    Calls Tryz.prog 193 #[.int .u8 (c.toNat:Int)] w fun e w'=>e=.returned (.int .u8 (rv c))∧w=w':=by
 obtain⟨b0,b1⟩:=Iq c
 have hle:∀ n:Nat,n<256→((UInt8.ofNat n≤c)↔((n:Int)≤(c.toNat:Int))):=fun n hn=>by
  rw[UInt8.le_iff_toNat_le,UInt8.toNat_ofNat'];omega
 have hge:∀ n:Nat,n<256→((c≤UInt8.ofNat n)↔((c.toNat:Int)≤(n:Int))):=fun n hn=>by
  rw[UInt8.le_iff_toNat_le,UInt8.toNat_ofNat'];omega
 have E:rv c=if 97≤(c.toNat:Int)∧(c.toNat:Int)≤102 then (c.toNat:Int)-87 else (c.toNat:Int)%16:=by
  unfold rv
  have e1:=hle 97 (by decide)
  have e2:=hge 102 (by decide)
  have e:(97≤c∧c≤102)↔(97≤(c.toNat:Int)∧(c.toNat:Int)≤102):=and_congr e1 e2
  by_cases h:97≤c∧c≤102
  ·rw[if_pos h,if_pos (e.1 h)]
  ·rw[if_neg h,if_neg (fun h'=>h (e.2 h'))]
 have HE:=Lh E
 clear E hle hge
 generalize (c.toNat:Int)=x at *
 by_cases h1:97≤x
 ·by_cases h2:x≤102
  ·have R:Hid (rv c=x-87):=by show _=_;rw[HE.out,if_pos ⟨h1,h2⟩]
   go_enter Tryz.func193,Tryz.ntmps193
   go_wp2
   go_ret
   exact⟨BE (by rw[R.out];omega),rfl⟩
  ·have R:Hid (rv c=x%16):=by show _=_;rw[HE.out,if_neg (by omega)]
   go_enter Tryz.func193,Tryz.ntmps193
   go_wp2
   go_ret
   exact⟨BE R.out.symm,rfl⟩
 ·have R:Hid (rv c=x%16):=by show _=_;rw[HE.out,if_neg (by omega)]
  go_enter Tryz.func193,Tryz.ntmps193
  go_wp2
  go_ret
  exact⟨BE R.out.symm,rfl⟩
theorem Rw (l:List UInt8):∀ k,l.length=2*k+1→CZ (l.take (2*k))=CZ l:=by
 intro k hk
 induction k generalizing l with
 | zero=>match l,hk with
   | [x],_=>rfl
 | succ k ih=>match l,hk with
   | a::b::r,hk => 
     have:=ih r (by simp at hk;omega)
     rw[show 2*(k+1)=2*k+1+1 from by omega,List.take_succ_cons,List.take_succ_cons]
     simp only[CZ,this]
theorem Tn (s:ByteArray) (w:World) (hs:s.size≤50000) :
    Calls Tryz.prog 155 #[.string s] w fun e w'=>e=.returned (.tuple #[.string (EP s),.int .i64 (E6 s)])∧Below w.heap.size w w':=by
 obtain⟨i0,hi,hz0,hz1,hz2⟩:=info_parts Tryz.rinfo_u8
 go_enter Tryz.func155,Tryz.ntmps155
 go_wp2_with fail
 go_loopw [4,5] (fun v i wr=>∃ k:Nat,2*k≤s.size∧i=.int .i64 (2*(k:Int))∧wr.ownsRow w.heap.size 5 1 v k ((CZ (s.data.toList.take (2*k))).map bc)∧Below w.heap.size w wr) (fun _ i _=>s.size-(intOf i).toNat)
 case atStart=>exact⟨0,by omega,rfl,World.ownsRow_nil _ _ _ _,Below.refl _ _⟩
 case round =>
  obtain⟨k,hk,rfl,hown,hb⟩:=hrel
  by_cases hlt:2*k+1<s.size
  ·have q1:2*(k:Int)<(s.size:Int):=by omega
   have q2:2*(k:Int)+1<(s.size:Int):=by omega
   have q0:2*k<s.size:=by omega
   obtain⟨a,ha⟩:=exza (s[2*k]'q0)
   obtain⟨b,hb'⟩:∃ b,b=s[2*k+1]'hlt:=⟨_,rfl⟩
   have hlen:s.data.toList.length=s.size:=Array.length_toList
   have TT:=Lh (Ri s.data.toList k (by omega))
   have ea:s.data.toList[2*k]'(by omega)=a:=ha.symm
   have eb:s.data.toList[2*k+1]'(by omega)=b:=hb'.symm
   have TS:=Lh (TT.out.1.trans (by rw[ea,eb]:_=s.data.toList.take (2*k)++[a,b]))
   have PS:=Lh (IU (s.data.toList.take (2*k)) k a b (by rw[List.length_take];omega))
   obtain⟨a1,a2⟩:=et a
   obtain⟨b1,b2⟩:=et b
   have ha':s[2*k]'q0=a:=ha.symm
   have hb'':s[2*k+1]'hlt=b:=hb'.symm
   clear ea eb ha hb' TT hlen
   have sum1:IntKind.i64.wrap (2*(k:Int)+1)=2*k+1:=IntWalk.i64_in _ (by omega)
   have nat1:(2*(k:Int)+1).toNat=2*k+1:=by omega
   have nat0:(2*(k:Int)).toNat=2*k:=by omega
   have o2:IntKind.u8.wrap (16*rv a)=16*rv a:=by rw[IntKind.wrap_u8'];omega
   have o3:IntKind.u8.wrap (16*rv a+rv b)=16*rv a+rv b:=by rw[IntKind.wrap_u8'];omega
   go_wp2_with fail
   go_region_held3 (fun _=>True) (first | trivial | go_keep) (first
    | (go_at_call 193;refine (WK _ _).mono ?_;rintro e w' ⟨rfl,rfl⟩)
    | (refine Dn (by rfl) (.tmp 13) (.tmp 25) 90 (by rfl) w.heap.size 5 i0 (.int .u8 0) 1 1 Tryz.underlying90 hi hz0 hz1 hz2 rfl (by decide) _ k _ (by simp[Act.eval];rfl) (by exact hown.alloc _) ⟨wr.heap.size,0,none⟩ 1 1 [.int .u8 (16*rv a+rv b)] (by simp[Act.eval]) rfl (by exact BK wr #[_] _) (by simp[Value.oneCell']) (by unfold maxLen;omega) (by omega) (by have:=hb.size;simp;omega) ?_;intro v2 w2 hown2 hgrow2))
   all_goals
    go_wp2_with fail
    go_roundw
    case rel =>
     refine⟨k+1,by omega,congrArg (Value.int .i64) (by omega),?_,((hb.alloc hb.size _).drew).grown hgrow2 (by have:=hb.size;simp;omega) (fun j hj=>(hown.lt j hj).1)⟩
     rw[TS.out,PS.out.2.1,List.map_append,List.map_cons,List.map_nil,LY _ (by omega) (by omega)]
     exact hown2
    case measure=>simp[intOf];omega
  ·have hlen:s.data.toList.length=s.size:=Array.length_toList
   have hL:CZ (s.data.toList.take (2*k))=CZ s.data.toList:=by
    by_cases he:s.size=2*k
    ·rw[List.take_of_length_le (by omega)]
    ·exact Rw _ k (by omega)
   rw[hL] at hown
   have ks:=DH (P:=Tryz.prog) (t:=90) (ty:=9) Tryz.underlying90 Tryz.underlying5 Tryz.underlying9 hown
   have hrl:(⟨(CZ s.data.toList).toArray⟩:ByteArray).size≤100000:=by
    have h1:=hown.1
    show (CZ s.data.toList).toArray.size≤_
    simp at h1 ⊢
    omega
   generalize hR:CZ s.data.toList=R at *
   have HR:=Lh hR
   clear hL hR
   cases hok:okP s.data.toList
   ·have q:(Ha R == s.toList)=false:=by
      rw[ByteArray.toList_eq,beq_eq_false_iff_ne]
      intro h
      have h2:=(US R).1
      rw[h,hok] at h2
      exact absurd h2 (by decide)
    have E1:=Lh (by simp only[EP,hok];rfl:EP s=⟨#[]⟩)
    have E2:=Lh (by simp only[E6,hok];rfl:E6 s=6)
    clear hok
    go_wp2_with (go_at_call 194;refine (Rf _ _ hrl).mono ?_;rintro e w' ⟨rfl,hb2⟩)
    go_ret2
    exact⟨TA E1.out.symm E2.out.symm,GO hb hb2⟩
   ·have q:(Ha R == s.toList)=true:=by
      rw[ByteArray.toList_eq,beq_iff_eq,← HR.out,(Ls _ hok).1]
      exact (Ls _ hok).2
    have E1:=Lh (by simp only[EP,hok,← HR.out,(Ls _ hok).1];rfl:EP s=⟨R.toArray⟩)
    have E2:=Lh (by simp only[E6,hok];rfl:E6 s=0)
    clear hok
    go_wp2_with (go_at_call 194;refine (Rf _ _ hrl).mono ?_;rintro e w' ⟨rfl,hb2⟩;have ks2:=DH (P:=Tryz.prog) (t:=90) (ty:=9) Tryz.underlying90 Tryz.underlying5 Tryz.underlying9 (Sk hown hb2))
    go_ret2
    exact⟨TA E1.out.symm E2.out.symm,GO hb hb2⟩
theorem Zw (n m i:Nat):(2*(n/2^(i+1)%m)+n/2^i%2)%m=n/2^i%m:=by
 have h:n/2^i=2*(n/2^(i+1))+n/2^i%2:=by
  rw[Nat.pow_succ,← Nat.div_div_eq_div_mul];omega
 generalize n/2^(i+1)=a at *
 generalize n/2^i%2=b at *
 rw[h,Nat.add_mod,Nat.mul_mod,Nat.mod_mod,← Nat.mul_mod,← Nat.add_mod]
theorem de (x b k:Nat) (hb:b<2):dg (2*x+b) k=if k=0 then dg (2*x) 0+b else dg (2*x) k:=by
 unfold dg
 match k with
 | 0=>rw[if_pos rfl];simp only[Nat.pow_zero,Nat.div_one];omega
 | k+1 =>
   rw[if_neg (by omega),Nat.pow_succ,Nat.mul_comm (65536^k),← Nat.div_div_eq_div_mul,← Nat.div_div_eq_div_mul]
   have:(2*x+b)/65536=2*x/65536:=by omega
   rw[this]
theorem aH {w:World} {g L x b:Nat} (h:By w g L (2*x)) (hb:b<2) (hx:2*x+b<65536^L):By (w.setCell ⟨g,0,none⟩ (.int .u64 ((dg (2*x) 0+b:Nat):Int))) g L (2*x+b):=by
 refine⟨?_,hx,h.2.2⟩
 rw[ER (p:=dg (2*x+b)) (q:=upd (dg (2*x)) 0 (dg (2*x) 0+b)) (fun k _=>by rw[de x b k hb];rfl),← DC]
 exact AF h.1 _
theorem Rr (a b:Option Addr) (la ca lb cb n m:Nat) (w:World) (ha:IsN w a la ca n) (hb:IsN w b lb cb m) (hm:0<m) (sa:la≤100) (sb:lb≤100) :
    Calls Tryz.prog 106 #[.slice a la ca,.slice b lb cb] w fun e w'=>∃ g cap,∃ len,e=.returned (.slice g len cap)∧IsN w' g len cap (n%m)∧len≤lb∧Below w.heap.size w w':=by
 have l1:(la:Int)≤100:=by omega
 have l2:(lb:Int)≤100:=by omega
 have HA:=Lh ha
 have HB:=Lh hb
 clear ha hb
 go_enter Tryz.func106,Tryz.ntmps106
 go_wp2_with fail
 go_loopw [5,6] (fun r i wr=>∃ c:Nat,∃ g cap len,c≤1600∧i=.int .i64 (kI c)∧r=.slice g len cap∧IsN wr g len cap (n/2^c%m)∧len≤lb∧Below w.heap.size w wr) (fun _ i _=>(intOf i+1).toNat)
 case atStart =>
  refine⟨16*la,none,0,0,by omega,?_,rfl,?_,by omega,Below.refl _ _⟩
  ·unfold kI;congr 1 <;> omega
  ·have h:n<2^(16*la):=by
     rw[Nat.pow_mul]
     exact HA.out.1
   rw[Nat.div_eq_of_lt h,Nat.zero_mod]
   exact bI _
 case round =>
  obtain⟨c,g,cap,len,hc,rfl,rfl,hr,hlen,hbl⟩:=hrel
  match c,hc with
  | 0,_ =>
    rw[show kI 0 = -1 from rfl]
    have HR:=Lh hr
    clear hr
    go_wp2_with fail
    go_ret
    exact⟨g,cap,len,rfl,by have:=HR.out;rwa [Nat.pow_zero,Nat.div_one] at this,hlen,hbl⟩
  | d+1,hc =>
    rw[show kI (d+1)=(d:Int) by unfold kI;omega]
    have d3:(d:Int)<1600:=by omega
    have HN:=Lh (Zw n m d)
    have hxm:n/2^(d+1)%m<m:=Nat.mod_lt _ hm
    generalize n/2^(d+1)%m=x at *
    obtain⟨b',hb'⟩:∃ b',n/2^d%2=b':=⟨_,rfl⟩
    have hb2:b'<2:=by rw[← hb'];exact Nat.mod_lt _ (by decide)
    rw[hb'] at HN
    have HX:=Lh hb'
    have hxx:x+x=2*x:=by omega
    have hx1:=hr.1
    have KA:=Lh (Fe g g len cap len cap x x wr hr hr (by omega) (by omega))
    have hfit:2*x+b'<65536^(len+1):=by rw[Nat.pow_succ];omega
    have HF:=Lh hfit
    rw[hxx,Nat.max_self] at KA
    clear hb' hr hx1 hxx hfit
    go_wp2_with fail
    refine KA.out.mono ?_
    rintro e w1 ⟨g1,rfl,ho1,hg1,hb1⟩
    have hl1:(len:Int)+1≤101:=by omega
    have HO:=Lh ho1
    obtain⟨c1,f1⟩:=Af ho1.1 (BC _ _ 0 (by omega))
    have hbw1:=hbl.trans (hb1.mono hbl.size)
    have KB:=Lh (LH a la ca n d w1.drew (A6 (A6 HA.out hbw1) (AV (Below.refl _ _) 1)) (by omega))
    rw[HX.out] at KB
    have hd0:=Dx (2*x) 0
    generalize hD0:dg (2*x) 0=D0 at *
    have HD0:=Lh hD0
    obtain⟨E,hE⟩:=exzb (D0+b')
    have hwr:IntKind.u64.wrap ((D0:Int)+(b':Int))=(E:Int):=by rw[show (D0:Int)+(b':Int)=(E:Int) by omega];exact IntWalk.u64_in _ (by omega)
    have ho2:=aH ho1 hb2 HF.out
    rw[hD0,hE] at ho2
    have hb2':Below w.heap.size w (w1.setCell ⟨g1,0,none⟩ (.int .u64 (E:Int))):=hbw1.setCell (p:=⟨g1,0,none⟩) (by show w.heap.size≤g1;have:=hbl.size;omega) _
    have HO2:=Lh ho2
    have ht2:2*x+b'<2*m:=by omega
    clear KA ho1 hb1 hD0 hE ho2
    go_wp2_with fail
    go_region_with ((go_at_call 124;refine KB.out.mono ?_;rintro e w' ⟨rfl,rfl⟩))
    all_goals
     have hbd:Below w.heap.size w (w1.setCell ⟨g1,0,none⟩ (.int .u64 (E:Int))).drew:=hb2'.drew
     have hod:Hid (By (w1.setCell ⟨g1,0,none⟩ (.int .u64 (E:Int))).drew g1 (len+1) (2*x+b')):=HO2.out
     generalize (w1.setCell ⟨g1,0,none⟩ (.int .u64 (E:Int))).drew=w2 at *
     clear HO2 HF HX HD0 hd0 c1 f1 hb2 hb2' hwr KB hbw1 hxm
     generalize 2*x+b'=t at *
     have KL:=Lh (Gz (some ⟨g1,0,none⟩) b (len+1) (len+1) lb cb t m w2 (hod.out.is _ (Nat.le_refl _)) (A6 HB.out hbd))
     have hlenI:(len:Int)≤(lb:Int):=by omega
     by_cases htm:t<m
     ·have HV:=Lh (show t=n/2^d%m by rw[← HN.out,Nat.mod_eq_of_lt htm])
      rw[decide_eq_true htm] at KL
      have HM:=Lh htm
      clear ht2 htm
      have hbq:=fun q=>AV hbd q
      have hoq:=fun q=>(show By (w2.drewN q) g1 (len+1) t from hod.out)
      have HBQ:=Lh hbq
      have HOQ:=Lh hoq
      clear hbq hoq
      by_cases hc:len=lb
      ·have q1:(lb:Int)<(len:Int)+1:=by omega
       have q2:(lb:Int)≤(len:Int)+1:=by omega
       have HC:=Lh hc
       clear hc
       go_wp2_with fail
       refine KL.out.mono ?_
       rintro e w3 ⟨rfl,nq,rfl⟩
       go_wp2_with fail
       go_roundw
       case rel=>exact⟨d,_,_,_,by omega,rfl,rfl,Ug ((HOQ.out nq).is _ (Nat.le_refl _)) lb (by have:=HC.out;omega) (by have h1:=HB.out.1;have h2:=HM.out;omega) |> fun h=>by rw[← HV.out];exact h,Nat.le_refl _,HBQ.out nq⟩
       case measure=>simp[intOf]
      ·have q1:decide ((lb:Int)<(len:Int)+1)=false:=by simp;omega
       have q2:(len:Int)+1≤(lb:Int):=by omega
       have HC:=Lh hc
       clear hc
       go_wp2_with fail
       refine KL.out.mono ?_
       rintro e w3 ⟨rfl,nq,rfl⟩
       go_wp2_with fail
       go_roundw
       case rel=>exact⟨d,_,_,_,by omega,rfl,rfl,by rw[← HV.out];exact (HOQ.out nq).is _ (Nat.le_refl _),by have:=HC.out;omega,HBQ.out nq⟩
       case measure=>simp[intOf]
     ·have HV:=Lh (show t-m=n/2^d%m by rw[← HN.out,Nat.mod_eq_sub_mod (by omega),Nat.mod_eq_of_lt (by omega)])
      rw[decide_eq_false htm] at KL
      have HM:=Lh (show t-m<m by omega)
      have KS:=Lh (fun q=>Gv (some ⟨g1,0,none⟩) b (len+1) (len+1) lb cb t m (w2.drewN q) (show IsN (w2.drewN q) _ _ _ _ from hod.out.is _ (Nat.le_refl _)) (A6 HB.out (AV hbd q)) (by omega))
      have HBQ:=Lh (fun q=>AV hbd q)
      clear ht2 htm
      by_cases hc:len=lb
      ·have q1:(lb:Int)<(len:Int)+1:=by omega
       have q2:(lb:Int)≤(len:Int)+1:=by omega
       have HC:=Lh hc
       clear hc
       go_wp2_with fail
       refine KL.out.mono ?_
       rintro e w3 ⟨rfl,nq,rfl⟩
       go_wp2_with fail
       refine (KS.out nq).mono ?_
       rintro e w4 ⟨rfl,ho4,hb4⟩
       have HO4:=Lh ho4
       have hb5:=(HBQ.out nq).trans (hb4.mono (HBQ.out nq).size)
       clear ho4 hb4
       go_wp2_with fail
       go_roundw
       case rel=>exact⟨d,_,_,_,by omega,rfl,rfl,Ug (HO4.out.is _ (Nat.le_refl _)) lb (by have:=HC.out;omega) (by have h1:=HB.out.1;have h2:=HM.out;omega) |> fun h=>by rw[← HV.out];exact h,Nat.le_refl _,hb5⟩
       case measure=>simp[intOf]
      ·have q1:decide ((lb:Int)<(len:Int)+1)=false:=by simp;omega
       have q2:(len:Int)+1≤(lb:Int):=by omega
       have HC:=Lh hc
       clear hc
       go_wp2_with fail
       refine KL.out.mono ?_
       rintro e w3 ⟨rfl,nq,rfl⟩
       go_wp2_with fail
       refine (KS.out nq).mono ?_
       rintro e w4 ⟨rfl,ho4,hb4⟩
       have HO4:=Lh ho4
       have hb5:=(HBQ.out nq).trans (hb4.mono (HBQ.out nq).size)
       clear ho4 hb4
       go_wp2_with fail
       go_roundw
       case rel=>exact⟨d,_,_,_,by omega,rfl,rfl,by rw[← HV.out];exact HO4.out.is _ (Nat.le_refl _),by have:=HC.out;omega,hb5⟩
       case measure=>simp[intOf]
theorem ZZ (l:List UInt8) (k:Nat):dg (leN l) k=(l.getD (2*k) 0).toNat+256*(l.getD (2*k+1) 0).toNat:=by
 have h1:=Pc l (2*k)
 have h2:=Pc l (2*k+1)
 unfold dg
 rw[show (65536:Nat)^k=256^(2*k) by rw[show (65536:Nat)=256^2 from rfl,← Nat.pow_mul]]
 rw[Nat.pow_succ,← Nat.div_div_eq_div_mul] at h2
 omega
theorem Nu (s:ByteArray) (k:Nat) (h:k<s.size):(s.data.toList.getD k 0).toNat=(s[k]'h).toNat:=by
 have h2:k<s.data.toList.length:=by rw[← Lib.size_eq s];exact h
 rw[List.getD_eq_getElem?_getD,List.getElem?_eq_getElem h2]
 rfl
theorem NA (p:Nat→Nat) (N:Nat):Bw p (N+1)=Bw p N++[.int .u64 (p N:Int)]:=by
 unfold Bw
 rw[List.range_succ,List.map_append]
 rfl
theorem fu {w:World} {base k n:Nat} {v:Value} (h:w.ownsRow base 22 1 v k (Bw (dg n) k)) (hn:n<65536^k) (hk:k≤200):∃ a cap,v=.slice a k cap∧IsN w a k cap n:=by
 obtain⟨_,⟨rfl,h0⟩ | ⟨g,cap,cur,rfl,h1,h2,h3,h4,h5,h6⟩⟩:=h
 ·subst h0
  exact⟨none,0,rfl,hn,by omega,.inl rfl⟩
 ·refine⟨_,cap,rfl,hn,hk,.inr ⟨g,rfl,h3,AU h2,fun i hi=>?_⟩⟩
  have hx:(cur.toList.take (k*1))[i]?=(Bw (dg n) k)[i]?:=congrArg (fun l:List Value=>l[i]?) h6
  rw[List.getElem?_take,if_pos (by omega),BC _ k i hi] at hx
  have hc:w.cell? ⟨g,i,none⟩=cur.toList[i]?:=by simp[World.cell?,h2]
  rw[hc,hx]
theorem V8 (s:ByteArray) (w:World) (hs:s.size≤100) :
    Calls Tryz.prog 152 #[.string s] w fun e w'=>∃ a cap k,e=.returned (.slice a k cap)∧IsN w' a k cap (leN s.data.toList)∧k≤51∧Below w.heap.size w w':=by
 obtain⟨i0,hi,hz0,hz1,hz2⟩:=info_parts Tryz.info_u64
 have hsl:=Lib.size_eq s
 go_enter Tryz.func152,Tryz.ntmps152
 go_wp2_with fail
 go_loopw [3,4] (fun v i wr=>∃ k:Nat,2*k≤s.size+1∧i=.int .i64 (2*(k:Int))∧wr.ownsRow w.heap.size 22 1 v k (Bw (dg (leN s.data.toList)) k)∧Below w.heap.size w wr) (fun _ i _=>s.size+1-(Go.RowKit.intOf i).toNat)
 case atStart=>exact⟨0,by omega,rfl,World.ownsRow_nil _ _ _ _,Below.refl _ _⟩
 case round =>
  obtain⟨k,hk,rfl,hown,hbe⟩:=hrel
  have HD:=Lh (ZZ s.data.toList k)
  by_cases hlt:2*k<s.size
  ·have p1:2*(k:Int)<(s.size:Int):=by omega
   have n0:(2*(k:Int)).toNat=2*k:=by omega
   have g1:=Nu s (2*k) hlt
   have h4:=(s[2*k]'hlt).toNat_lt
   obtain⟨c,hc⟩:=exzb ((s[2*k]'hlt).toNat)
   have hc':((s[2*k]'hlt).toNat:Int)=(c:Int):=by rw[hc]
   rw[hc] at h4 g1
   have sz:=hbe.size
   by_cases hl2:2*k+1<s.size
   ·have p2:2*(k:Int)+1<(s.size:Int):=by omega
    have n1:(2*(k:Int)+1).toNat=2*k+1:=by omega
    have g2:=Nu s (2*k+1) hl2
    have h5:=(s[2*k+1]'hl2).toNat_lt
    obtain⟨d,hd⟩:=exzb ((s[2*k+1]'hl2).toNat)
    have hd':((s[2*k+1]'hl2).toNat:Int)=(d:Int):=by rw[hd]
    rw[hd] at h5 g2
    have HD2:Hid (dg (leN s.data.toList) k=c+256*d):=by show _=_;rw[HD.out,g1,g2]
    have o1:IntKind.u64.wrap (256*(d:Int))=256*(d:Int):=IntWalk.u64_in _ (by omega)
    have o2:IntKind.u64.wrap ((c:Int)+256*(d:Int))=(c:Int)+256*(d:Int):=IntWalk.u64_in _ (by omega)
    clear HD g1 g2 hc hd hsl
    go_wp2_with (at_builtin;refine wpList_append_own _ (by rfl) (.tmp 29) (.tmp 31) 95 (by rfl) w.heap.size 22 i0 (.int .u64 0) 1 8 Tryz.underlying95 hi hz0 hz1 hz2 rfl (by decide) _ k _ (by simp[Act.eval];rfl) (by exact hown.alloc _) ⟨wr.heap.size,0,none⟩ 1 1 [.int .u64 ((c:Int)+256*(d:Int))] (by simp[Act.eval]) rfl (by exact BK wr #[_] _) (by simp[Value.oneCell']) (by unfold maxLen;omega) (by omega) (by simp;omega) ?_;intro v3 w3 hown3 hgrow3 _)
    go_roundw
    case rel =>
     refine⟨k+1,by omega,congrArg (Value.int .i64) (by omega),?_,(Al hbe _).grown hgrow3 (by rw[Ae];omega) (fun j hj=>(hown.lt j hj).1)⟩
     rw[NA,HD2.out]
     exact hown3
    case measure =>
     simp[Go.RowKit.intOf]
     omega
   ·have p2:¬ 2*(k:Int)+1<(s.size:Int):=by omega
    have g2:(s.data.toList.getD (2*k+1) 0).toNat=0:=by
     rw[List.getD_eq_getElem?_getD,List.getElem?_eq_none (by omega)]
     rfl
    have HD2:Hid (dg (leN s.data.toList) k=c):=by show _=_;rw[HD.out,g1,g2];rfl
    clear HD g1 g2 hc hsl
    go_wp2_with (at_builtin;refine wpList_append_own _ (by rfl) (.tmp 29) (.tmp 31) 95 (by rfl) w.heap.size 22 i0 (.int .u64 0) 1 8 Tryz.underlying95 hi hz0 hz1 hz2 rfl (by decide) _ k _ (by simp[Act.eval];rfl) (by exact hown.alloc _) ⟨wr.heap.size,0,none⟩ 1 1 [.int .u64 (c:Int)] (by simp[Act.eval]) rfl (by exact BK wr #[_] _) (by simp[Value.oneCell']) (by unfold maxLen;omega) (by omega) (by simp;omega) ?_;intro v3 w3 hown3 hgrow3 _)
    go_roundw
    case rel =>
     refine⟨k+1,by omega,congrArg (Value.int .i64) (by omega),?_,(Al hbe _).grown hgrow3 (by rw[Ae];omega) (fun j hj=>(hown.lt j hj).1)⟩
     rw[NA,HD2.out]
     exact hown3
    case measure =>
     simp[Go.RowKit.intOf]
     omega
  ·have p1:¬ 2*(k:Int)<(s.size:Int):=by omega
   have hN:leN s.data.toList<65536^k:=by
    refine Nat.lt_of_lt_of_le (J9 _) ?_
    rw[show (65536:Nat)^k=256^(2*k) by rw[show (65536:Nat)=256^2 from rfl,← Nat.pow_mul]]
    exact Nat.pow_le_pow_right (by decide) (by omega)
   obtain⟨a,cap,rfl,his⟩:=fu hown hN (by omega)
   have HI:=Lh his
   have hk51:k≤51:=by omega
   clear HD hown his hN hsl
   go_wp2_with fail
   go_ret
   exact⟨a,cap,k,rfl,HI.out,hk51,hbe⟩
def Xk:ByteArray:=⟨#[49,48,48,48,48,48,48,48,48,48,48,48,48,48,48,48,48,48,48,48,48,48,48,48,48,48,48,48,48,48,48,48,49,52,100,101,102,57,100,101,97,50,102,55,57,99,100,54,53,56,49,50,54,51,49,97,53,99,102,53,100,51,101,100]⟩
def IK:ByteArray:=⟨#[16,0,0,0,0,0,0,0,0,0,0,0,0,0,0,0,20,222,249,222,162,247,156,214,88,18,99,26,92,245,211,237]⟩
theorem NK:EP Xk=IK∧E6 Xk=0:=by
 have h:okP Xk.data.toList=true:=by decide +kernel
 refine⟨?_,?_⟩
 ·unfold EP
  rw[h]
  decide +kernel
 ·unfold E6
  rw[h]
  rfl
theorem ji:beN (IK.extract 24 32).data.toList=wd LN 0:=by decide +kernel
theorem Z7 (w:World):Calls Tryz.prog 62 #[.string (IK.extract 24 32)] w fun e w'=>e=.returned (.int .u64 (wd LN 0:Int))∧w=w':=by
 have h:=Gp (IK.extract 24 32) w (by rw[ByteArray.size_extract];omega)
 rw[ji] at h
 exact h
theorem je:beN (IK.extract 16 24).data.toList=wd LN 1:=by decide +kernel
theorem ab (w:World):Calls Tryz.prog 62 #[.string (IK.extract 16 24)] w fun e w'=>e=.returned (.int .u64 (wd LN 1:Int))∧w=w':=by
 have h:=Gp (IK.extract 16 24) w (by rw[ByteArray.size_extract];omega)
 rw[je] at h
 exact h
theorem jr:beN (IK.extract 8 16).data.toList=wd LN 2:=by decide +kernel
theorem Yf (w:World):Calls Tryz.prog 62 #[.string (IK.extract 8 16)] w fun e w'=>e=.returned (.int .u64 (wd LN 2:Int))∧w=w':=by
 have h:=Gp (IK.extract 8 16) w (by rw[ByteArray.size_extract];omega)
 rw[jr] at h
 exact h
theorem jo:beN (IK.extract 0 8).data.toList=wd LN 3:=by decide +kernel
theorem Yu (w:World):Calls Tryz.prog 62 #[.string (IK.extract 0 8)] w fun e w'=>e=.returned (.int .u64 (wd LN 3:Int))∧w=w':=by
 have h:=Gp (IK.extract 0 8) w (by rw[ByteArray.size_extract];omega)
 rw[jo] at h
 exact h
theorem It (w:World):Calls Tryz.prog 109 #[] w fun e w'=>∃ g,e=.returned (.slice (some ⟨g,0,none⟩) 16 16)∧By w' g 16 LN∧w.heap.size≤g∧Below w.heap.size w w':=by
 have K1:Hid (∀ w,Calls Tryz.prog 155 #[.string Xk] w fun e w'=>e=.returned (.tuple #[.string IK,.int .i64 0])∧Below w.heap.size w w'):=fun w=>by
  have h:=Tn Xk w (by decide)
  rw[NK.1,NK.2] at h
  exact h
 have G0:=Lh Z7
 have G1:=Lh ab
 have G2:=Lh Yf
 have G3:=Lh Yu
 have K2:=Lh (fun w=>CX LN w Hx)
 have hB:(IK.size:Int)=32:=rfl
 simp only[AL] at K2
 generalize IK=B at K1 G0 G1 G2 G3 hB
 generalize LN=Lv at K2 G0 G1 G2 G3 ⊢
 go_enter Tryz.func109,Tryz.ntmps109
 go_wp2_with fail
 refine (K1.out _).mono ?_
 rintro e w1 ⟨rfl,hb1⟩
 have HB1:=Lh hb1
 clear hb1
 go_wp2_with fail
 refine wp_loop_rounds 5 ?_
 rw[rounds_succ];go_wp2_with (go_at_call 62;refine (G0.out _).mono ?_;rintro e w' ⟨rfl,rfl⟩)
 rw[rounds_succ];go_wp2_with (go_at_call 62;refine (G1.out _).mono ?_;rintro e w' ⟨rfl,rfl⟩)
 rw[rounds_succ];go_wp2_with (go_at_call 62;refine (G2.out _).mono ?_;rintro e w' ⟨rfl,rfl⟩)
 rw[rounds_succ];go_wp2_with (go_at_call 62;refine (G3.out _).mono ?_;rintro e w' ⟨rfl,rfl⟩)
 rw[rounds_succ];go_wp2_with fail
 refine (K2.out _).mono ?_
 rintro e w2 ⟨g,rfl,ho,hg,hb2⟩
 have hsz:=HB1.out.size
 have hbf:=(Al HB1.out _).trans (hb2.mono (by rw[Ae];omega))
 have hgw:w.heap.size≤g:=by rw[Ae] at hg;omega
 have HO:=Lh ho
 have HBF:=Lh hbf
 clear ho hbf hb2 hg K1 K2 G0 G1 G2 G3
 go_wp2_with fail
 go_ret
 exact⟨g,rfl,HO.out,hgw,HBF.out⟩
theorem fH (a b n m:Nat) (w:World) (ha:By w a 16 n) (hb:By w b 16 m) :
    Calls Tryz.prog 107 #[.slice (some ⟨a,0,none⟩) 16 16,.slice (some ⟨b,0,none⟩) 16 16] w fun e w'=>∃ g,e=.returned (.slice (some ⟨g,0,none⟩) 17 17)∧By w' g 17 (n+m)∧w.heap.size≤g∧Below w.heap.size w w' :=
 Fe (some ⟨a,0,none⟩) (some ⟨b,0,none⟩) 16 16 16 16 n m w (ha.is 16 (Nat.le_refl _)) (hb.is 16 (Nat.le_refl _)) (by omega) (by omega)
theorem gL (a b n m:Nat) (w:World) (ha:By w a 16 n) (hb:By w b 16 m) :
    Calls Tryz.prog 110 #[.slice (some ⟨a,0,none⟩) 16 16,.slice (some ⟨b,0,none⟩) 16 16] w fun e w'=>∃ g,e=.returned (.slice (some ⟨g,0,none⟩) 32 32)∧By w' g 32 (n*m)∧w.heap.size≤g∧Below w.heap.size w w' :=
 Md a b 16 16 16 16 n m w (ha.is 16 (Nat.le_refl _)) (hb.is 16 (Nat.le_refl _)) (by omega) (by omega) (by omega) (by omega)
theorem Re (a la ca b n:Nat) (w:World) (ha:IsN w (some ⟨a,0,none⟩) la ca n) (hb:By w b 16 LN) (sa:la≤100) :
    Calls Tryz.prog 106 #[.slice (some ⟨a,0,none⟩) la ca,.slice (some ⟨b,0,none⟩) 16 16] w fun e w'=>∃ g cap,∃ len,e=.returned (.slice g len cap)∧IsN w' g len cap (n%LN)∧len≤16∧Below w.heap.size w w' :=
 Rr (some ⟨a,0,none⟩) (some ⟨b,0,none⟩) la ca 16 16 n LN w ha (hb.is 16 (Nat.le_refl _)) FL sa (by omega)
theorem JT (n:Nat):n%LN<B64^4:=Nat.lt_trans (Nat.mod_lt _ FL) Hx
theorem Ym (a b:Nat) (w:World) (ha:a<B64^4) (hb:b<B64^4) :
    Calls Tryz.prog 46 #[Aa a,Aa b] w fun e w'=>e=.returned (Aa ((a+b)%LN))∧Below w.heap.size w w':=by
 have KA:=Lh (fun w=>CX a w ha)
 have KB:=Lh (fun w=>CX b w hb)
 have KO:=Lh It
 have KR:=Lh Re
 have KM:=Lh (fun g h w=>fH g h a b w)
 have KT:=Lh (fun q la ca w h=>Qf q la ca ((a+b)%LN) w h (JT _))
 obtain⟨xa,xb,xr,xz,xB⟩:=Un a b 23 w
 obtain⟨R,hR⟩:=exzb ((a+b)%LN)
 have HR:=Lh hR
 rw[hR] at KT ⊢
 simp only[AL] at KA KB KT ⊢
 clear hR ha hb
 go_enter Tryz.func46,Tryz.ntmps46
 go_wp2_with fail
 change Code.wp _ _ _ _ (M3 a b 23 w)
 generalize M3 a b 23 w=X at *
 obtain⟨⟨p0,p1,p2,p3⟩,_⟩:=Aq xa
 obtain⟨⟨q0,q1,q2,q3⟩,_⟩:=Aq xb
 have XA:=Lh xa
 have XB:=Lh xb
 have XR:=Lh xr
 have HXB:=Lh xB
 clear xa xb xr xB
 have hne1:w.heap.size≠w.heap.size+1+1:=by omega
 have hne2:w.heap.size+1≠w.heap.size+1+1:=by omega
 go_region_held3 (fun w'=>w'.cell? ⟨w.heap.size,0,none⟩=some (.int .u64 (wd a 0:Int))∧w'.cell? ⟨w.heap.size,1,none⟩=some (.int .u64 (wd a 1:Int))∧w'.cell? ⟨w.heap.size,2,none⟩=some (.int .u64 (wd a 2:Int))∧w'.cell? ⟨w.heap.size,3,none⟩=some (.int .u64 (wd a 3:Int))∧w'.cell? ⟨w.heap.size+1,0,none⟩=some (.int .u64 (wd b 0:Int))∧w'.cell? ⟨w.heap.size+1,1,none⟩=some (.int .u64 (wd b 1:Int))∧w'.cell? ⟨w.heap.size+1,2,none⟩=some (.int .u64 (wd b 2:Int))∧w'.cell? ⟨w.heap.size+1,3,none⟩=some (.int .u64 (wd b 3:Int))) (first | (with_reducible exact⟨p0,p1,p2,p3,q0,q1,q2,q3⟩) | (with_reducible exact Db r3 s3) | (with_reducible exact Db r4 s4) | (with_reducible exact Db r5 s5) | (with_reducible exact Db r6 s6) | (with_reducible exact Db r7 s7) | (with_reducible exact Db r8 s8) | (with_reducible exact Db (r8.far hne1) (s8.far hne2)) | go_keep) (first
  | (go_at_call_of 108 (Value.agg #[.int .u64 (wd a 0:Int),.int .u64 (wd a 1:Int),.int .u64 (wd a 2:Int),.int .u64 (wd a 3:Int)]);go_must (refine (KA.out _).mono ?_);rintro e w3 ⟨g1,rfl,ho1,hg1,hb3⟩
     have r3:=(show IsA X.drew _ _ _ from XA.out).keep hb3
     have s3:=(show IsA X.drew _ _ _ from XB.out).keep hb3
     have x3:=(show IsA X.drew _ _ _ from XR.out).keep hb3
     have B3:=HXB.out.drew.trans (hb3.mono HXB.out.size)
     obtain⟨⟨k0,k1,k2,k3⟩,_⟩:=Aq r3
     obtain⟨⟨l0,l1,l2,l3⟩,_⟩:=Aq s3)
  | (go_at_call_of 108 (Value.agg #[.int .u64 (wd b 0:Int),.int .u64 (wd b 1:Int),.int .u64 (wd b 2:Int),.int .u64 (wd b 3:Int)]);go_must (refine (KB.out _).mono ?_);rintro e w4 ⟨g2,rfl,ho2,hg2,hb4⟩
     have r4:=r3.keep hb4
     have s4:=s3.keep hb4
     have x4:=x3.keep hb4
     have B4:=B3.trans (hb4.mono B3.size)
     have ho1b:=ho1.below hb4)
  | (go_at_call 107;go_must (refine (KM.out g1 g2 _ ho1b ho2).mono ?_);rintro e w5 ⟨g3,rfl,ho3,hg3,hb5⟩
     have r5:=r4.keep hb5
     have s5:=s4.keep hb5
     have x5:=x4.keep hb5
     have B5:=B4.trans (hb5.mono B4.size))
  | (go_at_call 109;go_must (refine (KO.out _).mono ?_);rintro e w6 ⟨g4,rfl,ho4,hg4,hb6⟩
     have r6:=r5.keep hb6
     have s6:=s5.keep hb6
     have x6:=x5.keep hb6
     have B6:=B5.trans (hb6.mono B5.size)
     have ho3b:=(ho3.below hb6).is 17 (Nat.le_refl _))
  | (go_at_call 106;go_must (refine (KR.out g3 17 17 g4 _ _ ho3b ho4 (by omega)).mono ?_);rintro e w7 ⟨g5,c5,n5,rfl,ho5,hl5,hb7⟩
     have r7:=r6.keep hb7
     have s7:=s6.keep hb7
     have x7:=x6.keep hb7
     have B7:=B6.trans (hb7.mono B6.size)
     rw[HR.out] at ho5)
  | (go_at_call 105;go_must (refine (KT.out g5 n5 c5 _ ho5).mono ?_);rintro e w8 ⟨rfl,hb8⟩
     have r8:=r7.keep hb8
     have s8:=s7.keep hb8
     have x8:=x7.keep hb8
     have B8:=B7.trans (hb8.mono B7.size)
     obtain⟨⟨d0,d1,d2,d3⟩,e0,e1,e2,e3⟩:=Aq x8))
 all_goals
  have KL:=Lh (BU (AN (n:=R) x8))
  have BR:=Lh (Bg (v0:=.int .u64 (wd R 0:Int)) (v1:=.int .u64 (wd R 1:Int)) (v2:=.int .u64 (wd R 2:Int)) (v3:=.int .u64 (wd R 3:Int)) B8 (b:=w.heap.size+1+1) (by omega))
  go_wp2_with fail
  exact bodyPost_ret (Ap Tryz.results46 (by rfl) KL.out) rfl ⟨rfl,BR.out⟩
theorem ON (a b:Nat) (w:World) (ha:a<B64^4) (hb:b<B64^4) :
    Calls Tryz.prog 47 #[Aa a,Aa b] w fun e w'=>e=.returned (Aa ((a*b)%LN))∧Below w.heap.size w w':=by
 have KA:=Lh (fun w=>CX a w ha)
 have KB:=Lh (fun w=>CX b w hb)
 have KO:=Lh It
 have KR:=Lh Re
 have KM:=Lh (fun g h w=>gL g h a b w)
 have KT:=Lh (fun q la ca w h=>Qf q la ca ((a*b)%LN) w h (JT _))
 obtain⟨xa,xb,xr,xz,xB⟩:=Un a b 23 w
 obtain⟨R,hR⟩:=exzb ((a*b)%LN)
 have HR:=Lh hR
 rw[hR] at KT ⊢
 simp only[AL] at KA KB KT ⊢
 clear hR ha hb
 go_enter Tryz.func47,Tryz.ntmps47
 go_wp2_with fail
 change Code.wp _ _ _ _ (M3 a b 23 w)
 generalize M3 a b 23 w=X at *
 obtain⟨⟨p0,p1,p2,p3⟩,_⟩:=Aq xa
 obtain⟨⟨q0,q1,q2,q3⟩,_⟩:=Aq xb
 have XA:=Lh xa
 have XB:=Lh xb
 have XR:=Lh xr
 have HXB:=Lh xB
 clear xa xb xr xB
 have hne1:w.heap.size≠w.heap.size+1+1:=by omega
 have hne2:w.heap.size+1≠w.heap.size+1+1:=by omega
 go_region_held3 (fun w'=>w'.cell? ⟨w.heap.size,0,none⟩=some (.int .u64 (wd a 0:Int))∧w'.cell? ⟨w.heap.size,1,none⟩=some (.int .u64 (wd a 1:Int))∧w'.cell? ⟨w.heap.size,2,none⟩=some (.int .u64 (wd a 2:Int))∧w'.cell? ⟨w.heap.size,3,none⟩=some (.int .u64 (wd a 3:Int))∧w'.cell? ⟨w.heap.size+1,0,none⟩=some (.int .u64 (wd b 0:Int))∧w'.cell? ⟨w.heap.size+1,1,none⟩=some (.int .u64 (wd b 1:Int))∧w'.cell? ⟨w.heap.size+1,2,none⟩=some (.int .u64 (wd b 2:Int))∧w'.cell? ⟨w.heap.size+1,3,none⟩=some (.int .u64 (wd b 3:Int))) (first | (with_reducible exact⟨p0,p1,p2,p3,q0,q1,q2,q3⟩) | (with_reducible exact Db r3 s3) | (with_reducible exact Db r4 s4) | (with_reducible exact Db r5 s5) | (with_reducible exact Db r6 s6) | (with_reducible exact Db r7 s7) | (with_reducible exact Db r8 s8) | (with_reducible exact Db (r8.far hne1) (s8.far hne2)) | go_keep) (first
  | (go_at_call_of 108 (Value.agg #[.int .u64 (wd a 0:Int),.int .u64 (wd a 1:Int),.int .u64 (wd a 2:Int),.int .u64 (wd a 3:Int)]);go_must (refine (KA.out _).mono ?_);rintro e w3 ⟨g1,rfl,ho1,hg1,hb3⟩
     have r3:=(show IsA X.drew _ _ _ from XA.out).keep hb3
     have s3:=(show IsA X.drew _ _ _ from XB.out).keep hb3
     have x3:=(show IsA X.drew _ _ _ from XR.out).keep hb3
     have B3:=HXB.out.drew.trans (hb3.mono HXB.out.size)
     obtain⟨⟨k0,k1,k2,k3⟩,_⟩:=Aq r3
     obtain⟨⟨l0,l1,l2,l3⟩,_⟩:=Aq s3)
  | (go_at_call_of 108 (Value.agg #[.int .u64 (wd b 0:Int),.int .u64 (wd b 1:Int),.int .u64 (wd b 2:Int),.int .u64 (wd b 3:Int)]);go_must (refine (KB.out _).mono ?_);rintro e w4 ⟨g2,rfl,ho2,hg2,hb4⟩
     have r4:=r3.keep hb4
     have s4:=s3.keep hb4
     have x4:=x3.keep hb4
     have B4:=B3.trans (hb4.mono B3.size)
     have ho1b:=ho1.below hb4)
  | (go_at_call 110;go_must (refine (KM.out g1 g2 _ ho1b ho2).mono ?_);rintro e w5 ⟨g3,rfl,ho3,hg3,hb5⟩
     have r5:=r4.keep hb5
     have s5:=s4.keep hb5
     have x5:=x4.keep hb5
     have B5:=B4.trans (hb5.mono B4.size))
  | (go_at_call 109;go_must (refine (KO.out _).mono ?_);rintro e w6 ⟨g4,rfl,ho4,hg4,hb6⟩
     have r6:=r5.keep hb6
     have s6:=s5.keep hb6
     have x6:=x5.keep hb6
     have B6:=B5.trans (hb6.mono B5.size)
     have ho3b:=(ho3.below hb6).is 32 (Nat.le_refl _))
  | (go_at_call 106;go_must (refine (KR.out g3 32 32 g4 _ _ ho3b ho4 (by omega)).mono ?_);rintro e w7 ⟨g5,c5,n5,rfl,ho5,hl5,hb7⟩
     have r7:=r6.keep hb7
     have s7:=s6.keep hb7
     have x7:=x6.keep hb7
     have B7:=B6.trans (hb7.mono B6.size)
     rw[HR.out] at ho5)
  | (go_at_call 105;go_must (refine (KT.out g5 n5 c5 _ ho5).mono ?_);rintro e w8 ⟨rfl,hb8⟩
     have r8:=r7.keep hb8
     have s8:=s7.keep hb8
     have x8:=x7.keep hb8
     have B8:=B7.trans (hb8.mono B7.size)
     obtain⟨⟨d0,d1,d2,d3⟩,e0,e1,e2,e3⟩:=Aq x8))
 all_goals
  have KL:=Lh (BU (AN (n:=R) x8))
  have BR:=Lh (Bg (v0:=.int .u64 (wd R 0:Int)) (v1:=.int .u64 (wd R 1:Int)) (v2:=.int .u64 (wd R 2:Int)) (v3:=.int .u64 (wd R 3:Int)) B8 (b:=w.heap.size+1+1) (by omega))
  go_wp2_with fail
  exact bodyPost_ret (Ap Tryz.results47 (by rfl) KL.out) rfl ⟨rfl,BR.out⟩
def Z4 (w:World):World:=w.alloc (.cells #[.int .u64 0,.int .u64 0,.int .u64 0,.int .u64 0] 23)
theorem gW (w:World):IsA (Z4 w) w.heap.size 0 23∧(Z4 w).heap.size=w.heap.size+1∧Below w.heap.size w (Z4 w):=⟨CE (Aj w _),by unfold Z4;simp,Al (Below.refl _ _) _⟩
theorem Xc (a:Option Addr) (la ca b n:Nat) (w:World) (ha:IsN w a la ca n) (hb:By w b 16 LN) (sa:la≤100) :
    Calls Tryz.prog 106 #[.slice a la ca,.slice (some ⟨b,0,none⟩) 16 16] w fun e w'=>∃ g cap,∃ len,e=.returned (.slice g len cap)∧IsN w' g len cap (n%LN)∧len≤16∧Below w.heap.size w w' :=
 Rr a (some ⟨b,0,none⟩) la ca 16 16 n LN w ha (hb.is 16 (Nat.le_refl _)) FL sa (by omega)
theorem QH (s:ByteArray) (w:World) (hs:s.size≤100) :
    Calls Tryz.prog 103 #[.string s] w fun e w'=>e=.returned (Aa (leN s.data.toList%LN))∧Below w.heap.size w w':=by
 have K1:=Lh (fun w=>V8 s w hs)
 have K2:=Lh It
 have K3:=Lh (fun q la ca b n w h1 h2 h3=>Xc q la ca b n w h1 h2 h3)
 have K4:=Lh (fun q la ca w h=>Qf q la ca (leN s.data.toList%LN) w h (JT _))
 obtain⟨xr,xz,xB⟩:=gW w
 obtain⟨R,hR⟩:=exzb (leN s.data.toList%LN)
 have HR:=Lh hR
 rw[hR] at K4 ⊢
 simp only[AL] at K4 ⊢
 clear hR hs
 go_enter Tryz.func103,Tryz.ntmps103
 go_wp2_with fail
 change Calls _ _ _ (Z4 w) _
 generalize Z4 w=X at *
 refine (K1.out X).mono ?_
 rintro e w1 ⟨a1,c1,k1,rfl,hl1,hk1,hb1⟩
 have xr1:=xr.keep hb1
 have B1:=xB.trans (hb1.mono (by omega))
 go_wp2_with fail
 refine (K2.out w1).mono ?_
 rintro e w2 ⟨g2,rfl,ho2,hg2,hb2⟩
 have xr2:=xr1.keep hb2
 have B2:=B1.trans (hb2.mono B1.size)
 have hl2:=A6 hl1 hb2
 go_wp2_with fail
 refine (K3.out a1 k1 c1 g2 _ w2 hl2 ho2 (by omega)).mono ?_
 rintro e w3 ⟨g3,c3,n3,rfl,hl3,hn3,hb3⟩
 have xr3:=xr2.keep hb3
 have B3:=B2.trans (hb3.mono B2.size)
 rw[HR.out] at hl3
 go_wp2_with fail
 refine (K4.out g3 n3 c3 w3 hl3).mono ?_
 rintro e w4 ⟨rfl,hb4⟩
 have xr4:=AT (xr3.keep hb4)
 have B4:=B3.trans (hb4.mono B3.size)
 obtain⟨⟨d0,d1,d2,d3⟩,e0,e1,e2,e3⟩:=Aq xr4
 have KL:=Lh (BU (AN (n:=R) xr4))
 have BR:=Lh (Bg (v0:=.int .u64 (wd R 0:Int)) (v1:=.int .u64 (wd R 1:Int)) (v2:=.int .u64 (wd R 2:Int)) (v3:=.int .u64 (wd R 3:Int)) B4 (b:=w.heap.size) (Nat.le_refl _))
 clear xr xr1 xr2 xr3 xr4 B1 B2 B3 B4 xB hb1 hb2 hb3 hb4 hl1 hl2 hl3 ho2 K1 K2 K3 K4
 go_wp2_with fail
 exact bodyPost_ret (Ap Tryz.results103 (by rfl) KL.out) rfl ⟨rfl,BR.out⟩
theorem RQ (n:Nat) (w:World) (hn:n<B64^4) :
    Calls Tryz.prog 51 #[Aa n] w fun e w'=>e=.returned (.bool (decide (n<LN)))∧Below w.heap.size w w':=by
 have K1:=Lh (fun w=>CX n w hn)
 have K2:=Lh It
 have K3:=Lh (fun a b w (h1:By w a 16 n) (h2:By w b 16 LN)=>Gz (some ⟨a,0,none⟩) (some ⟨b,0,none⟩) 16 16 16 16 n LN w (h1.is 16 (Nat.le_refl _)) (h2.is 16 (Nat.le_refl _)))
 obtain⟨D,hD⟩:=exzb (decide (n<LN))
 rw[hD] at K3 ⊢
 simp only[AL] at K1 ⊢
 clear hD hn
 go_enter Tryz.func51,Tryz.ntmps51
 go_wp2_with fail
 refine (K1.out _).mono ?_
 rintro e w1 ⟨g1,rfl,ho1,hg1,hb1⟩
 have B1:=(Al (Below.refl w.heap.size w) _).trans (hb1.mono (by rw[Ae];omega))
 go_wp2_with fail
 refine (K2.out w1).mono ?_
 rintro e w2 ⟨g2,rfl,ho2,hg2,hb2⟩
 have B2:=B1.trans (hb2.mono B1.size)
 go_wp2_with fail
 refine (K3.out g1 g2 w2 (ho1.below hb2) ho2).mono ?_
 rintro e w3 ⟨rfl,nq,rfl⟩
 have BB:=Lh (AV B2 nq)
 clear B1 B2 hb1 hb2 ho1 ho2 hg1 hg2 K1 K2 K3
 go_wp2_with fail
 go_ret
 exact⟨rfl,BB.out⟩
end Go.Proofs.YtnaldciakclccaaGreat
