/- What Unhex of octet and of the reference answer. Keys' numbers and points (layer 24): which they are. Strings in texts of whole rows: index, slice, sum, length. No program in it. pcode: bytes of a number and of its parts (layer 21). The reference's Encode, Number, Decode (layer 21): their contracts. Calls, one behind the other, in a region that draws its order and whose other operations are taken first. No program in it. -/
import Derived.Lib.Strings
import Derived.Test.YtnaldciakclccaaGreatEk25
import Derived.Test.YtnaldciakclccaaGreatShelfIdx
import Derived.Test.YtnaldciakclccaaGreatEk16
import Derived.Test.YtnaldciakclccaaGreatEk18
import Derived.Test.YtnaldciakclccaaGreatEk19
import Derived.Test.YtnaldciakclccaaGreatEk15
import Derived.Test.YtnaldciakclccaaGreatEk20
namespace Go.Proofs.YtnaldciakclccaaGreat
set_option maxRecDepth 20000
set_option linter.unusedSimpArgs false
set_option linter.unusedVariables false
open Go.RowKit
/-- What a digit stands for; -1: none. -/
def dv (c:UInt8):Int:=Lib.indexByte [48,49,50,51,52,53,54,55,56,57,97,98,99,100,101,102] c
/-- The reference's value of a sign. -/
def rv (c:UInt8):Int:=if 97≤c∧c≤102 then (c.toNat:Int)-87 else (c.toNat:Int)%16
theorem all_bytes (p:UInt8→Bool) (h:(List.range 256).all (fun n=>p (UInt8.ofNat n))=true) (c:UInt8):p c=true:=by
 have h1:=List.all_eq_true.1 h c.toNat (List.mem_range.2 c.toNat_lt)
 simpa using h1
theorem dv_facts (c:UInt8) : -1≤dv c∧dv c<16∧(0≤dv c→rv c=dv c∧ofI (hexd (dv c))=c):=by
 have h:=all_bytes (fun c=>decide (-1≤dv c∧dv c<16∧(0≤dv c→rv c=dv c∧ofI (hexd (dv c))=c))) (by decide +kernel) c
 exact of_decide_eq_true h
/-- Pairs of signs as bytes; are all of them digits? -/
def pairsL:List UInt8→List UInt8
 | a::b::r=>ofI (dv a*16+dv b)::pairsL r
 | _=>[]
def rpairsL:List UInt8→List UInt8
 | a::b::r=>ofI (16*rv a+rv b)::rpairsL r
 | _=>[]
def okP:List UInt8→Bool
 | a::b::r=>decide (0≤dv a) && decide (0≤dv b) && okP r
 | [_]=>false
 | []=>true
theorem pairs_snoc:∀ (l:List UInt8) (k:Nat) (a b:UInt8),l.length=2*k→pairsL (l++[a,b])=pairsL l++[ofI (dv a*16+dv b)]∧rpairsL (l++[a,b])=rpairsL l++[ofI (16*rv a+rv b)]∧okP (l++[a,b])=(okP l && (decide (0≤dv a) && decide (0≤dv b)))
 | [],_,a,b,_=>by simp[pairsL,rpairsL,okP]
 | [x],k,_,_,h=>by simp at h;omega
 | x::y::r,k,a,b,h=>by
   obtain⟨h1,h2,h3⟩:=pairs_snoc r (k-1) a b (by simp at h;omega)
   simp only[List.cons_append,pairsL,rpairsL,okP,h1,h2,h3]
   refine⟨trivial,trivial,?_⟩
   simp[Bool.and_assoc]
theorem okP_bad:∀ (l:List UInt8) (k:Nat) (a b:UInt8) (r:List UInt8),l.length=2*k→(decide (0≤dv a) && decide (0≤dv b))=false→okP (l++a::b::r)=false
 | [],_,a,b,r,_,h=>by simp only[List.nil_append,okP,h,Bool.false_and]
 | [x],k,_,_,_,h,_=>by simp at h;omega
 | x::y::t,k,a,b,r,h,hb=>by
   have h1:=okP_bad t (k-1) a b r (by simp at h;omega) hb
   simp only[List.cons_append,okP,h1,Bool.and_false]
theorem or_digits (x y:Int) (x0:0≤x) (x1:x<16) (y0:0≤y) (y1:y<16):bits .or .i64 (x*16) y=x*16+y:=by
 obtain⟨a,rfl⟩:=Int.eq_ofNat_of_zero_le x0
 obtain⟨b,rfl⟩:=Int.eq_ofNat_of_zero_le y0
 have h:(List.range 16).all (fun a=>(List.range 16).all fun b=>decide (bits .or .i64 ((a:Int)*16) (b:Int)=(a:Int)*16+b))=true:=by decide +kernel
 have h1:=List.all_eq_true.1 h a (List.mem_range.2 (by omega))
 have h2:=List.all_eq_true.1 h1 b (List.mem_range.2 (by omega))
 exact of_decide_eq_true h2
theorem idx_any (c:UInt8) (w:World) :
    Calls Tryz.prog 56 #[.string ⟨#[48,49,50,51,52,53,54,55,56,57,97,98,99,100,101,102]⟩,.int .u8 (c.toNat:Int)] w fun e w'=>e=.returned (.int .i64 (dv c))∧w'=w:=by
 refine (Tryz.strings_IndexByte _ _ w).mono ?_
 rintro e w' ⟨rfl,rfl⟩
 refine⟨ret_int ?_,rfl⟩
 have e1:((c.toNat:Int).toNat).toUInt8=c:=by simp
 rw[e1];rfl
theorem take_two (l:List UInt8) (k:Nat) (h:2*k+1<l.length):l.take (2*(k+1))=l.take (2*k)++[l[2*k],l[2*k+1]]∧l=l.take (2*k)++l[2*k]::l[2*k+1]::l.drop (2*k+2):=by
 refine⟨?_,?_⟩
 ·rw[show 2*(k+1)=2*k+1+1 from by omega,List.take_succ_eq_append_getElem h,List.take_succ_eq_append_getElem (by omega:2*k<l.length),List.append_assoc];rfl
 ·have h1:l.drop (2*k)=l[2*k]::l[2*k+1]::l.drop (2*k+2):=by
    rw[List.drop_eq_getElem_cons (by omega:2*k<l.length),List.drop_eq_getElem_cons h]
  rw[← h1,List.take_append_drop]
/-- What Unhex answers: the bytes, and the error's number. -/
def unhexS (s:ByteArray):ByteArray:=if okP s.data.toList then ⟨(pairsL s.data.toList).toArray⟩ else ⟨#[]⟩
def unhexE (s:ByteArray):Int:=if okP s.data.toList then 0 else 6
theorem unhex_even (s:ByteArray) (w:World) (n:Nat) (hs:s.size=2*n) (hn:n≤50000) :
    Calls Tryz.prog 19 #[.string s] w fun e w'=>e=.returned (.tuple #[.string (unhexS s),.int .i64 (unhexE s)])∧Below w.heap.size w w':=by
 obtain⟨i0,hi,hz0,hz1,hz2⟩:=info_parts Tryz.info_u8
 have hn':s.size/2=n:=by omega
 have Hs:=Lib.hid hs
 have t:((s.size:Int)%2 != 0)=false:=by simp;omega
 have t2:s.size≤100000:=by omega
 clear hs hn'
 go_enter Tryz.func19,Tryz.ntmps19
 go_wp2_with (at_make;refine wpList_make_own _ rfl (.const (.int .i64 0)) (.tmp 14) 90 rfl w.heap.size 5 i0 (.int .u8 0) 1 Tryz.underlying90 hi hz0 hz1 .i64 .i64 ((s.size/2:Nat):Int) (s.size/2) rfl (by simp[Act.eval]) rfl (by rw[hz2];omega) (by unfold maxLen;omega) (Nat.le_refl _) ?_;intro w1 hown1 hgrow1)
 go_loopw [4,5] (fun v i wr=>∃ k:Nat,k≤n∧i=.int .i64 (2*(k:Int))∧wr.ownsRow w.heap.size 5 1 v k ((pairsL (s.data.toList.take (2*k))).map bc)∧okP (s.data.toList.take (2*k))=true∧Below w.heap.size w wr) (fun _ i _=>s.size-(intOf i).toNat)
 case atStart=>exact⟨0,by omega,rfl,hown1,rfl,(Below.refl _ _).grown hgrow1 (Nat.le_refl _) (by simp)⟩
 case round =>
  obtain⟨k,hk,rfl,hown,hok,hb⟩:=hrel
  by_cases hlt:k<n
  ·have hsz:2*k+1<s.size:=by have:=Hs.out;omega
   have q1:2*(k:Int)<(s.size:Int):=by omega
   have q2:2*(k:Int)+1<(s.size:Int):=by omega
   have q0:2*k<s.size:=by omega
   have hlen:s.data.toList.length=s.size:=Array.length_toList
   have TT:=Lib.hid (take_two s.data.toList k (by omega))
   obtain⟨a,ha⟩:∃ a,a=s[2*k]:=⟨_,rfl⟩
   obtain⟨b,hb'⟩:∃ b,b=s[2*k+1]:=⟨_,rfl⟩
   have ea:s.data.toList[2*k]'(by omega)=a:=ha.symm
   have eb:s.data.toList[2*k+1]'(by omega)=b:=hb'.symm
   have TS:=Lib.hid (TT.out.1.trans (by rw[ea,eb]:_=s.data.toList.take (2*k)++[a,b]))
   have TD:=Lib.hid (TT.out.2.trans (by rw[ea,eb]:_=s.data.toList.take (2*k)++a::b::s.data.toList.drop (2*k+2)))
   have PS:=Lib.hid (pairs_snoc (s.data.toList.take (2*k)) k a b (by rw[List.length_take];omega))
   have PB:=fun h=>okP_bad (s.data.toList.take (2*k)) k a b (s.data.toList.drop (2*k+2)) (by rw[List.length_take];omega) h
   obtain⟨a1,a2,_⟩:=dv_facts a
   obtain⟨b1,b2,_⟩:=dv_facts b
   have PB':=Lib.hid PB
   have ha':s[2*k]=a:=ha.symm
   have hb'':s[2*k+1]=b:=hb'.symm
   clear ea eb PB ha hb' TT hlen
   have sum1:IntKind.i64.wrap (2*(k:Int)+1)=2*k+1:=IntWalk.i64_in _ (by omega)
   have nat1:(2*(k:Int)+1).toNat=2*k+1:=by omega
   have nat0:(2*(k:Int)).toNat=2*k:=by omega
   by_cases d1:0≤dv a
   ·by_cases d2:0≤dv b
    ·have o1:=or_digits (dv a) (dv b) d1 a2 d2 b2
     have o2:IntKind.i64.wrap (dv a*16)=dv a*16:=IntWalk.i64_in _ (by omega)
     have o3:IntKind.u8.wrap (dv a*16+dv b)=dv a*16+dv b:=by rw[IntKind.wrap_u8'];omega
     go_wp2_with fail
     go_quiet ((go_at_call 56;exact Calls.quiet_of_same (idx_any _ _)))
     go_wp2_with (at_builtin;refine wpList_append_own _ (by rfl) (.tmp 37) (.tmp 43) 90 (by rfl) w.heap.size 5 i0 (.int .u8 0) 1 1 Tryz.underlying90 hi hz0 hz1 hz2 rfl (by decide) _ k _ (by simp[Act.eval];rfl) (by exact hown.alloc _) ⟨wr.heap.size,0,none⟩ 1 1 [.int .u8 (dv a*16+dv b)] (by simp[Act.eval]) rfl (by exact news_new wr #[_] _) (by simp[Value.oneCell']) (by unfold maxLen;omega) (by omega) (by have:=hb.size;simp;omega) ?_;intro v2 w2 hown2 hgrow2 _)
     go_roundw
     case rel =>
      obtain⟨p1,_,p3⟩:=PS.out
      refine⟨k+1,by omega,congrArg (Value.int .i64) (by omega),?_,?_,((below_drewN hb _).alloc hb.size _).grown hgrow2 (by have:=hb.size;simp;omega) (fun j hj=>(hown.lt j hj).1)⟩
      ·rw[TS.out,p1,List.map_append,List.map_cons,List.map_nil,bc_ofI _ (by omega) (by omega)]
       exact hown2
      ·rw[TS.out,p3,hok];simp;omega
     case measure=>simp[intOf];omega
    ·go_wp2_with fail
     go_quiet ((go_at_call 56;exact Calls.quiet_of_same (idx_any _ _)))
     go_wp2_with fail
     go_ret2
     have hbad:okP s.data.toList=false:=by rw[TD.out];exact PB'.out (by simp;omega)
     exact⟨by simp only[unhexS,unhexE,hbad];rfl,below_drewN hb _⟩
   ·go_wp2_with fail
    go_quiet ((go_at_call 56;exact Calls.quiet_of_same (idx_any _ _)))
    go_wp2_with fail
    go_ret2
    have hbad:okP s.data.toList=false:=by rw[TD.out];exact PB'.out (by simp;omega)
    exact⟨by simp only[unhexS,unhexE,hbad];rfl,below_drewN hb _⟩
  ·obtain rfl:k=n:=by omega
   have hL:s.data.toList.take (2*k)=s.data.toList:=List.take_of_length_le (by have:=Hs.out;have h2:s.data.toList.length=s.size:=Array.length_toList;omega)
   rw[hL] at hown hok
   have ks:=own_string (P:=Tryz.prog) (t:=90) (ty:=9) Tryz.underlying90 Tryz.underlying5 Tryz.underlying9 hown
   have q1:(s.size:Int)≤2*(k:Int):=by have:=Hs.out;omega
   have E1:=Lib.hid (by simp only[unhexS,hok];rfl:unhexS s=⟨(pairsL s.data.toList).toArray⟩)
   have E2:=Lib.hid (by simp only[unhexE,hok];rfl:unhexE s=0)
   clear hL hok
   go_wp2_with fail
   go_ret2
   exact⟨ret_si E1.out.symm E2.out.symm,hb⟩
open Go.RowKit Go.Sort
theorem clN_lt (n:Nat):clN n<B64^4:=by
 have hB:B64=18446744073709551616:=rfl
 exact valW_lt _ (fun k=>by
  have h1:=wd_lt n 0
  have h2:=wd_lt n k
  have h3:=Nat.div_mul_le_self (wd n 0) 8
  have h4:wd n 3%4611686018427387904<4611686018427387904:=Nat.mod_lt _ (by decide)
  rw[hB]
  split
  ·omega
  ·split
   ·omega
   ·exact h2) 4
theorem clN_top (n:Nat):wd (clN n) 3=wd n 3%4611686018427387904+4611686018427387904:=clN_word n 3 (by decide)
theorem clN_8 (n:Nat):clN n%8=0:=by
 have h:=clN_word n 0 (by decide)
 rw[if_pos rfl,wd_zero] at h
 have h2:clN n%B64%8=clN n%8:=Nat.mod_mod_of_dvd _ (by decide)
 rw[← h2,h]
 exact Nat.mul_mod_left _ _
def TQ:Nat:=28948022309329048855892746252171976963317496166410141009864396001978282409984
def TW:Nat:=57896044618658097711785492504343953926634992332820282019728792003956564819968
theorem clN_range (n:Nat):TQ≤clN n∧clN n<TW:=by
 have h:=clN_top n
 have hl:=clN_lt n
 have h1:clN n/B64^3<B64:=Nat.div_lt_of_lt_mul (by rw[Nat.mul_comm,← Nat.pow_succ'];exact hl)
 unfold wd at h
 rw[Nat.mod_eq_of_lt h1] at h
 obtain⟨m,hm⟩:∃ m,n/B64^3%B64%4611686018427387904=m:=⟨_,rfl⟩
 have hm2:m<4611686018427387904:=by rw[← hm];exact Nat.mod_lt _ (by decide)
 rw[hm] at h
 have e:=Nat.div_add_mod (clN n) (B64^3)
 have hr:clN n%B64^3<B64^3:=Nat.mod_lt _ (by decide +kernel)
 rw[h] at e
 have t1:TQ=B64^3*4611686018427387904:=by decide +kernel
 have t2:TW=B64^3*9223372036854775808:=by decide +kernel
 generalize B64^3=b at *
 rw[t1,t2,← e]
 constructor
 ·exact Nat.le_trans (Nat.mul_le_mul_left b (by omega)) (Nat.le_add_right _ _)
 ·have h5:b*(m+4611686018427387904)+b≤b*9223372036854775808:=by
    have:b*(m+4611686018427387904)+b=b*(m+4611686018427387904+1):=(Nat.mul_succ b (m+4611686018427387904)).symm
    rw[this]
    exact Nat.mul_le_mul_left b (by omega)
  omega
/-- A key's point: L times Zero, 8 times not. -/
theorem key_main (n:Nat):timesE LN (timesE n baseE)=zeroE:=by
 rw[← times_mul baseE on_base,Nat.mul_comm,times_mul baseE on_base,ell_base,times_zero]
theorem key_small (n:Nat):timesE 8 (timesE (clN n) baseE)≠zeroE:=by
 intro e
 rw[← times_mul baseE on_base] at e
 obtain⟨c,hc⟩:=base_order _ e
 have h8:=clN_8 n
 obtain⟨r1,r2⟩:=clN_range n
 obtain⟨N,hN⟩:∃ N,clN n=N:=⟨_,rfl⟩
 rw[hN] at h8 r1 r2 hc
 have h1:N*8%64=0:=by omega
 have hL:LN%8=5:=by decide +kernel
 have hb:8*TW<LN*64:=by decide +kernel
 have ht:0<TQ:=by decide +kernel
 have hc64:c<64:=by
  apply Nat.lt_of_not_le
  intro h
  have:=Nat.mul_le_mul_left LN h
  omega
 have hL64:LN%64=45:=rfl
 have h2:LN*c%64=0:=by omega
 rw[Nat.mul_mod,Nat.mod_eq_of_lt hc64,hL64] at h2
 have hz:c=0:=by
  have hd:∀ c,c<64→45*c%64=0→c=0:=by decide +kernel
  exact hd c hc64 h2
 rw[hz,Nat.mul_zero] at hc
 omega
/-- So many times the base, by numbers. -/
theorem base_at (n x y:Nat) (hn:n<2^256) (hx:x<PN) (hy:y<PN) (h:(x*(tmX 256 n bX bY 1 0 1 1).2.2)%PN=(tmX 256 n bX bY 1 0 1 1).1%PN∧(y*(tmX 256 n bX bY 1 0 1 1).2.2)%PN=(tmX 256 n bX bY 1 0 1 1).2.1%PN):(timesE n baseE).1.val=x∧(timesE n baseE).2.val=y:=by
 have hr:=tm_rep 256 n bX bY 1 0 1 1 baseE zeroE hn on_base on_zero base_rep zero_rep
 obtain⟨n1,n2⟩:=h
 generalize tmX 256 n bX bY 1 0 1 1=t at *
 rw[add_comm',add_zero' _ (on_times _ on_base _)] at hr
 obtain⟨h1,h2,h3⟩:=hr
 rw[fz_eq,fz_mul,← h2] at n1
 rw[fz_eq,fz_mul,← h3] at n2
 have e1:=fp_cancel _ _ _ h1 n1
 have e2:=fp_cancel _ _ _ h1 n2
 rw[← e1,← e2,fz_val,fz_val,Nat.mod_eq_of_lt hx,Nat.mod_eq_of_lt hy]
 exact⟨rfl,rfl⟩
/-- The hash of 32 bytes. -/
def shaB (L:List UInt8):List UInt8:=digL (hashL begin8 keys80 [L++padL L])
theorem shaB_cuts (L:List UInt8) (h:L.length=32):Cuts 128 (L++padL L) [L++padL L] []:=⟨by simp,by
 intro b hb
 obtain rfl:=List.mem_singleton.1 hb
 have:(padL L).length=96:=by
  unfold padL
  rw[h]
  decide +kernel
 rw[List.length_append,h,this],by decide⟩
theorem shaB_len (L:List UInt8) (h:L.length=32):(shaB L).length=64:=by
 unfold shaB
 rw[digL_len,(hashL_ok _ _ begin_ok.1 begin_ok.2 _).1]
theorem sha_of (s:ByteArray) (hs:s.size=32) (g:Nat) (w:World) (hg:w.heap[g]?=some (.cells #[.string s] 9 (0,0))):Calls Tryz.prog 54 #[.slice (some ⟨g,0,none⟩) 1 1] w fun e w'=>e=.returned (.string ⟨(shaB s.data.toList).toArray⟩)∧Below w.heap.size w w':=by
 have hl:s.data.toList.length=32:=by simpa using hs
 have h:=hof_any 1 (some ⟨g,0,none⟩) [s.data.toList] w (.inr ⟨g,0,rfl,(Array.getElem?_eq_some_iff.1 hg).1,fun i hi=>by
  have hi0:i=0:=by simpa using hi
  subst hi0
  rw[cell_of_row w g _ _ _ _ hg]
  show some (Value.string s)=some (strV s.data.toList)
  unfold strV
  rfl⟩) (by simp) (by simp;omega) [s.data.toList++padL s.data.toList] [] (by simpa using shaB_cuts _ hl)
 exact h
theorem rsha_of (s:ByteArray) (hs:s.size=32) (w:World):Calls Tryz.prog 21 #[.string s] w fun e w'=>e=.returned (.string ⟨(shaB s.data.toList).toArray⟩)∧Below w.heap.size w w':=by
 have hl:s.data.toList.length=32:=by simpa using hs
 exact rhash_at s.data.toList (by omega) _ [] (shaB_cuts _ hl) w
/-- The document's example. -/
def exS:List UInt8:=[157,97,177,157,239,253,90,96,186,132,74,244,146,236,44,196,68,73,197,105,123,50,105,25,112,59,172,3,28,174,127,96]
theorem exS_block:blockM ⟨(exS++padL exS).toArray⟩ 16=[11340540628589959776,13439949602277829828,4920681124708116761,8087246685239934816,9223372036854775808,0,0,0,0,0,0,0,0,0,0,256]:=by decide +kernel
theorem exS_step:stepN begin8 keys80 [11340540628589959776,13439949602277829828,4920681124708116761,8087246685239934816,9223372036854775808,0,0,0,0,0,0,0,0,0,0,256]=[3854099993999193035,4790192769505820988,18302390741936160931,11898774126494345487,11191175685748782186,8612717466478596128,6320598916537552790,17700147720492162959]:=by decide +kernel
theorem exS_hash:shaB exS=[53,124,131,134,79,40,51,203,66,122,46,241,192,10,1,60,253,255,39,104,217,128,192,163,165,32,240,6,144,77,233,15,155,79,10,254,40,11,116,106,119,134,132,231,84,66,80,32,87,183,71,58,3,240,143,150,245,163,142,146,135,224,31,143]:=by
 show digL (stepN begin8 keys80 (blockM ⟨(exS++padL exS).toArray⟩ 16))=_
 rw[exS_block,exS_step]
 decide +kernel
theorem exS_num:clN (leN [53,124,131,134,79,40,51,203,66,122,46,241,192,10,1,60,253,255,39,104,217,128,192,163,165,32,240,6,144,77,233,15])=36144925721603087658594284515452164870581325872720374094707712194495455132720:=by decide +kernel
theorem exS_tm:(38815646466658113194383306759739515082307681141926459231621296960732224964046*(tmX 256 36144925721603087658594284515452164870581325872720374094707712194495455132720 bX bY 1 0 1 1).2.2)%PN=(tmX 256 36144925721603087658594284515452164870581325872720374094707712194495455132720 bX bY 1 0 1 1).1%PN∧(11903303657706407974989296177215005343713679411332034699907763981919547054807*(tmX 256 36144925721603087658594284515452164870581325872720374094707712194495455132720 bX bY 1 0 1 1).2.2)%PN=(tmX 256 36144925721603087658594284515452164870581325872720374094707712194495455132720 bX bY 1 0 1 1).2.1%PN:=by decide +kernel
theorem exS_pub:byL (encN 38815646466658113194383306759739515082307681141926459231621296960732224964046 11903303657706407974989296177215005343713679411332034699907763981919547054807)=[215,90,152,1,130,177,10,183,213,75,254,211,201,100,7,58,14,225,114,243,218,166,35,37,175,2,26,104,247,7,81,26]:=by decide +kernel
theorem exS_unhex:unhexS ⟨#[57,100,54,49,98,49,57,100,101,102,102,100,53,97,54,48,98,97,56,52,52,97,102,52,57,50,101,99,50,99,99,52,52,52,52,57,99,53,54,57,55,98,51,50,54,57,49,57,55,48,51,98,97,99,48,51,49,99,97,101,55,102,54,48]⟩=⟨exS.toArray⟩∧unhexE ⟨#[57,100,54,49,98,49,57,100,101,102,102,100,53,97,54,48,98,97,56,52,52,97,102,52,57,50,101,99,50,99,99,52,52,52,52,57,99,53,54,57,55,98,51,50,54,57,49,57,55,48,51,98,97,99,48,51,49,99,97,101,55,102,54,48]⟩=0:=by decide +kernel
theorem exS_hex:hexL [215,90,152,1,130,177,10,183,213,75,254,211,201,100,7,58,14,225,114,243,218,166,35,37,175,2,26,104,247,7,81,26]=[100,55,53,97,57,56,48,49,56,50,98,49,48,97,98,55,100,53,52,98,102,101,100,51,99,57,54,52,48,55,51,97,48,101,101,49,55,50,102,51,100,97,97,54,50,51,50,53,97,102,48,50,49,97,54,56,102,55,48,55,53,49,49,97]:=by decide +kernel
section
variable {P:Program} {o:Oper} {A:Act}
theorem run_idx_str {ty:TypeId} {x y:Operand} {S:ByteArray} {i:Nat} {c:UInt8} {k:IntKind} (W:World) (ho:o.op=.index ty x y) (hx:A.eval x=.string S) (hy:A.eval y=.int k (i:Int)) (hu:P.underlying ty=some .string) (hc:S[i]?=some c):(execOp A.eval o).run P W=.ok (.value (.int .u8 (c.toNat:Int))) W:=by
 unfold execOp
 simp[ho,hx,hy,Instr.index,asIntOf,Sem.run_bind,run_underlying hu W,hc]
theorem run_slc_str {ty:TypeId} {x:Operand} {lo hi mx:Option Operand} {S:ByteArray} {v:Value} (W:World) (ho:o.op=.slice ty x lo hi mx) (hx:A.eval x=.string S) (h:(Instr.sliceAt ty (.string S) (lo.map A.eval) (hi.map A.eval) (mx.map A.eval)).run P W=.ok v W):(execOp A.eval o).run P W=.ok (.value v) W:=by
 unfold execOp
 simp only[ho,hx,Sem.run_bind,h,Result.andThen_ok]
 rfl
theorem slc_str {ty:TypeId} {S:ByteArray} {i j:Nat} {k k':IntKind} (W:World) (hu:P.underlying ty=some .string) (hij:i≤j) (hj:j≤S.size):(Instr.sliceAt ty (.string S) (some (.int k (i:Int))) (some (.int k' (j:Int))) none).run P W=.ok (.string (S.extract i j)) W:=by
 have h1:((i:Int)≤(j:Int)):=by omega
 have h2:((j:Int)≤(S.size:Int)):=by omega
 simp[Instr.sliceAt,Sem.run_bind,run_underlying hu W,Instr.slice,Instr.sliceBounds,Instr.sliceBound,asIntOf,go_sem,hij,hj]
theorem slc_str_hi {ty:TypeId} {S:ByteArray} {j:Nat} {k':IntKind} (W:World) (hu:P.underlying ty=some .string) (hj:j≤S.size):(Instr.sliceAt ty (.string S) none (some (.int k' (j:Int))) none).run P W=.ok (.string (S.extract 0 j)) W:=by
 simp[Instr.sliceAt,Sem.run_bind,run_underlying hu W,Instr.slice,Instr.sliceBounds,Instr.sliceBound,asIntOf,go_sem,hj]
theorem slc_str_lo {ty:TypeId} {S:ByteArray} {i:Nat} {k:IntKind} (W:World) (hu:P.underlying ty=some .string) (hi:i≤S.size):(Instr.sliceAt ty (.string S) (some (.int k (i:Int))) none none).run P W=.ok (.string (S.extract i S.size)) W:=by
 simp[Instr.sliceAt,Sem.run_bind,run_underlying hu W,Instr.slice,Instr.sliceBounds,Instr.sliceBound,asIntOf,go_sem,hi]
theorem inw_readS {ops:Array Oper} {w0:World} {Q:Act→World→Prop} {o:Oper} {rest:List Oper} {k:Nat} {A:Act} {Ps:List PkW} {ns:List Nat} (j:Nat) (t:Tmp) {n:Nat} {L:Array Value} {T:TypeId} {v:Value} (hf:Ps.filter (waits ops o)=[(j,fun u w'=>∃ b,u=.slice (some ⟨b,0,none⟩) n n∧w'.heap[b]?=some (.cells L T (0,0)))]) (hd:dstOf ops j=some t)
    (hw:∀ b,Region.wanted o (yielded ops (A.put (some t) (.slice (some ⟨b,0,none⟩) n n)).tmps)=true)
    (h:∀ b W,W.heap[b]?=some (.cells L T (0,0))→(execOp (A.put (some t) (.slice (some ⟨b,0,none⟩) n n)).eval o).run P W=.ok (.value v) W)
    (hr:wpInw P ops w0 Q rest (k+1) (A.put o.dst v) Ps ns):wpInw P ops w0 Q (o::rest) k A Ps ns :=
 .inl ⟨v,fun d os=>by
  rw[hf]
  rintro u ⟨b,rfl,hb⟩
  show opOK P ops o _ _ (A.put (dstOf ops j) (.slice (some ⟨b,0,none⟩) n n))
  rw[hd]
  unfold opOK
  rw[if_pos (hw b),h b _ hb]
  exact⟨rfl,Below.refl _ _⟩,hr⟩
theorem run_len_str {x:Operand} {tys:Array TypeId} {S:ByteArray} {ty:TypeId} (W:World) (ho:o.op=.call { callee:=.builtin .len,args:=#[x],argTypes:=tys }) (hx:#[x].map A.eval=#[.string S]) (ht:tys[0]?=some ty) (hu:P.underlying ty=some .string):(execOp A.eval o).run P W=.ok (.value (.int .i64 (S.size:Int))) W:=by
 have hx':A.eval x=.string S:=by simpa using hx
 unfold execOp
 simp[ho,resolve,invoke,builtin,hx',Builtin.len_,ht,Sem.run_bind,run_underlying hu W,goInt]
/-- A string's sum. -/
theorem add_str {ty:TypeId} {S T:ByteArray} (x y:Operand) (W:World) (hz:S.size+T.size≤9223372036854775807):(do eqGuard .add ty x y (.string S) (.string T);binOp .add ty (.string S) (.string T):Sem Value).run P W=.ok (.string (S++T)) W:=by
 simp[eqGuard,binOp,Op.stringOp]
 omega
end
theorem byL_at (n i:Nat) (h:i<32):(⟨(byL n).toArray⟩:ByteArray)[i]?=some (UInt8.ofNat (n/256^i%256)):=by
 show (byL n).toArray[i]?=_
 rw[List.getElem?_toArray,byL,List.getElem?_map,List.getElem?_range h]
 rfl
theorem u8_nat' (l:Nat) (h:l<256):((UInt8.ofNat l).toNat:Int)=(l:Int):=by rw[UInt8.toNat_ofNat_of_lt' h]
theorem top_low (n:Nat) (h:n<PN):n/256^31%256<128:=by
 have h1:n<256^31*128:=Nat.lt_trans h (by decide +kernel)
 exact Nat.lt_of_le_of_lt (Nat.mod_le _ _) (Nat.div_lt_of_lt_mul h1)
theorem byte_high (n i:Nat) (h:i<31):(n+HB)/256^i%256=n/256^i%256:=by
 have e:HB=(128*256^(30-i)*256)*256^i:=by
  have e1:256^31=256^(30-i)*256*256^i:=by
   rw[← Nat.pow_succ,← Nat.pow_add]
   congr 1
   omega
  rw[show HB=128*256^31 by decide +kernel,e1]
  simp only[Nat.mul_assoc]
 rw[e,Nat.add_mul_div_right _ _ (Nat.pow_pos (by decide)),Nat.add_mul_mod_self_right]
theorem byte_top (n:Nat) (h:n<PN):(n+HB)/256^31%256=n/256^31%256+128:=by
 have h1:=top_low n h
 have h0:n/256^31<128:=Nat.div_lt_of_lt_mul (Nat.lt_trans h (by decide +kernel))
 rw[show HB=128*256^31 by decide +kernel,Nat.add_mul_div_right _ _ (Nat.pow_pos (by decide))]
 obtain⟨q,hq⟩:∃ q,n/256^31=q:=⟨_,rfl⟩
 rw[hq] at h0 ⊢
 omega
theorem text_cut (n m l:Nat) (hi:∀ i,i<31→m/256^i%256=n/256^i%256) (ht:m/256^31%256=l):((⟨(byL n).toArray⟩:ByteArray).extract 0 31)++(⟨#[UInt8.ofNat l]⟩:ByteArray)=⟨(byL m).toArray⟩:=by
 have h1:byL m=(byL n).take 31++[UInt8.ofNat l]:=by
  unfold byL
  rw[show List.range 32=List.range 31++[31] from List.range_succ,List.map_append,List.map_append,List.take_left' (by simp)]
  congr 1
  ·exact List.map_congr_left fun i hi'=>by rw[hi i (List.mem_range.1 hi')]
  ·simp[ht]
 rw[h1]
 refine ByteArray.ext ?_
 rw[ByteArray.data_append,ByteArray.data_extract]
 simp
theorem enc_text (x n:Nat) (h:n<PN):(x%2=1→((⟨(byL n).toArray⟩:ByteArray).extract 0 31)++(⟨#[UInt8.ofNat (n/256^31%256+128)]⟩:ByteArray)=⟨(byL (encN x n)).toArray⟩)∧(¬ x%2=1→((⟨(byL n).toArray⟩:ByteArray).extract 0 31)++(⟨#[UInt8.ofNat (n/256^31%256)]⟩:ByteArray)=⟨(byL (encN x n)).toArray⟩):=by
 unfold encN
 rw[HB_is.1]
 constructor
 ·intro hx
  rw[if_pos hx]
  exact text_cut _ _ _ (fun i hi=>byte_high n i hi) (byte_top n h)
 ·intro hx
  rw[if_neg hx]
  exact text_cut _ _ _ (fun _ _=>rfl) rfl
/-- A word of the number of 32 bytes. -/
theorem beN_rev:∀ l:List UInt8,beN l.reverse=leN l
 | []=>rfl
 | b::t=>by rw[List.reverse_cons,beN_snoc,beN_rev t,leN];omega
theorem leN_take:∀ (l:List UInt8) (k:Nat),leN (l.take k)=leN l%256^k
 | [],k=>by simp[leN]
 | b::t,0=>by rw[List.take_zero,Nat.pow_zero,Nat.mod_one];rfl
 | b::t,k+1=>by
   have h2:=b.toNat_lt
   rw[List.take_succ_cons,leN,leN,leN_take t k,Nat.pow_succ,Nat.mul_comm (256^k) 256,Nat.mod_mul]
   have h1:(b.toNat+256*leN t)%256=b.toNat:=by omega
   have h3:(b.toNat+256*leN t)/256=leN t:=by omega
   rw[h1,h3]
theorem leN_drop:∀ (l:List UInt8) (k:Nat),leN (l.drop k)=leN l/256^k
 | l,0=>by rw[List.drop_zero,Nat.pow_zero,Nat.div_one]
 | [],k+1=>by simp[leN]
 | b::t,k+1=>by
   have h2:=b.toNat_lt
   rw[List.drop_succ_cons,leN_drop t k,leN,Nat.pow_succ,Nat.mul_comm (256^k) 256,← Nat.div_div_eq_div_mul]
   congr 1
   omega
theorem word_of (s:ByteArray) (i:Nat):beN (s.extract (8*i) (8*i+8)).data.toList.reverse=wd (leN s.data.toList) i:=by
 rw[beN_rev,ByteArray.data_extract,Array.toList_extract,List.extract_eq_take_drop,leN_take,leN_drop]
 unfold wd
 rw[show 8*i+8-8*i=8 by omega,show (256:Nat)^8=B64 by decide,show B64=256^8 by decide,← Nat.pow_mul]
theorem rturn8 (s:ByteArray) (i:Nat) (hs:s.size=32) (hi:i<4) (w:World):Calls Tryz.prog 63 #[.string (s.extract (8*i) (8*i+8))] w fun e w'=>e=.returned (.string ⟨(s.extract (8*i) (8*i+8)).data.toList.reverse.toArray⟩)∧Below w.heap.size w w':=rturn_any _ w (by
 rw[ByteArray.size_extract]
 omega)
theorem rget8 (s:ByteArray) (i v:Nat) (hs:s.size=32) (hi:i<4) (hv:wd (leN s.data.toList) i=v) (w:World):Calls Tryz.prog 62 #[.string ⟨(s.extract (8*i) (8*i+8)).data.toList.reverse.toArray⟩] w fun e w'=>e=.returned (.int .u64 (v:Int))∧Below w.heap.size w w':=by
 have hz:(⟨(s.extract (8*i) (8*i+8)).data.toList.reverse.toArray⟩:ByteArray).size≤8:=by
  show (s.extract (8*i) (8*i+8)).data.toList.reverse.toArray.size≤8
  rw[List.size_toArray,List.length_reverse,Array.length_toList]
  show (s.extract (8*i) (8*i+8)).size≤8
  rw[ByteArray.size_extract]
  omega
 refine (rget_any _ w hz).mono ?_
 rintro e w' ⟨rfl,rfl⟩
 refine⟨?_,Below.refl _ _⟩
 show Ending.returned (.int .u64 ((beN (s.extract (8*i) (8*i+8)).data.toList.reverse:Nat):Int))=_
 rw[word_of,hv]
theorem bin_rem_u64 (a:Nat) (x y:Operand) (W:World):(do eqGuard .rem 22 x y (.int .u64 (a:Int)) (.int .u64 2);binOp .rem 22 (.int .u64 (a:Int)) (.int .u64 2):Sem Value).run Tryz.prog W=.ok (.int .u64 ((a%2:Nat):Int)) W:=by
 have e:((a:Int).tmod 2)=((a%2:Nat):Int):=by rw[Int.tmod_eq_emod_of_nonneg (by omega)];omega
 have e2:IntKind.u64.wrap ((a%2:Nat):Int)=((a%2:Nat):Int):=IntWalk.u64_in _ (by omega)
 have e3:(a:Int)%2=((a%2:Nat):Int):=by omega
 obtain⟨m,hm⟩:∃ m,a%2=m:=⟨_,rfl⟩
 rw[hm] at e e2 e3 ⊢
 go_simp
theorem bin_eql_u64 (b:Nat) (x y:Operand) (W:World):(do eqGuard .eql 22 x y (.int .u64 (b:Int)) (.int .u64 1);binOp .eql 22 (.int .u64 (b:Int)) (.int .u64 1):Sem Value).run Tryz.prog W=.ok (.bool (decide (b=1))) W:=by
 have e:((b:Int) == 1)=decide (b=1):=by
  rw[Bool.eq_iff_iff]
  simp
  omega
 go_simp
theorem bin_add_u8 (b:Nat) (h:b<128) (x y:Operand) (W:World):(do eqGuard .add 5 x y (.int .u8 (b:Int)) (.int .u8 128);binOp .add 5 (.int .u8 (b:Int)) (.int .u8 128):Sem Value).run Tryz.prog W=.ok (.int .u8 ((b+128:Nat):Int)) W:=by
 have e2:IntKind.u8.wrap ((b:Int)+128)=((b+128:Nat):Int):=by rw[IntWalk.u8_in _ (by omega)];omega
 obtain⟨m,hm⟩:∃ m,b+128=m:=⟨_,rfl⟩
 rw[hm] at e2 ⊢
 go_simp
theorem ix_Nu0 (b:Nat) (W:World):(Instr.indexAt 23 (.pointer (some ⟨b,0,none⟩)) (.int .i64 0)).run Tryz.prog W=.ok (.pointer (some ⟨b,0,none⟩)) W:=by
 go_simp
theorem ix_Nu1 (b:Nat) (W:World):(Instr.indexAt 23 (.pointer (some ⟨b,0,none⟩)) (.int .i64 1)).run Tryz.prog W=.ok (.pointer (some ⟨b,1,none⟩)) W:=by
 go_simp
theorem ix_Nu2 (b:Nat) (W:World):(Instr.indexAt 23 (.pointer (some ⟨b,0,none⟩)) (.int .i64 2)).run Tryz.prog W=.ok (.pointer (some ⟨b,2,none⟩)) W:=by
 go_simp
theorem ix_Nu3 (b:Nat) (W:World):(Instr.indexAt 23 (.pointer (some ⟨b,0,none⟩)) (.int .i64 3)).run Tryz.prog W=.ok (.pointer (some ⟨b,3,none⟩)) W:=by
 go_simp
theorem bs_u8 (c:Nat) (W:World):(Instr.buildSlice 90 1 #[(0,.int .u8 (c:Int))]).run Tryz.prog W=.ok (.slice (some ⟨W.heap.size,0,none⟩) 1 1) (W.alloc (.cells #[.int .u8 (c:Int)] 5 (0,0))):=by
 go_simp
theorem bytes_text1 (c:Nat) (hc:c<256) (b:Nat) (W:World) (hb:W.heap[b]?=some (.cells #[.int .u8 (c:Int)] 5 (0,0))):(convert 90 9 (.slice (some ⟨b,0,none⟩) 1 1)).run Tryz.prog W=.ok (.string ⟨#[UInt8.ofNat c]⟩) W:=by
 have h:=run_convert_bytes_back (P:=Tryz.prog) W 90 9 5 ⟨b,0,none⟩ 1 [UInt8.ofNat c] Tryz.underlying90 Tryz.underlying5 Tryz.underlying9 (fun j hj=>by
  have j0:j=0:=by simpa using hj
  subst j0
  have hadd:(⟨b,0,none⟩:Addr).add 0=⟨b,0,none⟩:=by unfold Addr.add;split <;> simp_all
  rw[hadd,cell_of_row W b 0 _ _ _ hb]
  show _=some (Value.int .u8 ((UInt8.ofNat c).toNat:Int))
  rw[UInt8.toNat_ofNat_of_lt' hc]
  rfl)
 exact h
set_option maxRecDepth 20000 in
set_option maxHeartbeats 8000000 in
theorem rencode_any {b:N3} {p:Pt} (hb:Ok3 b p) (w:World):Calls Tryz.prog 23 #[pv3 b] w fun E w'=>E=.returned (.string ⟨(byL (encN p.1.val p.2.val)).toArray⟩)∧Below w.heap.size w w':=by
 have HMIX:=Lib.hid (show Tryz.prog.follows .mixedOrders=true by kernel_rfl)
 go_enter Tryz.func23,Tryz.ntmps23
 have hM0:=Mem.start w
 (go_step;go_step;refine wp_region_lit ?_)
 refine wl_new hM0 (f:=fun b=>.pointer (some ⟨b,0,none⟩)) (ob:=.cells ((rpL b.1 b.2.1 b.2.2).toArray) 55 (0,0)) (fun W=>run_box_of rfl rfl (bx_Rp _ _ _ W)) rfl fun b1 W1 hM1=>?_
 simp only[nm0,nm1,nm2,nm3]
 refine wl_pure (v:=.string ⟨#[]⟩) (fun _=>rfl) rfl ?_
 simp only[nm0,nm1,nm2,nm3]
 refine wpList_nil ?_
 (go_step;go_step;go_step;refine wp_region_lit ?_)
 refine wl_row hM1 0 (v:=pv3 b) rfl rfl rfl rfl rowRp rfl ?_
 simp only[nm0,nm1,nm2,nm3]
 obtain⟨v1,ev1⟩:∃ x,x=p.1.val:=⟨_,rfl⟩
 have pv1:v1<PN:=by rw[ev1];exact Fin.isLt _
 obtain⟨v2,ev2⟩:∃ x,x=p.2.val:=⟨_,rfl⟩
 have pv2:v2<PN:=by rw[ev2];exact Fin.isLt _
 have KX14:=Lib.hid (fun W=>rxy3 hb W)
 simp only[← ev1,← ev2] at KX14
 refine wl_call hM1 (args:=#[pv3 b]) (v:=.tuple #[numV v1,numV v2]) (fun W=>run_call_fn W (enters_of Tryz.func64 rfl rfl) rfl (by simp[Act.eval])) (KX14.out W1) rfl fun W2 hM2=>?_
 simp only[nm0,nm1,nm2,nm3]
 refine wl_pure (v:=.tuple #[numV v1,numV v2]) (fun _=>rfl) rfl ?_
 simp only[nm0,nm1,nm2,nm3]
 refine wl_pure (v:=numV v1) (fun _=>rfl) rfl ?_
 simp only[nm0,nm1,nm2,nm3]
 refine wl_pure (v:=numV v2) (fun _=>rfl) rfl ?_
 simp only[nm0,nm1,nm2,nm3]
 refine wl_new hM2 (f:=fun b=>.pointer (some ⟨b,0,none⟩)) (ob:=.cells z4 23 (0,0)) (fun W=>run_alloc_of rfl (al_Nu W)) rfl fun b2 W3 hM3=>?_
 simp only[nm0,nm1,nm2,nm3]
 refine wl_new hM3 (f:=fun b=>.pointer (some ⟨b,0,none⟩)) (ob:=.cells z4 23 (0,0)) (fun W=>run_alloc_of rfl (al_Nu W)) rfl fun b3 W4 hM4=>?_
 simp only[nm0,nm1,nm2,nm3]
 refine wl_set hM4 1 (cs:=(elR v1)) rfl rfl rfl rfl rowNu rfl (one_el v1) rfl rfl fun W5 hM5=>?_
 simp only[nm2,nm3] at hM5
 refine wl_set hM5 0 (cs:=(elR v2)) rfl rfl rfl rfl rowNu rfl (one_el v2) rfl rfl fun W6 hM6=>?_
 simp only[nm2,nm3] at hM6
 refine wpList_nil ?_
 (go_step;go_step;go_step;refine wp_region_lit ?_)
 refine wl_row hM6 0 (v:=numV v2) rfl rfl rfl rfl rowNu rfl ?_
 simp only[nm0,nm1,nm2,nm3]
 obtain⟨zb,ezb⟩:∃ t:ByteArray,t=⟨(byL v2).toArray⟩:=⟨_,rfl⟩
 have KZ:=Lib.hid (fun w=>rbytes_any v2 w)
 rw[← ezb] at KZ
 refine wl_call hM6 (args:=#[numV v2]) (v:=.string zb) (fun W=>run_call_fn W (enters_of Tryz.func45 rfl rfl) rfl (by simp[Act.eval])) (KZ.out W6) rfl fun W7 hM7=>?_
 simp only[nm0,nm1,nm2,nm3]
 refine wl_pure (v:=.string zb) (fun _=>rfl) rfl ?_
 simp only[nm0,nm1,nm2,nm3]
 refine wpList_nil ?_
 (go_step;go_step;go_step;refine wp_region_lit ?_)
 refine wl_pure (v:=.string zb) (fun _=>rfl) rfl ?_
 simp only[nm0,nm1,nm2,nm3]
 obtain⟨l,el⟩:∃ l,v2/256^31%256=l:=⟨_,rfl⟩
 have hl:l<128:=by rw[← el];exact top_low v2 pv2
 have KI:zb[31]?=some (UInt8.ofNat l):=by rw[ezb,← el];exact byL_at v2 31 (by decide)
 refine wl_pure (v:=.int .u8 (l:Int)) (fun W=>(u8_nat' l (Nat.lt_trans hl (by decide))) ▸ run_idx_str W rfl rfl rfl Tryz.underlying9 KI) rfl ?_
 simp only[nm0,nm1,nm2,nm3]
 refine wl_pure (v:=.int .u8 (l:Int)) (fun _=>rfl) rfl ?_
 simp only[nm0,nm1,nm2,nm3]
 refine wpList_nil ?_
 (go_step;go_step;go_step;go_step;refine wp_region_lit ?_)
 refine wl_pure (v:=.pointer (some ⟨b2,0,none⟩)) (fun W=>run_index_of rfl rfl rfl (ix_Nu0 b2 W)) rfl ?_
 simp only[nm0,nm1,nm2,nm3]
 refine wl_cell hM7 1 (v:=.int .u64 (wd v1 0:Int)) rfl rfl rfl rfl cellU rfl ?_
 simp only[nm0,nm1,nm2,nm3]
 refine wl_pure (v:=.int .u64 (((wd v1 0)%2:Nat):Int)) (fun W=>run_bin_of rfl rfl rfl (bin_rem_u64 (wd v1 0) _ _ W)) rfl ?_
 simp only[nm0,nm1,nm2,nm3]
 obtain⟨c1,hc1⟩:∃ x,x=decide (((wd v1 0)%2)=1):=⟨_,rfl⟩
 refine wl_pure (v:=.bool c1) (fun W=>run_bin_of rfl rfl rfl (by rw[hc1];exact bin_eql_u64 ((wd v1 0)%2) _ _ W)) rfl ?_
 simp only[nm0,nm1,nm2,nm3]
 refine wpList_nil ?_
 cases c1
 ·skip
  have hpar:=of_decide_eq_false hc1.symm
  rw[show wd v1 0=v1%B64 by unfold wd;rw[Nat.pow_zero,Nat.div_one],show v1%B64%2=v1%2 from Nat.mod_mod_of_dvd _ (by decide)] at hpar
  have hl256:l<256:=by omega
  (go_step;go_step;go_step;go_step;go_step;go_step;go_step;refine wp_region_inw 7 HMIX.out (by decide) (by kernel_rfl) (by kernel_rfl) ?_)
  refine inw_pure (v:=.string zb) (fun _=>rfl) rfl rfl ?_;simp only[nm0,nm1,nm2,nm3]
  obtain⟨zc,ezc⟩:∃ t:ByteArray,t=zb.extract 0 31:=⟨_,rfl⟩
  have hzb:31≤zb.size:=by rw[ezb,byL_size];decide
  have hzc:zc.size=31:=by rw[ezc,ByteArray.size_extract,ezb,byL_size];rfl
  refine inw_pure (v:=.string zc) (fun W=>by rw[ezc];exact run_slc_str W rfl rfl (slc_str_hi (j:=31) W Tryz.underlying9 hzb)) rfl rfl ?_;simp only[nm0,nm1,nm2,nm3]
  refine inw_pure (v:=.int .u8 (l:Int)) (fun _=>rfl) rfl rfl ?_;simp only[nm0,nm1,nm2,nm3]
  refine inw_slice (n:=1) (L:=#[.int .u8 (l:Int)]) (T:=5) (fun W=>run_slice_of rfl (by simp[Act.eval]) (bs_u8 l W)) rfl rfl ?_;simp only[List.nil_append,List.cons_append]
  obtain⟨zd,ezd⟩:∃ t:ByteArray,t=⟨#[UInt8.ofNat l]⟩:=⟨_,rfl⟩
  have hzd:zd.size=1:=by rw[ezd];rfl
  refine inw_readS 3 25 (v:=.string zd) rfl rfl (fun _=>rfl) (fun b W h=>by rw[ezd];exact run_cv_of rfl rfl (bytes_text1 l hl256 b W h)) ?_;simp only[nm0,nm1,nm2,nm3]
  obtain⟨ze,eze⟩:∃ t:ByteArray,t=zc++zd:=⟨_,rfl⟩
  have hze:zc.size+zd.size≤9223372036854775807:=by rw[hzc,hzd];decide
  refine inw_pure (v:=.string ze) (fun W=>run_bin_of rfl rfl rfl (by rw[eze];exact add_str _ _ W hze)) rfl rfl ?_;simp only[nm0,nm1,nm2,nm3]
  refine inw_pure (v:=.string ze) (fun _=>rfl) rfl rfl ?_;simp only[nm0,nm1,nm2,nm3]
  refine inw_fin fun d os=>?_
  refine given_mk (t:=25) rfl fun s3=>?_
  refine given_nil fun hap=>?_
  simp only[nm0,nm1,nm2,nm3] at hap ⊢
  have hM8:=hM7.calls (below_regrown W7 d os)
  clear hap 
  generalize grow (redrawn W7 d) os=W8 at hM8 ⊢
  refine wpAny_done (by kernel_rfl) ?_ _
  (go_step;go_step;go_step;refine bodyPost_ret (v:=.string ze) (results_slot Tryz.results23 rfl) rfl ⟨?_,hM8.below⟩)
  exact by
      have ht:=(enc_text v1 v2 pv2).2 hpar
      rw[el] at ht
      rw[eze,ezc,ezd,ezb,ht,ev1,ev2]
 ·skip
  have hpar:=of_decide_eq_true hc1.symm
  rw[show wd v1 0=v1%B64 by unfold wd;rw[Nat.pow_zero,Nat.div_one],show v1%B64%2=v1%2 from Nat.mod_mod_of_dvd _ (by decide)] at hpar
  (go_step;go_step;go_step;refine wp_region_lit ?_)
  refine wl_pure (v:=.int .u8 (l:Int)) (fun _=>rfl) rfl ?_
  simp only[nm0,nm1,nm2,nm3]
  refine wl_pure (v:=.int .u8 ((l+128:Nat):Int)) (fun W=>run_bin_of rfl rfl rfl (bin_add_u8 l hl _ _ W)) rfl ?_
  simp only[nm0,nm1,nm2,nm3]
  refine wl_pure (v:=.int .u8 ((l+128:Nat):Int)) (fun _=>rfl) rfl ?_
  simp only[nm0,nm1,nm2,nm3]
  refine wpList_nil ?_
  have hl256:l+128<256:=by omega
  (go_step;go_step;go_step;refine wp_region_inw 7 HMIX.out (by decide) (by kernel_rfl) (by kernel_rfl) ?_)
  refine inw_pure (v:=.string zb) (fun _=>rfl) rfl rfl ?_;simp only[nm0,nm1,nm2,nm3]
  obtain⟨zc,ezc⟩:∃ t:ByteArray,t=zb.extract 0 31:=⟨_,rfl⟩
  have hzb:31≤zb.size:=by rw[ezb,byL_size];decide
  have hzc:zc.size=31:=by rw[ezc,ByteArray.size_extract,ezb,byL_size];rfl
  refine inw_pure (v:=.string zc) (fun W=>by rw[ezc];exact run_slc_str W rfl rfl (slc_str_hi (j:=31) W Tryz.underlying9 hzb)) rfl rfl ?_;simp only[nm0,nm1,nm2,nm3]
  refine inw_pure (v:=.int .u8 ((l+128:Nat):Int)) (fun _=>rfl) rfl rfl ?_;simp only[nm0,nm1,nm2,nm3]
  refine inw_slice (n:=1) (L:=#[.int .u8 ((l+128:Nat):Int)]) (T:=5) (fun W=>run_slice_of rfl (by simp[Act.eval]) (bs_u8 (l+128) W)) rfl rfl ?_;simp only[List.nil_append,List.cons_append]
  obtain⟨zd,ezd⟩:∃ t:ByteArray,t=⟨#[UInt8.ofNat (l+128)]⟩:=⟨_,rfl⟩
  have hzd:zd.size=1:=by rw[ezd];rfl
  refine inw_readS 3 25 (v:=.string zd) rfl rfl (fun _=>rfl) (fun b W h=>by rw[ezd];exact run_cv_of rfl rfl (bytes_text1 (l+128) hl256 b W h)) ?_;simp only[nm0,nm1,nm2,nm3]
  obtain⟨ze,eze⟩:∃ t:ByteArray,t=zc++zd:=⟨_,rfl⟩
  have hze:zc.size+zd.size≤9223372036854775807:=by rw[hzc,hzd];decide
  refine inw_pure (v:=.string ze) (fun W=>run_bin_of rfl rfl rfl (by rw[eze];exact add_str _ _ W hze)) rfl rfl ?_;simp only[nm0,nm1,nm2,nm3]
  refine inw_pure (v:=.string ze) (fun _=>rfl) rfl rfl ?_;simp only[nm0,nm1,nm2,nm3]
  refine inw_fin fun d os=>?_
  refine given_mk (t:=25) rfl fun s3=>?_
  refine given_nil fun hap=>?_
  simp only[nm0,nm1,nm2,nm3] at hap ⊢
  have hM8:=hM7.calls (below_regrown W7 d os)
  clear hap 
  generalize grow (redrawn W7 d) os=W8 at hM8 ⊢
  refine wpAny_done (by kernel_rfl) ?_ _
  (go_step;go_step;go_step;refine bodyPost_ret (v:=.string ze) (results_slot Tryz.results23 rfl) rfl ⟨?_,hM8.below⟩)
  exact by
      have ht:=(enc_text v1 v2 pv2).1 hpar
      rw[el] at ht
      rw[eze,ezc,ezd,ezb,ht,ev1,ev2]
set_option maxRecDepth 20000 in
set_option maxHeartbeats 8000000 in
theorem number_any (s:ByteArray) (hs:s.size=32) (w:World):Calls Tryz.prog 22 #[.string s] w fun E w'=>E=.returned (numV (leN s.data.toList))∧Below w.heap.size w w':=by
 obtain⟨N,hN⟩:∃ N,leN s.data.toList=N:=⟨_,rfl⟩
 obtain⟨w0,hw0⟩:∃ x,wd (leN s.data.toList) 0=x:=⟨_,rfl⟩
 obtain⟨w1,hw1⟩:∃ x,wd (leN s.data.toList) 1=x:=⟨_,rfl⟩
 obtain⟨w2,hw2⟩:∃ x,wd (leN s.data.toList) 2=x:=⟨_,rfl⟩
 obtain⟨w3,hw3⟩:∃ x,wd (leN s.data.toList) 3=x:=⟨_,rfl⟩
 rw[hN]
 go_enter Tryz.func22,Tryz.ntmps22
 have hM0:=Mem.start w
 (go_step;go_step;refine wp_region_lit ?_)
 refine wl_new hM0 (f:=fun b=>.pointer (some ⟨b,0,none⟩)) (ob:=.cells z4 23 (0,0)) (fun W=>run_alloc_of rfl (al_Nu W)) rfl fun b1 W1 hM1=>?_
 simp only[nm0,nm1,nm2,nm3]
 refine wpList_nil ?_
 (go_step;go_step;go_step;refine wp_region_lit ?_)
 refine wl_new hM1 (f:=fun b=>.pointer (some ⟨b,0,none⟩)) (ob:=.cells z4 23 (0,0)) (fun W=>run_alloc_of rfl (al_Nu W)) rfl fun b2 W2 hM2=>?_
 simp only[nm0,nm1,nm2,nm3]
 refine wpList_nil ?_
 (go_step;go_step;go_step;go_step;refine wp_region_lit ?_)
 refine wl_pure (v:=.int .i64 0) (fun _=>rfl) rfl ?_
 simp only[nm0,nm1,nm2,nm3]
 refine wpList_nil ?_
 (go_step;go_step;go_step;refine wp_loop_rounds 5 ?_)
 rw[rounds_succ]
 (go_step;go_step;refine wp_region_lit ?_)
 refine wl_pure (v:=.int .i64 0) (fun _=>rfl) rfl ?_
 simp only[nm0,nm1,nm2,nm3]
 refine wl_pure (v:=.bool true) (fun W=>by go_simp) rfl ?_
 simp only[nm0,nm1,nm2,nm3]
 refine wpList_nil ?_
 (go_step;go_step;go_step;go_step;go_step;go_step;go_step;go_step;refine wp_region_lit ?_)
 refine wl_pure (v:=.int .i64 0) (fun _=>rfl) rfl ?_
 simp only[nm0,nm1,nm2,nm3]
 refine wl_pure (v:=.string s) (fun _=>rfl) rfl ?_
 simp only[nm0,nm1,nm2,nm3]
 refine wl_pure (v:=.int .i64 0) (fun _=>rfl) rfl ?_
 simp only[nm0,nm1,nm2,nm3]
 refine wl_pure (v:=.int .i64 0) (fun W=>by go_simp;decide) rfl ?_
 simp only[nm0,nm1,nm2,nm3]
 refine wl_pure (v:=.int .i64 0) (fun _=>rfl) rfl ?_
 simp only[nm0,nm1,nm2,nm3]
 refine wl_pure (v:=.int .i64 0) (fun W=>by go_simp;decide) rfl ?_
 simp only[nm0,nm1,nm2,nm3]
 refine wl_pure (v:=.int .i64 8) (fun W=>by go_simp;decide) rfl ?_
 simp only[nm0,nm1,nm2,nm3]
 refine wl_pure (v:=.string (s.extract (8*0) (8*0+8))) (fun W=>run_slc_str W rfl rfl (slc_str (i:=8*0) (j:=8*0+8) W Tryz.underlying9 (by omega) (by omega))) rfl ?_
 simp only[nm0,nm1,nm2,nm3]
 refine wl_call hM2 (args:=#[.string (s.extract (8*0) (8*0+8))]) (v:=.string ⟨(s.extract (8*0) (8*0+8)).data.toList.reverse.toArray⟩) (fun W=>run_call_fn W (enters_of Tryz.func63 rfl rfl) rfl (by simp[Act.eval])) ((fun W=>rturn8 s 0 hs (by decide) W) W2) rfl fun W3 hM3=>?_
 simp only[nm0,nm1,nm2,nm3]
 refine wl_call hM3 (args:=#[.string ⟨(s.extract (8*0) (8*0+8)).data.toList.reverse.toArray⟩]) (v:=.int .u64 (w0:Int)) (fun W=>run_call_fn W (enters_of Tryz.func62 rfl rfl) rfl (by simp[Act.eval])) ((fun W=>rget8 s 0 w0 hs (by decide) hw0 W) W3) rfl fun W4 hM4=>?_
 simp only[nm0,nm1,nm2,nm3]
 refine wl_pure (v:=.pointer (some ⟨b2,0,none⟩)) (fun W=>run_index_of rfl rfl rfl (ix_Nu0 b2 W)) rfl ?_
 simp only[nm0,nm1,nm2,nm3]
 refine wl_setat hM4 0 (cs':=#[.int .u64 (w0:Int),.int .u64 0,.int .u64 0,.int .u64 0]) rfl rfl rfl rfl (by show 0<4;decide) (rfl) cellU rfl rfl rfl fun W5 hM5=>?_
 simp only[nm2,nm3] at hM5
 refine wpList_nil ?_
 (go_step;go_step;refine wp_region_lit ?_)
 refine wl_pure (v:=.int .i64 0) (fun _=>rfl) rfl ?_
 simp only[nm0,nm1,nm2,nm3]
 refine wl_pure (v:=.int .i64 1) (fun W=>by go_simp;decide) rfl ?_
 simp only[nm0,nm1,nm2,nm3]
 refine wl_pure (v:=.int .i64 1) (fun _=>rfl) rfl ?_
 simp only[nm0,nm1,nm2,nm3]
 refine wpList_nil ?_
 go_step
 rw[rounds_succ]
 (go_step;go_step;refine wp_region_lit ?_)
 refine wl_pure (v:=.int .i64 1) (fun _=>rfl) rfl ?_
 simp only[nm0,nm1,nm2,nm3]
 refine wl_pure (v:=.bool true) (fun W=>by go_simp) rfl ?_
 simp only[nm0,nm1,nm2,nm3]
 refine wpList_nil ?_
 (go_step;go_step;go_step;go_step;go_step;go_step;go_step;go_step;refine wp_region_lit ?_)
 refine wl_pure (v:=.int .i64 1) (fun _=>rfl) rfl ?_
 simp only[nm0,nm1,nm2,nm3]
 refine wl_pure (v:=.string s) (fun _=>rfl) rfl ?_
 simp only[nm0,nm1,nm2,nm3]
 refine wl_pure (v:=.int .i64 1) (fun _=>rfl) rfl ?_
 simp only[nm0,nm1,nm2,nm3]
 refine wl_pure (v:=.int .i64 8) (fun W=>by go_simp;decide) rfl ?_
 simp only[nm0,nm1,nm2,nm3]
 refine wl_pure (v:=.int .i64 1) (fun _=>rfl) rfl ?_
 simp only[nm0,nm1,nm2,nm3]
 refine wl_pure (v:=.int .i64 8) (fun W=>by go_simp;decide) rfl ?_
 simp only[nm0,nm1,nm2,nm3]
 refine wl_pure (v:=.int .i64 16) (fun W=>by go_simp;decide) rfl ?_
 simp only[nm0,nm1,nm2,nm3]
 refine wl_pure (v:=.string (s.extract (8*1) (8*1+8))) (fun W=>run_slc_str W rfl rfl (slc_str (i:=8*1) (j:=8*1+8) W Tryz.underlying9 (by omega) (by omega))) rfl ?_
 simp only[nm0,nm1,nm2,nm3]
 refine wl_call hM5 (args:=#[.string (s.extract (8*1) (8*1+8))]) (v:=.string ⟨(s.extract (8*1) (8*1+8)).data.toList.reverse.toArray⟩) (fun W=>run_call_fn W (enters_of Tryz.func63 rfl rfl) rfl (by simp[Act.eval])) ((fun W=>rturn8 s 1 hs (by decide) W) W5) rfl fun W6 hM6=>?_
 simp only[nm0,nm1,nm2,nm3]
 refine wl_call hM6 (args:=#[.string ⟨(s.extract (8*1) (8*1+8)).data.toList.reverse.toArray⟩]) (v:=.int .u64 (w1:Int)) (fun W=>run_call_fn W (enters_of Tryz.func62 rfl rfl) rfl (by simp[Act.eval])) ((fun W=>rget8 s 1 w1 hs (by decide) hw1 W) W6) rfl fun W7 hM7=>?_
 simp only[nm0,nm1,nm2,nm3]
 refine wl_pure (v:=.pointer (some ⟨b2,1,none⟩)) (fun W=>run_index_of rfl rfl rfl (ix_Nu1 b2 W)) rfl ?_
 simp only[nm0,nm1,nm2,nm3]
 refine wl_setat hM7 0 (cs':=#[.int .u64 (w0:Int),.int .u64 (w1:Int),.int .u64 0,.int .u64 0]) rfl rfl rfl rfl (by show 1<4;decide) (rfl) cellU rfl rfl rfl fun W8 hM8=>?_
 simp only[nm2,nm3] at hM8
 refine wpList_nil ?_
 (go_step;go_step;refine wp_region_lit ?_)
 refine wl_pure (v:=.int .i64 1) (fun _=>rfl) rfl ?_
 simp only[nm0,nm1,nm2,nm3]
 refine wl_pure (v:=.int .i64 2) (fun W=>by go_simp;decide) rfl ?_
 simp only[nm0,nm1,nm2,nm3]
 refine wl_pure (v:=.int .i64 2) (fun _=>rfl) rfl ?_
 simp only[nm0,nm1,nm2,nm3]
 refine wpList_nil ?_
 go_step
 rw[rounds_succ]
 (go_step;go_step;refine wp_region_lit ?_)
 refine wl_pure (v:=.int .i64 2) (fun _=>rfl) rfl ?_
 simp only[nm0,nm1,nm2,nm3]
 refine wl_pure (v:=.bool true) (fun W=>by go_simp) rfl ?_
 simp only[nm0,nm1,nm2,nm3]
 refine wpList_nil ?_
 (go_step;go_step;go_step;go_step;go_step;go_step;go_step;go_step;refine wp_region_lit ?_)
 refine wl_pure (v:=.int .i64 2) (fun _=>rfl) rfl ?_
 simp only[nm0,nm1,nm2,nm3]
 refine wl_pure (v:=.string s) (fun _=>rfl) rfl ?_
 simp only[nm0,nm1,nm2,nm3]
 refine wl_pure (v:=.int .i64 2) (fun _=>rfl) rfl ?_
 simp only[nm0,nm1,nm2,nm3]
 refine wl_pure (v:=.int .i64 16) (fun W=>by go_simp;decide) rfl ?_
 simp only[nm0,nm1,nm2,nm3]
 refine wl_pure (v:=.int .i64 2) (fun _=>rfl) rfl ?_
 simp only[nm0,nm1,nm2,nm3]
 refine wl_pure (v:=.int .i64 16) (fun W=>by go_simp;decide) rfl ?_
 simp only[nm0,nm1,nm2,nm3]
 refine wl_pure (v:=.int .i64 24) (fun W=>by go_simp;decide) rfl ?_
 simp only[nm0,nm1,nm2,nm3]
 refine wl_pure (v:=.string (s.extract (8*2) (8*2+8))) (fun W=>run_slc_str W rfl rfl (slc_str (i:=8*2) (j:=8*2+8) W Tryz.underlying9 (by omega) (by omega))) rfl ?_
 simp only[nm0,nm1,nm2,nm3]
 refine wl_call hM8 (args:=#[.string (s.extract (8*2) (8*2+8))]) (v:=.string ⟨(s.extract (8*2) (8*2+8)).data.toList.reverse.toArray⟩) (fun W=>run_call_fn W (enters_of Tryz.func63 rfl rfl) rfl (by simp[Act.eval])) ((fun W=>rturn8 s 2 hs (by decide) W) W8) rfl fun W9 hM9=>?_
 simp only[nm0,nm1,nm2,nm3]
 refine wl_call hM9 (args:=#[.string ⟨(s.extract (8*2) (8*2+8)).data.toList.reverse.toArray⟩]) (v:=.int .u64 (w2:Int)) (fun W=>run_call_fn W (enters_of Tryz.func62 rfl rfl) rfl (by simp[Act.eval])) ((fun W=>rget8 s 2 w2 hs (by decide) hw2 W) W9) rfl fun W10 hM10=>?_
 simp only[nm0,nm1,nm2,nm3]
 refine wl_pure (v:=.pointer (some ⟨b2,2,none⟩)) (fun W=>run_index_of rfl rfl rfl (ix_Nu2 b2 W)) rfl ?_
 simp only[nm0,nm1,nm2,nm3]
 refine wl_setat hM10 0 (cs':=#[.int .u64 (w0:Int),.int .u64 (w1:Int),.int .u64 (w2:Int),.int .u64 0]) rfl rfl rfl rfl (by show 2<4;decide) (rfl) cellU rfl rfl rfl fun W11 hM11=>?_
 simp only[nm2,nm3] at hM11
 refine wpList_nil ?_
 (go_step;go_step;refine wp_region_lit ?_)
 refine wl_pure (v:=.int .i64 2) (fun _=>rfl) rfl ?_
 simp only[nm0,nm1,nm2,nm3]
 refine wl_pure (v:=.int .i64 3) (fun W=>by go_simp;decide) rfl ?_
 simp only[nm0,nm1,nm2,nm3]
 refine wl_pure (v:=.int .i64 3) (fun _=>rfl) rfl ?_
 simp only[nm0,nm1,nm2,nm3]
 refine wpList_nil ?_
 go_step
 rw[rounds_succ]
 (go_step;go_step;refine wp_region_lit ?_)
 refine wl_pure (v:=.int .i64 3) (fun _=>rfl) rfl ?_
 simp only[nm0,nm1,nm2,nm3]
 refine wl_pure (v:=.bool true) (fun W=>by go_simp) rfl ?_
 simp only[nm0,nm1,nm2,nm3]
 refine wpList_nil ?_
 (go_step;go_step;go_step;go_step;go_step;go_step;go_step;go_step;refine wp_region_lit ?_)
 refine wl_pure (v:=.int .i64 3) (fun _=>rfl) rfl ?_
 simp only[nm0,nm1,nm2,nm3]
 refine wl_pure (v:=.string s) (fun _=>rfl) rfl ?_
 simp only[nm0,nm1,nm2,nm3]
 refine wl_pure (v:=.int .i64 3) (fun _=>rfl) rfl ?_
 simp only[nm0,nm1,nm2,nm3]
 refine wl_pure (v:=.int .i64 24) (fun W=>by go_simp;decide) rfl ?_
 simp only[nm0,nm1,nm2,nm3]
 refine wl_pure (v:=.int .i64 3) (fun _=>rfl) rfl ?_
 simp only[nm0,nm1,nm2,nm3]
 refine wl_pure (v:=.int .i64 24) (fun W=>by go_simp;decide) rfl ?_
 simp only[nm0,nm1,nm2,nm3]
 refine wl_pure (v:=.int .i64 32) (fun W=>by go_simp;decide) rfl ?_
 simp only[nm0,nm1,nm2,nm3]
 refine wl_pure (v:=.string (s.extract (8*3) (8*3+8))) (fun W=>run_slc_str W rfl rfl (slc_str (i:=8*3) (j:=8*3+8) W Tryz.underlying9 (by omega) (by omega))) rfl ?_
 simp only[nm0,nm1,nm2,nm3]
 refine wl_call hM11 (args:=#[.string (s.extract (8*3) (8*3+8))]) (v:=.string ⟨(s.extract (8*3) (8*3+8)).data.toList.reverse.toArray⟩) (fun W=>run_call_fn W (enters_of Tryz.func63 rfl rfl) rfl (by simp[Act.eval])) ((fun W=>rturn8 s 3 hs (by decide) W) W11) rfl fun W12 hM12=>?_
 simp only[nm0,nm1,nm2,nm3]
 refine wl_call hM12 (args:=#[.string ⟨(s.extract (8*3) (8*3+8)).data.toList.reverse.toArray⟩]) (v:=.int .u64 (w3:Int)) (fun W=>run_call_fn W (enters_of Tryz.func62 rfl rfl) rfl (by simp[Act.eval])) ((fun W=>rget8 s 3 w3 hs (by decide) hw3 W) W12) rfl fun W13 hM13=>?_
 simp only[nm0,nm1,nm2,nm3]
 refine wl_pure (v:=.pointer (some ⟨b2,3,none⟩)) (fun W=>run_index_of rfl rfl rfl (ix_Nu3 b2 W)) rfl ?_
 simp only[nm0,nm1,nm2,nm3]
 refine wl_setat hM13 0 (cs':=#[.int .u64 (w0:Int),.int .u64 (w1:Int),.int .u64 (w2:Int),.int .u64 (w3:Int)]) rfl rfl rfl rfl (by show 3<4;decide) (rfl) cellU rfl rfl rfl fun W14 hM14=>?_
 simp only[nm2,nm3] at hM14
 refine wpList_nil ?_
 (go_step;go_step;refine wp_region_lit ?_)
 refine wl_pure (v:=.int .i64 3) (fun _=>rfl) rfl ?_
 simp only[nm0,nm1,nm2,nm3]
 refine wl_pure (v:=.int .i64 4) (fun W=>by go_simp;decide) rfl ?_
 simp only[nm0,nm1,nm2,nm3]
 refine wl_pure (v:=.int .i64 4) (fun _=>rfl) rfl ?_
 simp only[nm0,nm1,nm2,nm3]
 refine wpList_nil ?_
 go_step
 rw[rounds_succ]
 (go_step;go_step;refine wp_region_lit ?_)
 refine wl_pure (v:=.int .i64 4) (fun _=>rfl) rfl ?_
 simp only[nm0,nm1,nm2,nm3]
 refine wl_pure (v:=.bool false) (fun W=>by go_simp) rfl ?_
 simp only[nm0,nm1,nm2,nm3]
 refine wpList_nil ?_
 have EN:#[Value.int .u64 (w0:Int),.int .u64 (w1:Int),.int .u64 (w2:Int),.int .u64 (w3:Int)]=elR N:=by unfold elR;rw[← hw0,← hw1,← hw2,← hw3,hN]
 rw[EN] at hM14
 (go_step;go_step;go_step;go_step;go_step;go_step;go_step;refine wp_region_lit ?_)
 refine wl_row hM14 0 (v:=numV N) rfl rfl rfl rfl rowNu rfl ?_
 simp only[nm0,nm1,nm2,nm3]
 refine wl_set hM14 1 (cs:=(elR N)) rfl rfl rfl rfl rowNu rfl (one_el N) rfl rfl fun W15 hM15=>?_
 simp only[nm2,nm3] at hM15
 refine wpList_nil ?_
 (go_step;go_step;go_step;refine bodyPost_ret (v:=numV N) (results_arr Tryz.results22 rfl (hM15.load 1 rfl rowNu)) rfl ⟨?_,hM15.below⟩)
 exact rfl
section
variable {P:Program} {w w0 w' W:World} {M:List Blk} {o:Oper} {A:Act}
theorem hd_call {ops:Array Oper} {md:Region.Mode} {fuel:Nat} {listed:Array Bool} {Q:Exit→Act→World→Prop} {S:World→Prop} {n:Nat} {d:Tmp} {f:FuncId} {args:Array Value} {v:Value} (L:Array Bool) (hL:listed.setIfInBounds n true=L) (hr:Region.ready md ops listed=[n]) (hn:ops[n]?=some o) (hdd:o.dst=some d) (hgd:Region.wanted o (yielded ops A.tmps)=true) (hM:Mem w0 M w) (h:∀ W,(execOp A.eval o).run P W=.ok (.enter f args) W) (hc:Calls P f args w fun e w'=>e=.returned v∧Below w.heap.size w w')
    (hSW:∀ W,Mem w0 M W→S W) (hk:∀ W,Mem w0 M W→wpAnyH P md ops Q S fuel L (A.put (some d) v) W):wpAnyH P md ops Q S (fuel+1) listed A w :=
 wpAnyH_ready hr (by simp) fun j hj=>by
  obtain rfl:j=n:=by simpa using hj
  unfold wpOp
  simp only[hn]
  rw[if_pos hgd]
  refine .inl ?_
  unfold Oper.wp
  rw[h]
  refine hc.mono fun e w2 he=>?_
  obtain⟨rfl,hb⟩:=he
  show S _∧wpAnyH P md ops Q S fuel _ (A.put o.dst _) _
  rw[hdd,hL]
  exact⟨hSW _ (hM.calls hb),hk _ (hM.calls hb)⟩
end
end Go.Proofs.YtnaldciakclccaaGreat
