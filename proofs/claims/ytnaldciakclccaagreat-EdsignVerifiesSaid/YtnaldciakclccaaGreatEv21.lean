/- Lemmas of this proof. -/
import Derived.Laws.BitsAllLaws
import Derived.Laws.Bits64
import Derived.IntWalk
import Derived.Deep.RegionLaw
import Derived.Deep.AppendLies
import Derived.Laws.CopyRow
import Derived.Laws.CopyOwn
import Derived.Lib.SlBuf
import Derived.Deep.DeepCutAuto
import Derived.ProofKit
import Derived.Laws.Rows
import Derived.Deep.OwnRows
import Derived.Below
import Derived.Test.YtnaldciakclccaaGreatEv20
import Derived.Test.YtnaldciakclccaaGreatEv06
import Derived.Test.YtnaldciakclccaaGreatEv01
import Derived.Test.YtnaldciakclccaaGreatEv14
import Derived.Test.YtnaldciakclccaaGreatEv02
namespace Go.Proofs.YtnaldciakclccaaGreat
set_option maxRecDepth 20000
set_option maxHeartbeats 8000000
set_option linter.unusedSimpArgs false
set_option linter.unusedVariables false
open Go.RowKit
theorem Ii (x r:Nat) (hr:r<64):Ht 64 (x:Int) (r:Int)=(BY 64 x r:Int):=by
 unfold Ht
 rw[Int.toNat_natCast,show ((r:Int)%64).toNat=r by omega]
 rfl
theorem UG {w w':World} (h:∃ nq,w.drewN nq=w'):Below w.heap.size w w':=by
 obtain⟨nq,rfl⟩:=h
 exact⟨rfl,rfl,rfl,Nat.le_refl _,fun _ _=>rfl⟩
theorem GD {W:World} {b i:Nat} {vs:List Value} {t:TypeId} (h:W.heap[b]?=some (.cells vs.toArray t (0,0))):W.cell? ⟨b,i,none⟩=vs[i]?:=by
 simp[World.cell?,h]
theorem Nk (x n1 n2:Nat) (hx:x<M64) (h1:n1<64) (h2:n2<64) (b:Nat) (W:World) (h:W.heap[b]?=some (.cells #[.int .i64 (n1:Int),.int .i64 (n2:Int)] 3 (0,0))) :
    Calls Tryz.prog 181 #[.int .u64 (x:Int),.slice (some ⟨b,0,none⟩) 2 2] W fun e w'=>e=.returned (.int .u64 ((BY 64 x n1 ^^^ BY 64 x n2:Nat):Int))∧Below W.heap.size W w':=by
 have hb:∀ i,W.cell? ⟨b,i,none⟩=[Value.int .i64 (n1:Int),.int .i64 (n2:Int)][i]?:=fun i=>GD h
 refine (Uh (x:Int) b 0 2 2 [(n1:Int),(n2:Int)] W (by omega) (by unfold M64 at hx;omega) (by omega) (by decide) rfl (fun i hi=>?_) (by omega)).mono fun e w' he=>⟨?_,UG he.2⟩
 ·have hi2:i=0∨i=1:=by simp at hi;omega
  rcases hi2 with rfl | rfl
  ·exact hb 0
  ·exact hb 1
 ·rw[he.1]
  have e0:Fo (x:Int) (List.take 2 [(n1:Int),(n2:Int)])=bits .xor .u64 (bits .xor .u64 0 (Ht 64 x n1)) (Ht 64 x n2):=rfl
  rw[e0,Ii x n1 h1,Ii x n2 h2,show (0:Int)=((0:Nat):Int) from rfl,Dh 0 _ (by decide) (BT x n1 hx),Nat.zero_xor,Dh _ _ (BT x n1 hx) (BT x n2 hx)]
theorem Kq (x n1 n2 n3:Nat) (hx:x<M64) (h1:n1<64) (h2:n2<64) (h3:n3<64) (b:Nat) (W:World) (h:W.heap[b]?=some (.cells #[.int .i64 (n1:Int),.int .i64 (n2:Int),.int .i64 (n3:Int)] 3 (0,0))) :
    Calls Tryz.prog 181 #[.int .u64 (x:Int),.slice (some ⟨b,0,none⟩) 3 3] W fun e w'=>e=.returned (.int .u64 ((BY 64 x n1 ^^^ BY 64 x n2 ^^^ BY 64 x n3:Nat):Int))∧Below W.heap.size W w':=by
 have hb:∀ i,W.cell? ⟨b,i,none⟩=[Value.int .i64 (n1:Int),.int .i64 (n2:Int),.int .i64 (n3:Int)][i]?:=fun i=>GD h
 refine (Uh (x:Int) b 0 3 3 [(n1:Int),(n2:Int),(n3:Int)] W (by omega) (by unfold M64 at hx;omega) (by omega) (by decide) rfl (fun i hi=>?_) (by omega)).mono fun e w' he=>⟨?_,UG he.2⟩
 ·have hi2:i=0∨i=1∨i=2:=by simp at hi;omega
  rcases hi2 with rfl | rfl | rfl
  ·exact hb 0
  ·exact hb 1
  ·exact hb 2
 ·rw[he.1]
  have e0:Fo (x:Int) (List.take 3 [(n1:Int),(n2:Int),(n3:Int)])=bits .xor .u64 (bits .xor .u64 (bits .xor .u64 0 (Ht 64 x n1)) (Ht 64 x n2)) (Ht 64 x n3):=rfl
  rw[e0,Ii x n1 h1,Ii x n2 h2,Ii x n3 h3,show (0:Int)=((0:Nat):Int) from rfl,Dh 0 _ (by decide) (BT x n1 hx),Nat.zero_xor,Dh _ _ (BT x n1 hx) (BT x n2 hx),Dh _ _ (D9 (BT x n1 hx) (BT x n2 hx)) (BT x n3 hx)]
theorem Wl (x y z:Nat) (hx:x<M64) (hy:y<M64) (hz:z<M64) (w:World) :
    Calls Tryz.prog 182 #[.int .u64 (x:Int),.int .u64 (y:Int),.int .u64 (z:Int)] w fun e w'=>e=.returned (.int .u64 (BP x y z:Int))∧Below w.heap.size w w':=by
 refine (Pa (x:Int) (y:Int) (z:Int) w).mono ?_
 rintro e w' ⟨rfl,rfl⟩
 exact⟨by rw[DT x y z hx hy hz],Below.refl _ _⟩
theorem cc (x y z:Nat) (hx:x<M64) (hy:y<M64) (hz:z<M64) (w:World) :
    Calls Tryz.prog 183 #[.int .u64 (x:Int),.int .u64 (y:Int),.int .u64 (z:Int)] w fun e w'=>e=.returned (.int .u64 (CN x y z:Int))∧Below w.heap.size w w':=by
 refine (TG (x:Int) (y:Int) (z:Int) w).mono ?_
 rintro e w' ⟨rfl,rfl⟩
 exact⟨by rw[EX x y z hx hy hz],Below.refl _ _⟩
theorem bi (a0 a1:Nat) (h0:a0<M64) (b:Nat) (W:World) (h:W.heap[b]?=some (.cells #[.int .u64 (a0:Int),.int .u64 (a1:Int)] 22 (0,0))) :
    Calls Tryz.prog 180 #[.slice (some ⟨b,0,none⟩) 2 2] W fun e w'=>e=.returned (.int .u64 (((a0+a1)%M64:Nat):Int))∧Below W.heap.size W w':=by
 have hb:∀ i,W.cell? ⟨b,i,none⟩=[Value.int .u64 (a0:Int),.int .u64 (a1:Int)][i]?:=fun i=>GD h
 have c0:W.cell? ⟨b,0,none⟩=some (.int .u64 (a0:Int)):=hb 0
 have c1:W.cell? ⟨b,1,none⟩=some (.int .u64 (a1:Int)):=hb 1
 have e0:IntKind.u64.wrap (a0:Int)=(a0:Int):=by rw[Fj,Nat.mod_eq_of_lt h0]
 have e1:IntKind.u64.wrap ((a0:Int)+(a1:Int))=(((a0+a1)%M64:Nat):Int):=by rw[← Fj];push_cast;rfl
 clear hb h e1
 go_enter Tryz.func180,Tryz.ntmps180
 go_wp2_with fail
 refine wp_loop_rounds 3 ?_
 rw[rounds_succ];go_wp2
 rw[rounds_succ];go_wp2
 rw[rounds_succ];go_wp2
 go_ret
 exact⟨BE (by simp only[IntKind.wrap_u64];unfold M64;omega),Below.refl _ _⟩
theorem Y6 (a0 a1 a2 a3:Nat) (h0:a0<M64) (b:Nat) (W:World) (h:W.heap[b]?=some (.cells #[.int .u64 (a0:Int),.int .u64 (a1:Int),.int .u64 (a2:Int),.int .u64 (a3:Int)] 22 (0,0))) :
    Calls Tryz.prog 180 #[.slice (some ⟨b,0,none⟩) 4 4] W fun e w'=>e=.returned (.int .u64 (((a0+a1+a2+a3)%M64:Nat):Int))∧Below W.heap.size W w':=by
 have hb:∀ i,W.cell? ⟨b,i,none⟩=[Value.int .u64 (a0:Int),.int .u64 (a1:Int),.int .u64 (a2:Int),.int .u64 (a3:Int)][i]?:=fun i=>GD h
 have c0:W.cell? ⟨b,0,none⟩=some (.int .u64 (a0:Int)):=hb 0
 have c1:W.cell? ⟨b,1,none⟩=some (.int .u64 (a1:Int)):=hb 1
 have c2:W.cell? ⟨b,2,none⟩=some (.int .u64 (a2:Int)):=hb 2
 have c3:W.cell? ⟨b,3,none⟩=some (.int .u64 (a3:Int)):=hb 3
 have e0:IntKind.u64.wrap (a0:Int)=(a0:Int):=by rw[Fj,Nat.mod_eq_of_lt h0]
 have e1:IntKind.u64.wrap (IntKind.u64.wrap (IntKind.u64.wrap ((a0:Int)+(a1:Int))+(a2:Int))+(a3:Int))=(((a0+a1+a2+a3)%M64:Nat):Int):=by
  rw[IntKind.wrap_u64,IntKind.wrap_u64,IntKind.wrap_u64]
  unfold M64
  omega
 clear hb h e1
 go_enter Tryz.func180,Tryz.ntmps180
 go_wp2_with fail
 refine wp_loop_rounds 5 ?_
 rw[rounds_succ];go_wp2
 rw[rounds_succ];go_wp2
 rw[rounds_succ];go_wp2
 rw[rounds_succ];go_wp2
 rw[rounds_succ];go_wp2
 go_ret
 exact⟨BE (by simp only[IntKind.wrap_u64];unfold M64;omega),Below.refl _ _⟩
theorem ZW (a0 a1 a2 a3 a4:Nat) (h0:a0<M64) (b:Nat) (W:World) (h:W.heap[b]?=some (.cells #[.int .u64 (a0:Int),.int .u64 (a1:Int),.int .u64 (a2:Int),.int .u64 (a3:Int),.int .u64 (a4:Int)] 22 (0,0))) :
    Calls Tryz.prog 180 #[.slice (some ⟨b,0,none⟩) 5 5] W fun e w'=>e=.returned (.int .u64 (((a0+a1+a2+a3+a4)%M64:Nat):Int))∧Below W.heap.size W w':=by
 have hb:∀ i,W.cell? ⟨b,i,none⟩=[Value.int .u64 (a0:Int),.int .u64 (a1:Int),.int .u64 (a2:Int),.int .u64 (a3:Int),.int .u64 (a4:Int)][i]?:=fun i=>GD h
 have c0:W.cell? ⟨b,0,none⟩=some (.int .u64 (a0:Int)):=hb 0
 have c1:W.cell? ⟨b,1,none⟩=some (.int .u64 (a1:Int)):=hb 1
 have c2:W.cell? ⟨b,2,none⟩=some (.int .u64 (a2:Int)):=hb 2
 have c3:W.cell? ⟨b,3,none⟩=some (.int .u64 (a3:Int)):=hb 3
 have c4:W.cell? ⟨b,4,none⟩=some (.int .u64 (a4:Int)):=hb 4
 have e0:IntKind.u64.wrap (a0:Int)=(a0:Int):=by rw[Fj,Nat.mod_eq_of_lt h0]
 have e1:IntKind.u64.wrap (IntKind.u64.wrap (IntKind.u64.wrap (IntKind.u64.wrap ((a0:Int)+(a1:Int))+(a2:Int))+(a3:Int))+(a4:Int))=(((a0+a1+a2+a3+a4)%M64:Nat):Int):=by
  rw[IntKind.wrap_u64,IntKind.wrap_u64,IntKind.wrap_u64,IntKind.wrap_u64]
  unfold M64
  omega
 clear hb h e1
 go_enter Tryz.func180,Tryz.ntmps180
 go_wp2_with fail
 refine wp_loop_rounds 6 ?_
 rw[rounds_succ];go_wp2
 rw[rounds_succ];go_wp2
 rw[rounds_succ];go_wp2
 rw[rounds_succ];go_wp2
 rw[rounds_succ];go_wp2
 rw[rounds_succ];go_wp2
 go_ret
 exact⟨BE (by simp only[IntKind.wrap_u64];unfold M64;omega),Below.refl _ _⟩
def hexd (x:Int):Int:=if x<10 then x+48 else x+87
theorem Vu (x:Int) (w:World) (x0:0≤x) (x1:x<16) :
    Calls Tryz.prog 207 #[.int .u8 x] w fun e w'=>e=.returned (.int .u8 (hexd x))∧w=w':=by
 by_cases h:x<10
 ·have E:Hid (hexd x=x+48):=if_pos h
  go_enter Tryz.func207,Tryz.ntmps207
  go_wp2
  go_ret
  exact⟨BE (by rw[E.out];omega),rfl⟩
 ·have E:Hid (hexd x=x+87):=if_neg h
  go_enter Tryz.func207,Tryz.ntmps207
  go_wp2
  go_ret
  exact⟨BE (by rw[E.out];omega),rfl⟩
theorem iJ (x:Int) (x0:0≤x) (x1:x<256):bits .and .u8 x 15=x%16:=by
 rw[u8_and x 15 x0 x1 (by decide) (by decide)]
 have e:(15:Int).toNat=15:=rfl
 rw[e,nat_mask4]
 omega
theorem Ui (x:Int) (x0:0≤x) (x1:x<16) (h:x.toNat<(⟨#[48,49,50,51,52,53,54,55,56,57,97,98,99,100,101,102]⟩:ByteArray).size) :
    (((⟨#[48,49,50,51,52,53,54,55,56,57,97,98,99,100,101,102]⟩:ByteArray)[x.toNat]).toNat:Int)=hexd x:=by
 obtain⟨n,rfl⟩:=Int.eq_ofNat_of_zero_le x0
 have hn:n<16:=by omega
 match n,hn with
 | 0,_=>rfl | 1,_=>rfl | 2,_=>rfl | 3,_=>rfl | 4,_=>rfl | 5,_=>rfl | 6,_=>rfl | 7,_=>rfl
 | 8,_=>rfl | 9,_=>rfl | 10,_=>rfl | 11,_=>rfl | 12,_=>rfl | 13,_=>rfl | 14,_=>rfl | 15,_=>rfl
theorem ai (v:Value) (n:Nat) (xs:List Value) (base bb off m c:Nat) (x:Int) (w:World) (x0:0≤x) (x1:x<256) (hm:0<m) (hown:w.ownsRow base 5 1 v n xs) (hx:w.cell? ⟨bb,off,none⟩=some (.int .u8 x))
    (hn:n≤1000000) (hb:base≤w.heap.size) (hbb:bb<base) :
    Calls Tryz.prog 58 #[v,.slice (some ⟨bb,off,none⟩) m c] w fun e w' =>
     ∃ v',e=.returned v'∧w'.ownsRow base 5 1 v' (n+2) (xs++[.int .u8 (hexd (x/16)),.int .u8 (hexd (x%16))])∧Below base w w':=by
 have k0:0≤x/16:=by omega
 have k1:x/16<16:=by omega
 have k2:0≤x%16:=by omega
 have k3:x%16<16:=by omega
 have ha:=iJ x x0 x1
 have h1:=Ui (x/16) k0 k1 (by show (x/16).toNat<16;omega)
 have h2:=Ui (x%16) k2 k3 (by show (x%16).toNat<16;omega)
 have hne:some bb≠v.ownBlock:=fun e=>by have:=hown.lt bb e.symm;omega
 obtain⟨i0,hi,hz0,hz1,hz2⟩:=info_parts Tryz.info_u8
 go_enter Tryz.func58,Tryz.ntmps58
 go_wp2
 go_region_held3 (fun w'=>w'.cell? ⟨bb,off,none⟩=some (.int .u8 x)) (first | go_keep | (rw[hgrow2.cell_far _ (by simp;omega) hne];assumption)) ((refine Dn rfl (.tmp 5) (.tmp 16) 90 rfl base 5 i0 (.int .u8 0) 1 1 Tryz.underlying90 hi hz0 hz1 hz2 rfl (by decide) v n xs (by simp[Act.eval]) (by exact hown.alloc _) ⟨w.heap.size,0,none⟩ 2 2 [.int .u8 (hexd (x/16)),.int .u8 (hexd (x%16))] (by simp[Act.eval]) rfl (by exact BK w #[_,_] _) (by simp[Value.oneCell']) (by unfold maxLen;omega) (by omega) (by simp;omega) ?_;intro v2 w2 hown2 hgrow2))
 all_goals (go_wp2;go_ret;exact⟨v2,rfl,hown2,(((Below.refl base w).alloc hb _).drew).grown hgrow2 (by simp;omega) (fun j hj=>(hown.lt j hj).1)⟩)
theorem aT (a b q:Int) (i:Nat) (ha:0≤a) (hq:a=q*((2^i:Nat):Int)) (hb:0≤b) (hb':b<((2^i:Nat):Int)):a.toNat ||| b.toNat=(a+b).toNat:=by
 have hq0:a.toNat%2^i=0:=by
  have h1:((a.toNat:Nat):Int)=a:=Int.toNat_of_nonneg ha
  have h2:((a.toNat%2^i:Nat):Int)=0:=by rw[Int.natCast_emod,h1,hq];exact Int.mul_emod_left _ _
  exact Int.ofNat_eq_zero.1 h2
 rw[nat_join i _ _ hq0 (by omega)]
 omega
theorem fa (a b q:Int) (i:Nat) (ha:0≤a) (ha':a<18446744073709551616) (hq:a=q*((2^i:Nat):Int)) (hb:0≤b) (hb1:b<18446744073709551616) (hb':b<((2^i:Nat):Int)):bits .or .u64 a b=a+b:=by
 rw[u64_or a b ha ha' hb hb1,aT a b q i ha hq hb hb'];omega
theorem Ty (v:Value) (n:Nat) (xs:List Value) (base bb off m c:Nat) (x:Int) (w:World) (hm:0<m) (hown:w.ownsRow base 5 1 v n xs) (hx:w.cell? ⟨bb,off,none⟩=some (.int .u64 x))
    (hn:n≤1000000) (hb:base≤w.heap.size) (hbb:bb<base) :
    Calls Tryz.prog 192 #[v,.slice (some ⟨bb,off,none⟩) m c] w fun e w' =>
     ∃ v',e=.returned v'∧w'.ownsRow base 5 1 v' (n+8) (xs++(List.range 8).map fun i=>.int .u8 (x/2^(56-8*i)%256))∧Below base w w':=by
 obtain⟨i0,hi,hz0,hz1,hz2⟩:=info_parts Tryz.info_u8
 have HO:=Lh hown
 clear hown
 go_enter Tryz.func192,Tryz.ntmps192
 go_wp2_with fail
 go_loopw [0,6] (fun o i wr=>∃ k:Nat,k≤8∧i=.int .i64 k∧wr.ownsRow base 5 1 o (n+k) (xs++(List.range k).map fun i=>.int .u8 (x/2^(56-8*i)%256))∧Below base w wr) (fun _ i _=>8-(intOf i).toNat)
 case atStart=>exact⟨0,by omega,rfl,by simpa using HO.out,Below.refl _ _⟩
 case round =>
  obtain⟨k,hk,rfl,hown,hgr⟩:=hrel
  have HW:=Lh hown
  have hbw:base≤wr.heap.size:=Nat.le_trans hb hgr.size
  clear hown
  by_cases hlt:k<8
  ·have hck:wr.cell? ⟨bb,off,none⟩=some (.int .u64 x):=(hgr.cell (by exact hbb)).trans hx
   have s1:IntKind.i64.wrap (8*(k:Int))=8*k:=IntWalk.i64_in _ (by omega)
   have s2:IntKind.i64.wrap (56-8*(k:Int))=56-8*k:=IntWalk.i64_in _ (by omega)
   have s3:0≤56-8*(k:Int):=by omega
   go_wp2_with (at_builtin;refine wpList_append_own _ rfl (.tmp 9) (.tmp 18) 90 rfl base 5 i0 (.int .u8 0) 1 1 Tryz.underlying90 hi hz0 hz1 hz2 rfl (by decide) _ (n+k) _ rfl (HW.out.alloc _) ⟨wr.heap.size,0,none⟩ 1 1 _ (by simp[Act.eval]) rfl (by exact BK wr #[_] _) (by simp[Value.oneCell']) (by unfold maxLen;omega) (by omega) (by simp;omega) ?_;intro v2 w2 hown2 hgrow2 _)
   go_roundw
   case rel=>exact⟨k+1,by omega,by go_num,by rw[List.range_succ,List.map_append,← List.append_assoc];exact hown2,(hgr.alloc hbw _).grown hgrow2 (by simp;omega) (fun j hj=>(HW.out.lt j hj).1)⟩
   case measure=>simp[intOf];omega
  ·obtain rfl:k=8:=by omega
   go_wp2_with fail
   go_ret
   exact⟨_,rfl,HW.out,hgr⟩
theorem Su (m:Nat) (G:Nat→List Value) (bl off n cap:Nat) (A0:Option Addr) (X:Nat→Value) (w:World) (hA:1≤n→A0=some ⟨bl,off,none⟩) (hbl:1≤n→bl<w.heap.size) (hcap:n≤cap) (hn:n≤100000) (hm:m≤8)
    (hcell:∀ i,i<n→w.cell? ⟨bl,off+i,none⟩=some (X i))
    (hstep:∀ (W:World) (v:Value) (q:Nat) (xs:List Value) (k c:Nat),k+1≤n→w.heap.size≤W.heap.size→W.ownsRow w.heap.size 5 1 v q xs→(∀ j,j<1→W.cell? ⟨bl,off+k+j,none⟩=some (X (k+j)))→q≤1000000 →
     Calls Tryz.prog 58 #[v,.slice (some ⟨bl,off+k,none⟩) 1 c] W fun e w'=>∃ v',e=.returned v'∧w'.ownsRow w.heap.size 5 1 v' (q+m) (xs++G k)∧Below w.heap.size W w') :
    Calls Tryz.prog 57 #[.slice A0 n cap,.int .i64 1,.func (.func 58) #[] #[]] w fun e w' =>
     ∃ v',e=.returned v'∧w'.ownsRow w.heap.size 5 1 v' (n*m) ((List.range (n)).flatMap G)∧Below w.heap.size w w':=by
 obtain⟨i0,hi,hz0,hz1,hz2⟩:=info_parts Tryz.info_u8
 have HS:=Lh hstep
 have HC:=Lh hcell
 have HA:=Lh hA
 have HB:=Lh hbl
 clear hstep hcell hA hbl
 go_enter Tryz.func57,Tryz.ntmps57
 go_wp2_with (at_make;refine wpList_make_own _ rfl (.const (.int .i64 0)) (.tmp 11) 90 rfl w.heap.size 5 i0 (.int .u8 0) 1 Tryz.underlying90 hi hz0 hz1 .i64 .i64 ((n:Nat):Int) (n) rfl (by simp[Act.eval]) rfl (by rw[hz2];omega) (by unfold maxLen;omega) (Nat.le_refl _) ?_;intro w1 hown1 hgrow1)
 go_loopw [0,7] (fun l out wr=>∃ (k:Nat) (A:Option Addr),k≤n∧l=.slice A (n-k) (cap-k)∧(k+1≤n→A=some ⟨bl,off+k,none⟩)∧wr.ownsRow w.heap.size 5 1 out (k*m) ((List.range k).flatMap G)∧Below w.heap.size w wr) (fun l _ _=>match l with | .slice _ q _=>q | _=>0)
 case atStart=>exact⟨0,A0,by omega,rfl,by simpa using HA.out,by simpa using hown1,(Below.refl _ _).grown hgrow1 (Nat.le_refl _) (by simp)⟩
 case round =>
  obtain⟨k,A,hk,rfl,hAk,hown,hb⟩:=hrel
  by_cases hlt:k+1≤n
  ·obtain rfl:=hAk hlt
   have hq:k*m≤1000000:=Nat.le_trans (Nat.mul_le_mul (by omega:k≤100000) hm) (by omega)
   have cl:∀ j,j<1→wr.cell? ⟨bl,off+k+j,none⟩=some (X (k+j)):=fun j hj=>by
    rw[Nat.add_assoc];exact (hb.cell (by exact HB.out (by omega))).trans (HC.out (k+j) (by omega))
   have st:=fun c=>HS.out wr _ (k*m) _ k c hlt hb.size hown cl hq
   have ST:=Lh st
   clear st hAk cl
   go_wp2_with (go_at_call 58;refine (ST.out _).mono ?_;rintro e w' ⟨v',rfl,hown',hgrow'⟩)
   go_roundw
   case rel =>
    refine⟨k+1,(if cap-k=1 then some ⟨bl,off+k,none⟩ else some ⟨bl,off+k+1,none⟩),by omega,?_,?_,?_,hb.trans hgrow'⟩
    rotate_left
    ·intro h
     rw[if_neg (by omega)]
     congr 2
    ·rw[Nat.succ_mul,List.range_succ,List.flatMap_append]
     simpa using hown'
    ·congr 1 <;> omega
   case measure =>
    show n-k-1<n-k
    omega
  ·obtain rfl:k=n:=by omega
   go_wp2_with fail
   go_ret
   exact⟨_,rfl,hown,hb⟩
theorem OU (m:Nat) (G:Nat→List Value) (bl off n cap:Nat) (A0:Option Addr) (X:Nat→Value) (w:World) (hA:1≤n→A0=some ⟨bl,off,none⟩) (hbl:1≤n→bl<w.heap.size) (hcap:n≤cap) (hn:n≤100000) (hm:m≤8)
    (hcell:∀ i,i<n→w.cell? ⟨bl,off+i,none⟩=some (X i))
    (hstep:∀ (W:World) (v:Value) (q:Nat) (xs:List Value) (k c:Nat),k+1≤n→w.heap.size≤W.heap.size→W.ownsRow w.heap.size 5 1 v q xs→(∀ j,j<1→W.cell? ⟨bl,off+k+j,none⟩=some (X (k+j)))→q≤1000000 →
     Calls Tryz.prog 192 #[v,.slice (some ⟨bl,off+k,none⟩) 1 c] W fun e w'=>∃ v',e=.returned v'∧w'.ownsRow w.heap.size 5 1 v' (q+m) (xs++G k)∧Below w.heap.size W w') :
    Calls Tryz.prog 191 #[.slice A0 n cap,.int .i64 1,.func (.func 192) #[] #[]] w fun e w' =>
     ∃ v',e=.returned v'∧w'.ownsRow w.heap.size 5 1 v' (n*m) ((List.range (n)).flatMap G)∧Below w.heap.size w w':=by
 obtain⟨i0,hi,hz0,hz1,hz2⟩:=info_parts Tryz.info_u8
 have HS:=Lh hstep
 have HC:=Lh hcell
 have HA:=Lh hA
 have HB:=Lh hbl
 clear hstep hcell hA hbl
 go_enter Tryz.func191,Tryz.ntmps191
 go_wp2_with (at_make;refine wpList_make_own _ rfl (.const (.int .i64 0)) (.tmp 11) 90 rfl w.heap.size 5 i0 (.int .u8 0) 1 Tryz.underlying90 hi hz0 hz1 .i64 .i64 ((n:Nat):Int) (n) rfl (by simp[Act.eval]) rfl (by rw[hz2];omega) (by unfold maxLen;omega) (Nat.le_refl _) ?_;intro w1 hown1 hgrow1)
 go_loopw [0,7] (fun l out wr=>∃ (k:Nat) (A:Option Addr),k≤n∧l=.slice A (n-k) (cap-k)∧(k+1≤n→A=some ⟨bl,off+k,none⟩)∧wr.ownsRow w.heap.size 5 1 out (k*m) ((List.range k).flatMap G)∧Below w.heap.size w wr) (fun l _ _=>match l with | .slice _ q _=>q | _=>0)
 case atStart=>exact⟨0,A0,by omega,rfl,by simpa using HA.out,by simpa using hown1,(Below.refl _ _).grown hgrow1 (Nat.le_refl _) (by simp)⟩
 case round =>
  obtain⟨k,A,hk,rfl,hAk,hown,hb⟩:=hrel
  by_cases hlt:k+1≤n
  ·obtain rfl:=hAk hlt
   have hq:k*m≤1000000:=Nat.le_trans (Nat.mul_le_mul (by omega:k≤100000) hm) (by omega)
   have cl:∀ j,j<1→wr.cell? ⟨bl,off+k+j,none⟩=some (X (k+j)):=fun j hj=>by
    rw[Nat.add_assoc];exact (hb.cell (by exact HB.out (by omega))).trans (HC.out (k+j) (by omega))
   have st:=fun c=>HS.out wr _ (k*m) _ k c hlt hb.size hown cl hq
   have ST:=Lh st
   clear st hAk cl
   go_wp2_with (go_at_call 192;refine (ST.out _).mono ?_;rintro e w' ⟨v',rfl,hown',hgrow'⟩)
   go_roundw
   case rel =>
    refine⟨k+1,(if cap-k=1 then some ⟨bl,off+k,none⟩ else some ⟨bl,off+k+1,none⟩),by omega,?_,?_,?_,hb.trans hgrow'⟩
    rotate_left
    ·intro h
     rw[if_neg (by omega)]
     congr 2
    ·rw[Nat.succ_mul,List.range_succ,List.flatMap_append]
     simpa using hown'
    ·congr 1 <;> omega
   case measure =>
    show n-k-1<n-k
    omega
  ·obtain rfl:k=n:=by omega
   go_wp2_with fail
   go_ret
   exact⟨_,rfl,hown,hb⟩
theorem OI (m:Nat) (G:Nat→List Value) (bl off n cap:Nat) (A0:Option Addr) (X:Nat→Value) (w:World) (hA:8≤n→A0=some ⟨bl,off,none⟩) (hbl:8≤n→bl<w.heap.size) (hcap:n≤cap) (hn:n≤100000) (hm:m≤8)
    (hcell:∀ i,i<n→w.cell? ⟨bl,off+i,none⟩=some (X i))
    (hstep:∀ (W:World) (v:Value) (q:Nat) (xs:List Value) (k c:Nat),8*k+8≤n→w.heap.size≤W.heap.size→W.ownsRow w.heap.size 22 1 v q xs→(∀ j,j<8→W.cell? ⟨bl,off+8*k+j,none⟩=some (X (8*k+j)))→q≤1000000 →
     Calls Tryz.prog 209 #[v,.slice (some ⟨bl,off+8*k,none⟩) 8 c] W fun e w'=>∃ v',e=.returned v'∧w'.ownsRow w.heap.size 22 1 v' (q+m) (xs++G k)∧Below w.heap.size W w') :
    Calls Tryz.prog 208 #[.slice A0 n cap,.int .i64 8,.func (.func 209) #[] #[]] w fun e w' =>
     ∃ v',e=.returned v'∧w'.ownsRow w.heap.size 22 1 v' (n/8*m) ((List.range (n/8)).flatMap G)∧Below w.heap.size w w':=by
 obtain⟨i0,hi,hz0,hz1,hz2⟩:=info_parts Tryz.info_u64
 have HS:=Lh hstep
 have HC:=Lh hcell
 have HA:=Lh hA
 have HB:=Lh hbl
 clear hstep hcell hA hbl
 go_enter Tryz.func208,Tryz.ntmps208
 go_wp2_with (at_make;refine wpList_make_own _ rfl (.const (.int .i64 0)) (.tmp 11) 95 rfl w.heap.size 22 i0 (.int .u64 0) 1 Tryz.underlying95 hi hz0 hz1 .i64 .i64 ((n/8:Nat):Int) (n/8) rfl (by simp[Act.eval]) rfl (by rw[hz2];omega) (by unfold maxLen;omega) (Nat.le_refl _) ?_;intro w1 hown1 hgrow1)
 go_loopw [0,7] (fun l out wr=>∃ (k:Nat) (A:Option Addr),8*k≤n∧l=.slice A (n-8*k) (cap-8*k)∧(8*k+8≤n→A=some ⟨bl,off+8*k,none⟩)∧wr.ownsRow w.heap.size 22 1 out (k*m) ((List.range k).flatMap G)∧Below w.heap.size w wr) (fun l _ _=>match l with | .slice _ q _=>q | _=>0)
 case atStart=>exact⟨0,A0,by omega,rfl,by simpa using HA.out,by simpa using hown1,(Below.refl _ _).grown hgrow1 (Nat.le_refl _) (by simp)⟩
 case round =>
  obtain⟨k,A,hk,rfl,hAk,hown,hb⟩:=hrel
  by_cases hlt:8*k+8≤n
  ·obtain rfl:=hAk hlt
   have hq:k*m≤1000000:=Nat.le_trans (Nat.mul_le_mul (by omega:k≤100000) hm) (by omega)
   have cl:∀ j,j<8→wr.cell? ⟨bl,off+8*k+j,none⟩=some (X (8*k+j)):=fun j hj=>by
    rw[Nat.add_assoc];exact (hb.cell (by exact HB.out (by omega))).trans (HC.out (8*k+j) (by omega))
   have st:=fun c=>HS.out wr _ (k*m) _ k c hlt hb.size hown cl hq
   have ST:=Lh st
   clear st hAk cl
   go_wp2_with (go_at_call 209;refine (ST.out _).mono ?_;rintro e w' ⟨v',rfl,hown',hgrow'⟩)
   go_roundw
   case rel =>
    refine⟨k+1,(if cap-8*k=8 then some ⟨bl,off+8*k,none⟩ else some ⟨bl,off+8*k+8,none⟩),by omega,?_,?_,?_,hb.trans hgrow'⟩
    rotate_left
    ·intro h
     rw[if_neg (by omega)]
     congr 2
    ·rw[Nat.succ_mul,List.range_succ,List.flatMap_append]
     simpa using hown'
    ·congr 1 <;> omega
   case measure =>
    show n-8*k-8<n-8*k
    omega
  ·obtain rfl:k=n/8:=by omega
   go_wp2_with fail
   go_ret
   exact⟨_,rfl,hown,hb⟩
def Kv (B:Nat→Int):Nat→Int
 | 0=>0
 | k+1=>Kv B k+B k*((2^(56-8*k):Nat):Int)
theorem JU (B:Nat→Int) (hB:∀ i,0≤B i∧B i<256):∀ k,k≤8→∃ q:Int,Kv B k=q*((2^(64-8*k):Nat):Int)∧0≤q∧q<((2^(8*k):Nat):Int)
 | 0,_=>⟨0,by simp[Kv],by decide,by decide⟩
 | k+1,hk=>by
   obtain⟨q,e,q0,q1⟩:=JU B hB k (by omega)
   obtain⟨b0,b1⟩:=hB k
   refine⟨q*256+B k,?_,by omega,?_⟩
   ·show Kv B k+B k*((2^(56-8*k):Nat):Int)=_
    rw[e]
    have h1:64-8*k=8+(56-8*k):=by omega
    have h2:64-8*(k+1)=56-8*k:=by omega
    rw[h1,h2,Nat.pow_add,Int.natCast_mul]
    generalize ((2^(56-8*k):Nat):Int)=z
    have h3:((2^8:Nat):Int)=256:=rfl
    rw[h3];grind
   ·have h1:8*(k+1)=8*k+8:=by omega
    rw[h1,Nat.pow_add,Int.natCast_mul]
    have h3:((2^8:Nat):Int)=256:=rfl
    rw[h3]
    generalize ((2^(8*k):Nat):Int)=z at *
    omega
theorem NV (k:Nat) (hk:k≤64):((2^k:Nat):Int)≤18446744073709551616:=by
 have:2^k≤2^64:=Nat.pow_le_pow_right (by decide) hk
 omega
theorem dO (B:Nat→Int) (hB:∀ i,0≤B i∧B i<256) (k:Nat) (hk:k≤8):0≤Kv B k∧Kv B k<18446744073709551616:=by
 obtain⟨q,e,q0,q1⟩:=JU B hB k hk
 have hz:((2^(64-8*k):Nat):Int)*((2^(8*k):Nat):Int)=18446744073709551616:=by
  rw[← Int.natCast_mul,← Nat.pow_add,show 64-8*k+8*k=64 from by omega];rfl
 have hp:0<((2^(64-8*k):Nat):Int):=by have:=Nat.two_pow_pos (64-8*k);omega
 rw[e]
 refine⟨Int.mul_nonneg q0 (by omega),?_⟩
 rw[← hz,Int.mul_comm]
 exact Int.mul_lt_mul_of_pos_left q1 hp
theorem bP (B:Nat→Int) (hB:∀ i,0≤B i∧B i<256) (k:Nat) (hk:k<8):bits .or .u64 (Kv B k) (B k*((2^(56-8*k):Nat):Int))=Kv B (k+1):=by
 obtain⟨q,e,_,_⟩:=JU B hB k (by omega)
 obtain⟨h0,h1⟩:=dO B hB k (by omega)
 obtain⟨b0,b1⟩:=hB k
 have hp:0<((2^(56-8*k):Nat):Int):=by have:=Nat.two_pow_pos (56-8*k);omega
 have h2:((2^(64-8*k):Nat):Int)=256*((2^(56-8*k):Nat):Int):=by
  rw[show 64-8*k=8+(56-8*k) from by omega,Nat.pow_add,Int.natCast_mul];rfl
 have h3:=NV (64-8*k) (by omega)
 have h4:B k*((2^(56-8*k):Nat):Int)<((2^(64-8*k):Nat):Int):=by rw[h2];exact Int.mul_lt_mul_of_pos_right b1 hp
 exact fa _ _ q (64-8*k) h0 h1 e (Int.mul_nonneg b0 (by omega)) (by omega) h4
theorem Wr (B:Nat→Int) (hB:∀ i,0≤B i∧B i<256) (k:Nat) (hk:k<8):IntKind.u64.wrap (B k*((2^(56-8*k):Nat):Int))=B k*((2^(56-8*k):Nat):Int):=by
 obtain⟨b0,b1⟩:=hB k
 have hp:0<((2^(56-8*k):Nat):Int):=by have:=Nat.two_pow_pos (56-8*k);omega
 have h2:((2^(64-8*k):Nat):Int)=256*((2^(56-8*k):Nat):Int):=by
  rw[show 64-8*k=8+(56-8*k) from by omega,Nat.pow_add,Int.natCast_mul];rfl
 have h3:=NV (64-8*k) (by omega)
 have h4:B k*((2^(56-8*k):Nat):Int)<256*((2^(56-8*k):Nat):Int):=Int.mul_lt_mul_of_pos_right b1 hp
 have h5:=Int.mul_nonneg b0 (by omega:0≤((2^(56-8*k):Nat):Int))
 rw[IntKind.wrap_u64]
 exact Int.emod_eq_of_lt h5 (by omega)
theorem Si (v:Value) (n:Nat) (xs:List Value) (base bb off c:Nat) (B:Nat→Int) (w:World) (hown:w.ownsRow base 22 1 v n xs)
    (hc:∀ j,j<8→w.cell? ⟨bb,off+j,none⟩=some (.int .u8 (B j))) (hB:∀ i,0≤B i∧B i<256) (hn:n≤1000000) (hb:base≤w.heap.size) :
    Calls Tryz.prog 209 #[v,.slice (some ⟨bb,off,none⟩) 8 c] w fun e w' =>
     ∃ v',e=.returned v'∧w'.ownsRow base 22 1 v' (n+1) (xs++[.int .u64 (Kv B 8)])∧Below base w w':=by
 obtain⟨i0,hi,hz0,hz1,hz2⟩:=info_parts Tryz.info_u64
 have HC:=Lh hc
 have HB:=Lh hB
 clear hc hB
 go_enter Tryz.func209,Tryz.ntmps209
 go_wp2_with fail
 go_loop [5,7] (fun a i=>∃ k:Nat,k≤8∧i=.int .i64 k∧a=.int .u64 (Kv B k)) (fun _ i=>8-(intOf i).toNat)
 case atStart=>exact⟨0,by omega,rfl,rfl⟩
 case round =>
  obtain⟨k,hk,rfl,rfl⟩:=hrel
  by_cases hlt:k<8
  ·have hck:=HC.out k hlt
   have s1:IntKind.i64.wrap (8*(k:Int))=8*k:=IntWalk.i64_in _ (by omega)
   have s2:IntKind.i64.wrap (56-8*(k:Int))=56-8*k:=IntWalk.i64_in _ (by omega)
   have s3:0≤56-8*(k:Int):=by omega
   have s4:IntKind.u64.wrap (B k)=B k:=by have:=HB.out k;rw[IntKind.wrap_u64];omega
   have S5:=Lh (Wr B HB.out k hlt)
   have S6:=Lh (bP B HB.out k hlt)
   go_wp2_with fail
   go_round
   case rel=>exact⟨k+1,by omega,by go_num,congrArg (Value.int .u64) (by rw[(by rw[Int.natCast_pow];rfl:((2:Int)^(56-8*k))=((2^(56-8*k):Nat):Int)),S5.out,S6.out])⟩
   case measure=>simp[intOf];omega
  ·obtain rfl:k=8:=by omega
   go_wp2_with (at_builtin;refine wpList_append_own _ rfl (.tmp 22) (.tmp 24) 95 rfl base 22 i0 (.int .u64 0) 1 8 Tryz.underlying95 hi hz0 hz1 hz2 rfl (by decide) v n xs (by simp[Act.eval]) (hown.alloc _) ⟨w.heap.size,0,none⟩ 1 1 _ (by simp[Act.eval]) rfl (by exact BK w #[_] _) (by simp[Value.oneCell']) (by unfold maxLen;omega) (by omega) (by simp;omega) ?_;intro v2 w2 hown2 hgrow2 _)
   go_ret
   exact⟨_,rfl,hown2,((Below.refl base w).alloc hb _).grown hgrow2 (by simp;omega) (fun j hj=>(hown.lt j hj).1)⟩
theorem Iq (b:UInt8):0≤(b.toNat:Int)∧(b.toNat:Int)<256:=by have:=b.toNat_lt;omega
def Sr (l:List UInt8):Int:=l.foldl (fun n b=>n*256+(b.toNat:Int)) 0
def at8 (l:List UInt8) (k:Nat):List UInt8:=(l.drop (8*k)).take 8
theorem gi (l:List UInt8) (k:Nat) (h:8*k+8≤l.length):at8 l k=(List.range 8).map fun i=>l.getD (8*k+i) 0:=by
 apply List.ext_getElem
 ·simp[at8];omega
 ·intro i h1 h2
  have hi:i<8:=by simpa using h2
  have h3:8*k+i<l.length:=by omega
  simp[at8,h3]
theorem al (B:Nat→UInt8):Kv (fun i=>((B i).toNat:Int)) 8=Sr ((List.range 8).map B):=by
 simp only[Kv,Sr,List.range_succ,List.range_zero,List.nil_append,List.map_append,List.map_cons,List.map_nil,List.foldl_append,List.foldl_cons,List.foldl_nil]
 simp
 omega
theorem RD {α β:Type} (f:α→β):∀ l:List α,l.flatMap (fun k=>[f k])=l.map f
 | []=>rfl
 | a::l=>by rw[List.flatMap_cons,RD f l];rfl
theorem Wq {w:World} {b b':Nat} {e:TypeId} {size:Nat} {v:Value} {n:Nat} {xs:List Value} (h:w.ownsRow b e size v n xs) (hb:b'≤b):w.ownsRow b' e size v n xs:=by
 obtain⟨h1,h2 | ⟨g,cap,cur,hv,hg,r⟩⟩:=h
 ·exact⟨h1,.inl h2⟩
 ·exact⟨h1,.inr ⟨g,cap,cur,hv,by omega,r⟩⟩
theorem WH (s:ByteArray) (w:World) (hs:s.size≤10000) :
    Calls Tryz.prog 201 #[.string s] w fun e w'=>∃ v,e=.returned v∧w'.ownsRow w.heap.size 22 1 v (s.size/8) ((List.range (s.size/8)).map fun k=>.int .u64 (Sr (at8 s.data.toList k)))∧Below w.heap.size w w':=by
 have kb:=fun (w:World) (s:ByteArray)=>run_bytes_of_string (P:=Tryz.prog) w 9 90 5 s Tryz.underlying9 Tryz.underlying90 Tryz.underlying5
 have kg:=grownCap_ge w s.size 0 5
 go_enter Tryz.func201,Tryz.ntmps201
 go_wp2_with fail
 generalize grownCap w s.size 0 5=cap at kg ⊢
 have hlen:s.data.toList.length=s.size:=Array.length_toList
 refine (OI 1 (fun k=>[.int .u64 (Sr (at8 s.data.toList k))]) w.heap.size 0 s.size cap _ (fun i=>bc (s.data.toList.getD i 0)) _ (fun _=>rfl) (fun _=>by simp) kg (by omega) (by omega)
  (by exact fun i hi=>by rw[Nat.zero_add];exact Kp w s cap _ _ i hi) ?_).mono ?_
 ·intro W v q xs k c hk hbase hown hcells hq
  refine (Si v q xs _ w.heap.size (0+8*k) c (fun i=>((s.data.toList.getD (8*k+i) 0).toNat:Int)) W hown hcells (fun i=>Iq _) hq hbase).mono ?_
  rintro e w' ⟨v',rfl,ho,hb⟩
  rw[al (fun i=>s.data.toList.getD (8*k+i) 0),← gi _ k (by omega)] at ho
  exact⟨v',rfl,ho,hb⟩
 ·rintro e w1 ⟨v',rfl,ho,hb⟩
  clear kb
  go_wp2_with fail
  go_ret
  rw[RD,Nat.mul_one] at ho
  exact⟨v',rfl,Wq ho (by simp),GO (below_drewN (Al (Below.refl _ _) _) 1) hb⟩
theorem QB:∀ (l:List UInt8) (n:Nat),l.foldl (fun (n:Int) b=>n*256+(b.toNat:Int)) (n:Int)=((l.foldl (fun n b=>n*256+b.toNat) n:Nat):Int)
 | [],n=>rfl
 | b::l,n=>by
   show List.foldl _ ((n:Int)*256+(b.toNat:Int)) l=_
   rw[show (n:Int)*256+(b.toNat:Int)=((n*256+b.toNat:Nat):Int) by push_cast;rfl]
   exact QB l _
theorem bu (l:List UInt8):Sr l=(beN l:Int):=QB l 0
theorem av (s:ByteArray) (t:Nat):beN (at8 s.data.toList t)=GS s t:=by
 unfold GS at8
 congr 1
 rw[ByteArray.data_extract,Array.toList_extract,List.extract_eq_take_drop]
 congr 1
 omega
def Cw (l:List Nat):List Value:=l.map fun x:Nat=>Value.int .u64 (x:Int)
theorem Qo (s:ByteArray) (w:World) (hs:s.size=128) :
    Calls Tryz.prog 201 #[.string s] w fun e w'=>∃ v,e=.returned v∧w'.ownsRow w.heap.size 22 1 v 16 (Cw (Bd s 16))∧Below w.heap.size w w':=by
 refine (WH s w (by omega)).mono ?_
 rintro e w' ⟨v,rfl,ho,hb⟩
 rw[hs] at ho
 refine⟨v,rfl,?_,hb⟩
 have e1:(List.range (128/8)).map (fun k=>Value.int .u64 (Sr (at8 s.data.toList k)))=Cw (Bd s 16):=by
  unfold Cw Bd
  rw[List.map_map]
  refine List.map_congr_left fun k _=>?_
  show Value.int .u64 (Sr (at8 s.data.toList k))=Value.int .u64 (GS s k:Int)
  rw[bu,av]
 rw[e1] at ho
 exact ho
def Dy (l:List Nat):List Value:=Cw (l++List.replicate (80-l.length) 0)
def zobj:Obj:=.cells (Dy []).toArray 161
theorem CJ (l:List Nat):(Cw l).length=l.length:=List.length_map _
theorem FM (l:List Nat) (i:Nat) (h:i<l.length):(Cw l)[i]?=some (.int .u64 (l.getD i 0:Int)):=by
 unfold Cw
 rw[List.getElem?_map,List.getElem?_eq_getElem h,List.getD_eq_getElem?_getD,List.getElem?_eq_getElem h]
 rfl
theorem YH (l:List Nat) (i:Nat) (h:i<l.length):(Dy l)[i]?=some (.int .u64 (l.getD i 0:Int)):=by
 unfold Dy
 rw[FM _ i (by simp;omega),List.getD_eq_getElem?_getD,List.getElem?_append_left h,← List.getD_eq_getElem?_getD]
theorem ZR (l:List Nat) (x:Nat) (h:l.length<80):(Dy l).set l.length (.int .u64 (x:Int))=Dy (l++[x]):=by
 unfold Dy Cw
 obtain⟨d,hd⟩:∃ d,80-l.length=d+1:=⟨80-l.length-1,by omega⟩
 rw[hd,List.length_append,List.length_singleton,show 80-(l.length+1)=d by omega,List.replicate_succ]
 simp[List.map_append,List.set_append]
theorem DP (l:List Nat) (h:l.length≤80):(Dy l).length=80:=by
 unfold Dy
 rw[CJ,List.length_append,List.length_replicate]
 omega
theorem SU {w:World} {base n:Nat} {v:Value} {l:List Nat} (h:w.ownsRow base 22 1 v n (Cw l)) (h0:0<n) (hl:l.length=n) :
    ∃ g cap,v=.slice (some ⟨g,0,none⟩) n cap∧base≤g∧g<w.heap.size∧∀ i,i<n→w.cell? ⟨g,i,none⟩=some (.int .u64 (l.getD i 0:Int)):=by
 obtain⟨_,⟨_,h1⟩ | ⟨g,cap,cur,rfl,h1,h2,h3,h4,h5,h6⟩⟩:=h
 ·omega
 ·refine⟨g,cap,rfl,h1,?_,fun i hi=>?_⟩
  ·apply Nat.lt_of_not_le
   intro hle
   rw[Array.getElem?_eq_none hle] at h2
   simp at h2
  ·have hx:(cur.toList.take (n*1))[i]?=(Cw l)[i]?:=congrArg (fun l:List Value=>l[i]?) h6
   rw[List.getElem?_take,if_pos (by omega),FM l i (by omega)] at hx
   have hc:w.cell? ⟨g,i,none⟩=cur.toList[i]?:=by simp[World.cell?,h2]
   rw[hc,hx]
theorem eQ (w:World) (b g cap:Nat) (m:List Nat) (hm:m.length=16) (hb:w.heap[b]?=some zobj) (hc:∀ i,i<16→w.cell? ⟨g,i,none⟩=some (.int .u64 (m.getD i 0:Int))) :
    (Builtin.copy_ #[95,95] 3 #[.slice (some ⟨b,0,none⟩) 80 80,.slice (some ⟨g,0,none⟩) 16 cap]).run Tryz.prog w=.ok (.int .i64 16) (w.setRow b (Dy m).toArray):=by
 have h:=run_copy_row (P:=Tryz.prog) w 95 95 3 22 b 0 80 80 ⟨g,0,none⟩ 16 cap (Dy []).toArray 161 (Cw m) Tryz.underlying95 (by kernel_rfl) hb (by rw[CJ,hm];rfl)
  (fun j v hj=>by
   have hj2:j<16:=by
    have:=(List.getElem?_eq_some_iff.1 hj).1
    rw[CJ,hm] at this
    exact this
   rw[FM m j (by omega)] at hj
   cases hj
   have e:(⟨g,0,none⟩:Addr).add j=⟨g,j,none⟩:=by
    unfold Addr.add
    split
    ·simp_all
    ·simp
   rw[e]
   exact hc j hj2) (by rw[CJ,hm];decide) (fun v hv=>by
   unfold Cw at hv
   obtain⟨x,_,rfl⟩:=List.mem_map.1 hv
   rfl)
 rw[CJ,hm] at h
 rw[h]
 have e:((Dy []).toArray.toList.take 0++Cw m++(Dy []).toArray.toList.drop (0+16))=Dy m:=by
  unfold Dy Cw
  rw[hm]
  simp
 rw[e]
 rfl
theorem DM {w w':World} {b:Nat} {o:Obj} (r:w.heap[b]?=some o) (hb:Below w.heap.size w w'):w'.heap[b]?=some o:=by
 rw[hb.block b (Array.getElem?_eq_some_iff.1 r).1]
 exact r
theorem TF (s:ByteArray) (w:World) (hs:s.size=128) :
    Calls Tryz.prog 179 #[.string s] w fun e w'=>e=.returned (.agg (Cw (wsN (Bd s 16) 64)).toArray)∧Below w.heap.size w w':=by
 have KG:=Lh (fun w=>Qo s w hs)
 have hM:∀ x ∈ Bd s 16,x<M64:=fun x hx=>by
  unfold Bd at hx
  obtain⟨t,ht,rfl⟩:=List.mem_map.1 hx
  have:=List.mem_range.1 ht
  exact GF s t (by omega)
 have hml:=GN s 16
 have HLT:=Lh (Mc (Bd s 16) hM)
 obtain⟨m,hmm⟩:=exzb (Bd s 16)
 rw[hmm] at KG hml HLT ⊢
 have HLEN:Hid (∀ k,(wsN m k).length=16+k):=fun k=>by rw[Ja,hml]
 have HML:=Lh hml
 clear hM hmm hml
 go_enter Tryz.func179,Tryz.ntmps179
 go_wp2_with fail
 change Code.wp _ _ _ _ ((w.alloc zobj).alloc zobj)
 have x2:((w.alloc zobj).alloc zobj).heap[w.heap.size]?=some zobj:=DM (C9 w zobj).1 (C9 _ zobj).2
 have x3:((w.alloc zobj).alloc zobj).heap[w.heap.size+1]?=some zobj:=by
  have h:=(C9 (w.alloc zobj) zobj).1
  rwa [show (w.alloc zobj).heap.size=w.heap.size+1 from Array.size_push ..] at h
 have xB:Below w.heap.size w ((w.alloc zobj).alloc zobj):=(C9 w zobj).2.trans ((C9 _ zobj).2.mono (C9 w zobj).2.size)
 generalize (w.alloc zobj).alloc zobj=X at x2 x3 xB ⊢
 have X2:=Lh x2
 have X3:=Lh x3
 have XB:=Lh xB
 clear x2 x3 xB
 go_region_held3 (fun _=>True) (trivial) (first
  | (go_at_call 201;go_must (refine (KG.out _).mono ?_);rintro e w1 ⟨v1,rfl,hown1,hb1⟩
     obtain⟨g1,cp1,rfl,hg1,hgl1,hc1⟩:=SU hown1 (by omega) HML.out)
  | (rw[if_pos (by rfl)];refine Lib.wp_copy_run _ (.tmp 7) (.tmp 9) 95 95 rfl _ _ (by simp[Act.eval]) (by simp[Act.eval]) (eQ _ (w.heap.size+1) g1 cp1 m HML.out (DM (w:=X.drew) X3.out hb1) hc1) ?_))
 have y3:(w1.setRow (w.heap.size+1) (Dy m).toArray).heap[w.heap.size+1]?=some (.cells (Dy m).toArray 161 (0,0)):=setRow_heap _ _ _ _ _ _ (DM (w:=X.drew) X3.out hb1)
 have y2:(w1.setRow (w.heap.size+1) (Dy m).toArray).heap[w.heap.size]?=some zobj:=(setRow_other _ _ _ _ (by omega)).trans (DM (w:=X.drew) X2.out hb1)
 have yB:Below w.heap.size w (w1.setRow (w.heap.size+1) (Dy m).toArray):=below_setRow (XB.out.trans ((Below.trans (b:=X.drew) (B:=X.heap.size) (a:=X) ⟨rfl,rfl,rfl,Nat.le_refl _,fun _ _=>rfl⟩ hb1).mono XB.out.size)) (Nat.le_succ _) _
 generalize w1.setRow (w.heap.size+1) (Dy m).toArray=Y at y2 y3 yB ⊢
 have Y2:=Lh y2
 have Y3:=Lh y3
 have YB:=Lh yB
 clear y2 y3 yB X2 X3 XB hb1 hown1 hg1 hgl1 hc1 KG
 go_wp2_with fail
 go_loopw [4] (fun v W=>∃ k:Nat,k≤64∧v=.int .i64 ((16+k:Nat):Int)∧W.heap[w.heap.size+1]?=some (.cells (Dy (wsN m k)).toArray 161 (0,0))∧W.heap[w.heap.size]?=some zobj∧Below w.heap.size w W) (fun v _=>80-(intOf v).toNat)
 case atStart=>exact⟨0,by omega,rfl,Y3.out,Y2.out,YB.out⟩
 case round =>
  clear Y2 Y3 YB
  obtain⟨k,hk,rfl,r3,r2,rb⟩:=hrel
  have hL:=HLEN.out k
  have hLB:=HLT.out k
  have hNX:=HLEN.out (k+1)
  have hcell:∀ j,j<16+k→wr.cell? ⟨w.heap.size+1,j,none⟩=some (.int .u64 ((wsN m k).getD j 0:Int)):=fun j hj=>by
   rw[GD r3]
   exact YH _ j (by omega)
  have hset:16+k<80→(Dy (wsN m k)).set (16+k) (.int .u64 (LZ (wsN m k):Int))=Dy (wsN m (k+1)):=fun h=>by
   have:=ZR (wsN m k) (LZ (wsN m k)) (by omega)
   rw[hL] at this
   exact this
  have hnx:LZ (wsN m k)=(sg1 ((wsN m k).getD (16+k-2) 0)+(wsN m k).getD (16+k-7) 0+sg0 ((wsN m k).getD (16+k-15) 0)+(wsN m k).getD (16+k-16) 0)%M64:=by
   unfold LZ
   rw[hL]
  have R3:=Lh r3
  have R2:=Lh r2
  have RB:=Lh rb
  clear r3 r2 rb
  obtain⟨b3,hb3⟩:=exzb (w.heap.size+1)
  obtain⟨b2,hb2⟩:=exzb (w.heap.size)
  have HBB:=Lh (And.intro hb2 hb3)
  rw[hb3] at R3 hcell ⊢
  rw[hb2] at R2 ⊢
  by_cases hlt:16+k<80
  ·have hset:=hset hlt
   rw[hnx] at hset
   have hg:∀ j,(wsN m k).getD j 0<M64:=fun j=>BF hLB j
   have i15:∃ j:Nat,j=16+k-15:=⟨_,rfl⟩
   obtain⟨j15,h15⟩:=i15
   obtain⟨j2,h2⟩:∃ j:Nat,j=16+k-2:=⟨_,rfl⟩
   obtain⟨j7,h7⟩:∃ j:Nat,j=16+k-7:=⟨_,rfl⟩
   obtain⟨j16,h16⟩:∃ j:Nat,j=16+k-16:=⟨_,rfl⟩
   rw[← h15,← h2,← h7,← h16] at hset
   have c15:=hcell j15 (by omega)
   have c2:=hcell j2 (by omega)
   have c7:=hcell j7 (by omega)
   have c16:=hcell j16 (by omega)
   have hx:=hg j15
   have hy:=hg j2
   have hz:=hg j7
   have hv:=hg j16
   clear hcell hg hnx hLB
   generalize (wsN m k).getD j15 0=x at *
   generalize (wsN m k).getD j2 0=y at *
   generalize (wsN m k).getD j7 0=z at *
   generalize (wsN m k).getD j16 0=v at *
   obtain⟨t,ht⟩:∃ t:Nat,t=16+k:=⟨_,rfl⟩
   rw[← ht] at hset ⊢
   have HSET:=Lh hset
   have HT:=Lh (And.intro hk ht)
   have p1:(t:Int)<80:=by omega
   have w15:IntKind.i64.wrap ((t:Int)-15)=(t:Int)-15:=by rw[IntKind.wrap_i64];omega
   have w2:IntKind.i64.wrap ((t:Int)-2)=(t:Int)-2:=by rw[IntKind.wrap_i64];omega
   have w7:IntKind.i64.wrap ((t:Int)-7)=(t:Int)-7:=by rw[IntKind.wrap_i64];omega
   have w16:IntKind.i64.wrap ((t:Int)-16)=(t:Int)-16:=by rw[IntKind.wrap_i64];omega
   have l15:((15:Int)≤(t:Int)):=by omega
   have l16:((16:Int)≤(t:Int)):=by omega
   have l2:((2:Int)≤(t:Int)):=by omega
   have l7:((7:Int)≤(t:Int)):=by omega
   have u15:(t:Int)-15<80:=by omega
   have u16:(t:Int)-16<80:=by omega
   have u2:(t:Int)-2<80:=by omega
   have u7:(t:Int)-7<80:=by omega
   have n15:((t:Int)-15).toNat=j15:=by omega
   have n16:((t:Int)-16).toNat=j16:=by omega
   have n2:((t:Int)-2).toNat=j2:=by omega
   have n7:((t:Int)-7).toNat=j7:=by omega
   have HV0:Hid (∃ v0,(Dy (wsN m k))[t]?=some v0):=⟨_,List.getElem?_eq_getElem (by rw[DP _ (by omega)];omega)⟩
   have HV0:Hid (∃ v0,(Dy (wsN m k))[t]?=some v0):=⟨_,List.getElem?_eq_getElem (by rw[DP _ (by omega)];omega)⟩
   have HV0:Hid (∃ v0,(Dy (wsN m k))[t]?=some v0):=⟨_,List.getElem?_eq_getElem (by rw[DP _ (by omega)];omega)⟩
   have HV0:Hid (∃ v0,(Dy (wsN m k))[t]?=some v0):=⟨_,List.getElem?_eq_getElem (by rw[DP _ (by omega)];omega)⟩
   have HV0:Hid (∃ v0,(Dy (wsN m k))[t]?=some v0):=⟨_,List.getElem?_eq_getElem (by rw[DP _ (by omega)];omega)⟩
   have HV0:Hid (∃ v0,(Dy (wsN m k))[t]?=some v0):=⟨_,List.getElem?_eq_getElem (by rw[DP _ (by omega)];omega)⟩
   have HV0:Hid (∃ v0,(Dy (wsN m k))[t]?=some v0):=⟨_,List.getElem?_eq_getElem (by rw[DP _ (by omega)];omega)⟩
   have HV0:Hid (∃ v0,(Dy (wsN m k))[t]?=some v0):=⟨_,List.getElem?_eq_getElem (by rw[DP _ (by omega)];omega)⟩
   have HV0:Hid (∃ v0,(Dy (wsN m k))[t]?=some v0):=⟨_,List.getElem?_eq_getElem (by rw[DP _ (by omega)];omega)⟩
   have HV0:Hid (∃ v0,(Dy (wsN m k))[t]?=some v0):=⟨_,List.getElem?_eq_getElem (by rw[DP _ (by omega)];omega)⟩
   have HV0:Hid (∃ v0,(Dy (wsN m k))[t]?=some v0):=⟨_,List.getElem?_eq_getElem (by rw[DP _ (by omega)];omega)⟩
   clear ht hk h15 h2 h7 h16 hlt
   clear hset
   try clear hset
   go_wp2_with fail
   have HMIX:=Lh (show Tryz.prog.follows .mixedOrders=true by kernel_rfl)
   have C7:=Lh c7
   have C16:=Lh c16
   have XY:=Lh (And.intro hx hy)
   have ZV:=Lh (And.intro hz hv)
   have d15:=fun d os=>cell_regrown c15 d os
   have d2:=fun d os=>cell_regrown c2 d os
   clear c15 c2 c7 c16 hx hy hz hv
   refine Ge HMIX.out (by kernel_rfl) ?_
   repeat (first
    | (refine Dd (by rfl) (by rfl) ?_;simp only[nmA])
    | (refine DZ (v:=?_) (by rfl) (by rfl) (fun d os=>?_) ?_;rotate_left;(focus (go_simp;(try with_reducible rfl);done));simp only[nmA]))
   refine cL (fun d os=>?_)
   have BW:=below_regrown wr d os
   have e3:=DM R3.out BW
   have e2:=DM R2.out BW
   have e7:=cell_regrown C7.out d os
   have e16:=cell_regrown C16.out d os
   have eB:=RB.out.trans (BW.mono RB.out.size)
   generalize Sort.grow (redrawn wr d) os=W at e3 e2 e7 e16 eB ⊢
   clear BW R3 R2 RB d15 d2 C7 C16
   have E3:=Lh e3
   have E2:=Lh e2
   have EB:=Lh eB
   clear e3 e2 eB
   have KY:=Lh (Nk y 19 61 XY.out.2 (by decide) (by decide))
   have KX:=Lh (Nk x 1 8 XY.out.1 (by decide) (by decide))
   have ry:BY 64 y 19 ^^^ BY 64 y 61<M64:=D9 (BT y 19 XY.out.2) (BT y 61 XY.out.2)
   have rx:BY 64 x 1 ^^^ BY 64 x 8<M64:=D9 (BT x 1 XY.out.1) (BT x 8 XY.out.1)
   have sy:y/64<M64:=Nat.lt_of_le_of_lt (Nat.div_le_self _ _) XY.out.2
   have sx:x/128<M64:=Nat.lt_of_le_of_lt (Nat.div_le_self _ _) XY.out.1
   have vy:=Dh _ _ ry sy
   have vx:=Dh _ _ rx sx
   have gy:sg1 y<M64:=D9 ry sy
   rw[show BY 64 y 19 ^^^ BY 64 y 61 ^^^ y/64=sg1 y from rfl] at vy
   rw[show BY 64 x 1 ^^^ BY 64 x 8 ^^^ x/128=sg0 x from rfl] at vx
   have KS:=Lh (Y6 (sg1 y) z (sg0 x) v gy)
   have qy:(y:Int)/64=((y/64:Nat):Int):=by omega
   have qx:(x:Int)/128=((x/128:Nat):Int):=by omega
   generalize (sg1 y+z+sg0 x+v)%M64=r at *
   generalize sg1 y=gy1 at *
   generalize sg0 x=gx0 at *
   generalize BY 64 y 19 ^^^ BY 64 y 61=ty at *
   generalize BY 64 x 1 ^^^ BY 64 x 8=tx at *
   generalize y/64=ys at *
   generalize x/128=xs at *
   clear ry rx sy sx gy XY ZV
   go_wp2_with fail
   have d7:=fun d os=>cell_regrown e7 d os
   have d16:=fun d os=>cell_regrown e16 d os
   clear e7 e16
   refine Ak 24 HMIX.out (by decide) (by kernel_rfl) (by kernel_rfl) ?_
   repeat (first
    | (refine AZ (by rfl) (by rfl) ?_;simp only[nmA])
    | (refine Bp (v:=?_) (by rfl) (by rfl) (fun d os=>?_) ?_;rotate_left;(focus (go_simp;(try with_reducible rfl);done));simp only[nmA]))
   refine GP (fun b=>.slice (some ⟨b,0,none⟩) 2 2) (.cells #[.int .i64 ((19:Nat):Int),.int .i64 ((61:Nat):Int)] 3 (0,0)) (by rfl) (by rfl) (fun d os=>?_) ?_;(focus (go_simp;done));simp only[List.nil_append,List.cons_append]
   repeat (first
    | (refine AZ (by rfl) (by rfl) ?_;simp only[nmA])
    | (refine Bp (v:=?_) (by rfl) (by rfl) (fun d os=>?_) ?_;rotate_left;(focus (go_simp;(try with_reducible rfl);done));simp only[nmA]))
   refine DQ (v:=_) (f:=181) (args:=fun b=>#[.int .u64 (y:Int),.slice (some ⟨b,0,none⟩) 2 2]) (by rfl) (by rfl) (fun b=>by rfl) (fun b d os=>by (simp only[nmA];go_simp;done)) KY.out ?_;simp only[nmA]
   repeat (first
    | (refine AZ (by rfl) (by rfl) ?_;simp only[nmA])
    | (refine Bp (v:=?_) (by rfl) (by rfl) (fun d os=>?_) ?_;rotate_left;(focus (go_simp;(try with_reducible rfl);done));simp only[nmA]))
   refine GP (fun b=>.slice (some ⟨b,0,none⟩) 2 2) (.cells #[.int .i64 ((1:Nat):Int),.int .i64 ((8:Nat):Int)] 3 (0,0)) (by rfl) (by rfl) (fun d os=>?_) ?_;(focus (go_simp;done));simp only[List.nil_append,List.cons_append]
   repeat (first
    | (refine AZ (by rfl) (by rfl) ?_;simp only[nmA])
    | (refine Bp (v:=?_) (by rfl) (by rfl) (fun d os=>?_) ?_;rotate_left;(focus (go_simp;(try with_reducible rfl);done));simp only[nmA]))
   refine DQ (v:=_) (f:=181) (args:=fun b=>#[.int .u64 (x:Int),.slice (some ⟨b,0,none⟩) 2 2]) (by rfl) (by rfl) (fun b=>by rfl) (fun b d os=>by (simp only[nmA];go_simp;done)) KX.out ?_;simp only[nmA]
   repeat (first
    | (refine AZ (by rfl) (by rfl) ?_;simp only[nmA])
    | (refine Bp (v:=?_) (by rfl) (by rfl) (fun d os=>?_) ?_;rotate_left;(focus (go_simp;(try with_reducible rfl);done));simp only[nmA]))
   refine GP (fun b=>.slice (some ⟨b,0,none⟩) 4 4) (.cells #[.int .u64 (gy1:Int),.int .u64 (z:Int),.int .u64 (gx0:Int),.int .u64 (v:Int)] 22 (0,0)) (by rfl) (by rfl) (fun d os=>?_) ?_;(focus (go_simp;done));simp only[List.nil_append,List.cons_append]
   repeat (first
    | (refine AZ (by rfl) (by rfl) ?_;simp only[nmA])
    | (refine Bp (v:=?_) (by rfl) (by rfl) (fun d os=>?_) ?_;rotate_left;(focus (go_simp;(try with_reducible rfl);done));simp only[nmA]))
   refine DQ (v:=_) (f:=180) (args:=fun b=>#[.slice (some ⟨b,0,none⟩) 4 4]) (by rfl) (by rfl) (fun b=>by rfl) (fun b d os=>by (simp only[nmA];go_simp;done)) KS.out ?_;simp only[nmA]
   repeat (first
    | (refine AZ (by rfl) (by rfl) ?_;simp only[nmA])
    | (refine Bp (v:=?_) (by rfl) (by rfl) (fun d os=>?_) ?_;rotate_left;(focus (go_simp;(try with_reducible rfl);done));simp only[nmA]))
   refine XM (t1:=25) (t2:=35) (t3:=44) (by rfl) (by rfl) (by rfl) (fun n1 n2 n3 d os=>?_)
   have BW:=below_regrown W d os
   have f3:=DM E3.out BW
   have f2:=DM E2.out BW
   have fB:=EB.out.trans (BW.mono EB.out.size)
   generalize Sort.grow (redrawn W d) os=V at f3 f2 fB ⊢
   clear BW E3 E2 EB d7 d16
   simp only[nmA]
   have F2:=Lh f2
   have FB:=Lh fB
   have F3:=Lh f3
   obtain⟨v0,hv0⟩:=HV0.out
   have ft:=Af f3 hv0
   obtain⟨ft1,ft2⟩:=ft
   clear f2 fB f3 hv0
   change wpAny _ _ _ _ 1 _ _ _
   refine Ej (i:=24) (by kernel_rfl) rfl (fun K hK=>?_)
   go_simp
   refine hK _ _ ?_
   clear hK K ft1 ft2
   have G3:=Lh (AF F3.out (.int .u64 (r:Int)) (i:=t))
   have hne:b2≠b3:=by have:=HBB.out.1;have:=HBB.out.2;omega
   have hle:w.heap.size≤b3:=by have:=HBB.out.2;omega
   have G2:=Lh ((heap_setCell_other V ⟨b3,t,none⟩ b2 (.int .u64 (r:Int)) hne).trans F2.out)
   have GB:=Lh (FB.out.setCell (p:=⟨b3,t,none⟩) hle (.int .u64 (r:Int)))
   clear hne hle
   clear F3 F2 FB
   refine wpAny_done (by kernel_rfl) ?_ _
   go_wp2_with fail
   have g3:=G3.out
   rw[HSET.out] at g3
   have gB:=GB.out
   rw[HBB.out.1] at gB
   have h1:=HT.out.1
   have h2:=HT.out.2
   exact⟨⟨k+1,by omega,by rw[show (16+(k+1):Nat)=t+1 by omega];rfl,g3,G2.out,gB⟩,by simp[intOf];omega⟩
  ·have hk48:k=64:=by omega
   subst hk48
   have p1:¬ ((16+64:Nat):Int)<80:=by omega
   have hl:=HLEN.out 64
   have hz0:Dy (wsN m 64)=Cw (wsN m 64):=by
    unfold Dy
    rw[hl]
    simp
   have hz1:(Cw (wsN m 64)).length=80:=by rw[CJ,hl]
   have hz2:∀ v ∈ Cw (wsN m 64),v.oneCell'=true:=fun v hv=>by
    unfold Cw at hv
    obtain⟨x,_,rfl⟩:=List.mem_map.1 hv
    rfl
   have r3:=R3.out
   have r2:=R2.out
   rw[hz0] at r3
   clear hcell hset hnx hL hLB hNX hz0 hl R3 R2 hlt
   obtain⟨L,hLL⟩:=exza (Cw (wsN m 64))
   rw[← hLL] at r3 hz1 hz2
   have HLL:=Lh hLL
   clear hLL
   have R3:=Lh r3
   have R2:=Lh r2
   have Z1:=Lh hz1
   have Z2:=Lh hz2
   have hle:w.heap.size≤b2:=Nat.le_of_eq HBB.out.1
   have G2:=Lh (setRow_heap wr b2 _ L.toArray _ _ (show wr.heap[b2]?=some (.cells (Dy []).toArray 161 (0,0)) from r2))
   have GB:=Lh (below_setRow RB.out hle L.toArray)
   clear r3 r2 hz1 hz2 hle RB
   iterate 22 go_step
   refine wp_load_row 161 (.tmp 3) rfl b3 (by simp[Act.eval]) 161 L.toArray (0,0) _ R3.out Tryz.underlying161 rfl (by rw[List.size_toArray,Z1.out];kernel_rfl) ?_
   simp only[nmA]
   go_step
   go_step
   refine wp_store_row 161 (.tmp 2) (.tmp 47) rfl b2 L.toArray (by simp[Act.eval]) (by simp[Act.eval]) 161 _ R2.out (by rw[List.size_toArray,Z1.out];kernel_rfl) (by rw[show L.toArray.size=80 from Z1.out];kernel_rfl) (Array.all_eq_true_iff_forall_mem.2 (fun v hv=>Z2.out v (by simpa using hv))) ?_
   simp only[Act.put]
   generalize wr.setRow b2 L.toArray=Y9 at *
   iterate 5 go_step
   have kl:=run_loadVar_row (P:=Tryz.prog) Y9 b2 161 161 _ (0,0) _ G2.out Tryz.underlying161 rfl (by rw[List.size_toArray,Z1.out];kernel_rfl)
   exact bodyPost_ret (v:=.agg L.toArray) (Hj Tryz.results179 (by rfl) kl) rfl ⟨by rw[HLL.out],GB.out⟩
def Gs (p:Nat→Nat) (N:Nat):List Value:=(List.range N).map fun k=>.int .u8 (p k:Int)
theorem J4 (p:Nat→Nat) (N k:Nat) (h:k<N):(Gs p N)[k]?=some (.int .u8 (p k:Int)):=by
 unfold Gs
 rw[List.getElem?_map,List.getElem?_range h]
 rfl
def VX (p:Nat→Nat) (i x:Nat) (k:Nat):Nat:=if k=i then x else p k
theorem YR (p:Nat→Nat) (N:Nat):(Gs p N).length=N:=by unfold Gs;simp
theorem NZ (p:Nat→Nat) (N i x:Nat):(Gs p N).set i (.int .u8 (x:Int))=Gs (VX p i x) N:=by
 unfold Gs
 refine List.ext_getElem (by simp) fun j h1 h2=>?_
 rw[List.getElem_set]
 simp only[List.getElem_map,List.getElem_range]
 unfold VX
 by_cases h:i=j
 ·subst h;simp
 ·have h':¬ j=i:=fun e=>h e.symm
  simp[h,h']
theorem VL (n:Nat):madeCells #[.int .u8 0] n=(Gs (fun _=>0) n).toArray:=by
 apply Array.ext
 ·rw[size_madeCells];simp[YR]
 ·intro i h1 h2
  have hi:i<n:=by simpa [size_madeCells] using h1
  simp[madeCells,Gs,Nat.mod_one]
theorem Sq (N:Nat) (Z:Int) (hz:Z=(N:Int)) (hN:N≤1000) (w:World):(Instr.makeSlice 90 (.int .i64 Z) (.int .i64 Z)).run Tryz.prog w=.ok (.slice (some ⟨w.heap.size,0,none⟩) N N) (w.alloc (.cells (Gs (fun _=>0) N).toArray 5)):=by
 rw[← VL,hz]
 exact run_make_row' (P:=Tryz.prog) 90 5 (.int .u8 0) 1 Tryz.underlying90 Tryz.info_u8 rfl .i64 .i64 N (by omega) (by omega) w
def KJ (n L k:Nat):Nat:=if k=0 then 128 else 8*n/256^(L-1-k)%256
def M0 (n size width:Nat):Nat:=1+(size-(n+1+width)%size)%size+width
def Gf (n size width:Nat):ByteArray:=⟨((List.range (M0 n size width)).map fun k=>UInt8.ofNat (KJ n (M0 n size width) k)).toArray⟩
def mkB (w:World) (N:Nat):World:=w.alloc (.cells (Gs (fun _=>0) N).toArray 5)
def Vo (n L j k:Nat):Nat:=if k=0 then 128 else if L-1-k<j then 8*n/256^(L-1-k)%256 else 0
theorem fy (n size width:Nat) (w:World) (h1:n≤1099511627776) (h2:16≤size) (h3:size≤256) (h4:8≤width) (h5:width≤16) :
    Calls Tryz.prog 143 #[.int .i64 (n:Int),.int .i64 (size:Int),.int .i64 (width:Int)] w fun e w'=>e=.returned (.string (Gf n size width))∧Below w.heap.size w w':=by
 obtain⟨q,hq⟩:=exzb ((n+1+width)%size)
 obtain⟨z,hz⟩:=exzb ((size-q)%size)
 obtain⟨L,hL⟩:=exzb (M0 n size width)
 have hq9:q<size:=by rw[← hq];exact Nat.mod_lt _ (by omega)
 have hz9:z<size:=by rw[← hz];exact Nat.mod_lt _ (by omega)
 have hL1:1+z+width=L:=by rw[← hL];unfold M0;rw[hq,hz]
 have i1:¬ (n:Int)<0:=by omega
 have i2:¬ (1099511627776:Int)<(n:Int):=by omega
 have i3:¬ (size:Int)<16:=by omega
 have i4:¬ (256:Int)<(size:Int):=by omega
 have i5:¬ (width:Int)<8:=by omega
 have i6:¬ (16:Int)<(width:Int):=by omega
 have i7:¬ (size:Int)=0:=by omega
 have r1:IntKind.i64.wrap ((n:Int)+1)=(n:Int)+1:=IntWalk.i64_in _ (by omega)
 have r2:IntKind.i64.wrap ((n:Int)+1+(width:Int))=(n:Int)+1+(width:Int):=IntWalk.i64_in _ (by omega)
 have t1:((n:Int)+1+(width:Int)).tmod (size:Int)=(q:Int):=by
  rw[show (n:Int)+1+(width:Int)=((n+1+width:Nat):Int) by omega,Int.tmod_eq_emod_of_nonneg (by omega),← Int.natCast_emod,hq]
 have t2:((size:Int)-(q:Int)).tmod (size:Int)=(z:Int):=by
  rw[show (size:Int)-(q:Int)=((size-q:Nat):Int) by omega,Int.tmod_eq_emod_of_nonneg (by omega),← Int.natCast_emod,hz]
 have r3:1+(z:Int)+(width:Int)=(L:Int):=by omega
 have mk:(Instr.makeSlice 90 (.int .i64 (L:Int)) (.int .i64 (L:Int))).run Tryz.prog w=.ok (.slice (some ⟨w.heap.size,0,none⟩) L L) (mkB w L):=Sq L (L:Int) rfl (by omega) w
 have mh:(mkB w L).heap[w.heap.size]?=some (.cells (Gs (fun _=>0) L).toArray 5 (0,0)):=Aj w _
 have mb:Below w.heap.size w (mkB w L):=(Below.refl _ _).alloc (Nat.le_refl _) _
 generalize mkB w L=X at *
 obtain⟨c0,f0⟩:=Af mh (J4 (fun _=>0) L 0 (by omega))
 have MS:=Lh (AF (i:=0) mh (.int .u8 (128:Nat)))
 have MB:=Lh (mb.setCell (p:=⟨w.heap.size,0,none⟩) (Nat.le_refl _) (.int .u8 (128:Nat)))
 have l1:9≤(L:Int):=by omega
 have l2:(L:Int)≤300:=by omega
 have hq8:(q:Int)<(size:Int):=by omega
 have hz8:(z:Int)<(size:Int):=by omega
 clear mh mb hz hq
 go_enter Tryz.func143,Tryz.ntmps143
 go_wp2_with fail
 go_loopw [9,10] (fun i r wr=>∃ j:Nat,∃ p:Nat→Nat,j≤6∧i=.int .i64 ((L:Int)-1-(j:Int))∧r=.int .i64 ((8*n/256^j:Nat):Int)∧(∀ k,k<L→p k=Vo n L j k)∧wr.heap[w.heap.size]?=some (.cells (Gs p L).toArray 5 (0,0))∧Below w.heap.size w wr) (fun _ r _=>(intOf r).toNat)
 case atStart =>
  refine⟨0,VX (fun _=>0) 0 128,by omega,by rw[show ((0:Nat):Int)=0 from rfl,Int.sub_zero],?_,?_,?_,MB.out⟩
  ·rw[Nat.pow_zero,Nat.div_one];exact congrArg (Value.int .i64) (by omega)
  ·intro k _
   unfold VX Vo
   split
   ·rfl
   ·rw[if_neg (by omega)]
  ·have h:=MS.out
   rw[NZ] at h
   exact h
 case round =>
  clear MS MB c0 f0 mk
  obtain⟨j,p,hj,rfl,rfl,hp,hr,hb⟩:=hrel
  obtain⟨a,ha⟩:∃ a,a+1+j=L:=⟨L-1-j,by omega⟩
  have ea:(L:Int)-1-(j:Int)=(a:Int):=by omega
  rw[ea]
  have hR0:8*n/256^6=0:=Nat.div_eq_of_lt (by omega)
  have hR9:8*n/256^j≤8*n:=Nat.div_le_self _ _
  have hRs:8*n/256^(j+1)=8*n/256^j/256:=by rw[Nat.pow_succ,Nat.div_div_eq_div_mul]
  have hj6:0<8*n/256^j→j<6:=fun h=>by
   apply Nat.lt_of_not_le
   intro h6
   obtain rfl:j=6:=by omega
   omega
  have HP:=Lh hp
  have HJ:=Lh hRs
  obtain⟨R,hR⟩:=exzb (8*n/256^j)
  rw[hR] at hR9 hj6
  have HR:=Lh hR
  clear hp hRs hR0
  by_cases hlt:0<R
  ·have hj7:=hj6 hlt
   obtain⟨D,hD⟩:=exzb (R%256)
   obtain⟨c0,f0⟩:=Af hr (J4 p L a (by omega))
   have HS:=Lh (AF (i:=a) hr (.int .u8 (D:Int)))
   have HB:=Lh (hb.setCell (p:=⟨w.heap.size,a,none⟩) (Nat.le_refl _) (.int .u8 (D:Int)))
   have r4:IntKind.u8.wrap (R:Int)=(D:Int):=by rw[← hD];simp[IntKind.wrap,IntKind.signed,IntKind.bits]
   have q1:(a:Int)<(L:Int):=by omega
   have q2:(0:Int)<(R:Int):=by omega
   have q3:(R:Int)≤8796093022208:=by omega
   have HD:=Lh hD
   rw[hR]
   clear hr hb hD hR
   go_wp2_with fail
   go_roundw
   case rel =>
    refine⟨j+1,VX p a D,by omega,congrArg (Value.int .i64) (by omega),congrArg (Value.int .i64) (by rw[HJ.out,HR.out];omega),?_,?_,HB.out⟩
    ·intro k hk
     unfold VX
     split
     ·rename_i h
      subst h
      unfold Vo
      rw[if_neg (by omega),if_pos (by omega),show L-1-k=j by omega,HR.out,HD.out]
     ·rename_i h
      rw[HP.out k hk]
      unfold Vo
      by_cases k0:k=0
      ·rw[if_pos k0,if_pos k0]
      ·rw[if_neg k0,if_neg k0]
       by_cases k1:L-1-k<j
       ·rw[if_pos k1,if_pos (by omega)]
       ·rw[if_neg k1,if_neg (by omega)]
    ·have h:=HS.out
     rw[NZ] at h
     exact h
   case measure =>
    simp[intOf]
    omega
  ·have hR8:R=0:=by omega
   have hl:((List.range L).map fun k=>UInt8.ofNat (KJ n L k)).length=L:=by simp
   have ks:=run_convert_bytes_back (P:=Tryz.prog) wr 90 9 5 ⟨w.heap.size,0,none⟩ L ((List.range L).map fun k=>UInt8.ofNat (KJ n L k)) Tryz.underlying90 Tryz.underlying5 Tryz.underlying9 (fun k hk=>by
    rw[hl] at hk
    have hadd:(⟨w.heap.size,0,none⟩:Addr).add k=⟨w.heap.size,k,none⟩:=by unfold Addr.add;split <;> simp_all
    rw[hadd,(Af hr (J4 p L k hk)).1,HP.out k hk]
    have e:Vo n L j k=KJ n L k:=by
     unfold Vo KJ
     split
     ·rfl
     ·split
      ·rfl
      ·have h:8*n/256^(L-1-k)=0:=by
         obtain⟨d,hd⟩:∃ d,L-1-k=j+d:=⟨L-1-k-j,by omega⟩
         rw[hd,Nat.pow_add,← Nat.div_div_eq_div_mul,HR.out,hR8,Nat.zero_div]
       rw[h]
    have h256:KJ n L k<256:=by
     unfold KJ
     split
     ·omega
     ·exact Nat.mod_lt _ (by omega)
    rw[e]
    simp only[List.getElem_map,List.getElem_range]
    rw[UInt8.toNat_ofNat_of_lt' h256])
   rw[hl] at ks
   have hS:Gf n size width=⟨((List.range L).map fun k=>UInt8.ofNat (KJ n L k)).toArray⟩:=by unfold Gf;rw[hL]
   rw[← hS] at ks
   rw[hR,hR8]
   clear hr HP HJ HR hR hS hl hR8 hj6 hR9 hlt
   go_wp2_with fail
   go_ret
   exact⟨rfl,hb⟩
end Go.Proofs.YtnaldciakclccaaGreat
