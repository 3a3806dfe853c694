/- Lemmas of this proof. -/
import Derived.Lib.Strings
import Derived.Test.YtnaldciakclccaaGreatEv17
import Derived.Test.YtnaldciakclccaaGreatEv03
import Derived.Test.YtnaldciakclccaaGreatEv02
import Derived.Test.YtnaldciakclccaaGreatEv12
import Derived.Test.YtnaldciakclccaaGreatEv04
import Derived.Test.YtnaldciakclccaaGreatEv15
namespace Go.Proofs.YtnaldciakclccaaGreat
set_option maxRecDepth 20000
set_option maxHeartbeats 8000000
set_option linter.unusedSimpArgs false
set_option linter.unusedVariables false
open Go.RowKit
def Fz (m x n i:Nat):Nat:=(x*2^i+n/2^(256-i))%m
theorem XD (m x n:Nat) (hx:x<m) (hn:n<B64^4):Fz m x n 0=x:=by
 unfold Fz
 rw[Nat.pow_zero,Nat.mul_one,Nat.div_eq_of_lt (by rw[show 2^(256-0)=B64^4 from rfl];exact hn),Nat.add_zero,Nat.mod_eq_of_lt hx]
theorem NR (m x n i:Nat) (hi:i<256):(2*Fz m x n i+CF n (255-i))%m=Fz m x n (i+1):=by
 unfold Fz CF
 have h1:n/2^(256-(i+1))=2*(n/2^(256-i))+n/2^(255-i)%2:=by
  rw[show 256-(i+1)=255-i by omega,show 256-i=(255-i)+1 by omega,Nat.pow_succ,← Nat.div_div_eq_div_mul]
  omega
 rw[h1,Nat.pow_succ,← Nat.mul_assoc]
 generalize x*2^i=a
 generalize n/2^(256-i)=c
 generalize n/2^(255-i)%2=b
 rw[show a*2+(2*c+b)=2*(a+c)+b by omega,Nat.add_mod,Nat.mul_mod,Nat.mod_mod,← Nat.mul_mod,← Nat.add_mod]
theorem PJ (m x n:Nat):Fz m x n 256=(x*B64^4+n)%m:=by
 unfold Fz
 rw[Nat.sub_self,Nat.pow_zero,Nat.div_one]
 rfl
theorem UD (m x n i:Nat) (hm:0<m):Fz m x n i<m:=Nat.mod_lt _ hm
def MD (lo hi m:Nat):Nat:=if m=0 then 0 else (hi*B64^4+lo)%m
def Hh (hs R m r:Nat) (w:World):Prop:=w.heap[R]?=some (.cells (An r).toArray 24 (0,0))∧w.heap[hs+1+1]?=some (.cells (An m).toArray 24 (0,0))∧w.heap[hs+1+1+1]?=some (.cells (An 0).toArray 24 (0,0))
theorem F7 {hs R m r:Nat} {w w':World} (h:Hh hs R m r w) (hb:Below w.heap.size w w'):Hh hs R m r w':=by
 obtain⟨h1,h2,h3⟩:=h
 have lt:∀ {k:Nat} {o:Obj},w.heap[k]?=some o→k<w.heap.size:=fun {k o} h=>by
  apply Nat.lt_of_not_le
  intro hle
  rw[Array.getElem?_eq_none hle] at h
  simp at h
 exact⟨(hb.block _ (lt h1)).trans h1,(hb.block _ (lt h2)).trans h2,(hb.block _ (lt h3)).trans h3⟩
theorem eV {w:World} {k:Nat} {o:Obj} (h:w.heap[k]?=some o):k<w.heap.size:=by
 apply Nat.lt_of_not_le
 intro hle
 rw[Array.getElem?_eq_none hle] at h
 simp at h
def Ms (lo hi m:Nat) (w:World):World:=((((w.alloc (.cells (An lo).toArray 24)).alloc (.cells (An hi).toArray 24)).alloc (.cells (An m).toArray 24)).alloc (.cells (An 0).toArray 24))
theorem UH (lo hi m:Nat) (w:World):(Ms lo hi m w).heap[w.heap.size]?=some (.cells (An lo).toArray 24 (0,0))∧(Ms lo hi m w).heap[w.heap.size+1]?=some (.cells (An hi).toArray 24 (0,0))∧(Ms lo hi m w).heap[w.heap.size+1+1]?=some (.cells (An m).toArray 24 (0,0))∧(Ms lo hi m w).heap[w.heap.size+1+1+1]?=some (.cells (An 0).toArray 24 (0,0))∧Below w.heap.size w (Ms lo hi m w)∧(Ms lo hi m w).heap.size=w.heap.size+4:=by
 unfold Ms
 refine⟨?_,?_,?_,?_,Al (Al (Al (Al (Below.refl _ _) _) _) _) _,by simp only[Ae]⟩
 ·rw[AQ _ _ _ (by simp only[Ae];omega),AQ _ _ _ (by simp only[Ae];omega),AQ _ _ _ (by simp only[Ae];omega),Aj]
 ·rw[AQ _ _ _ (by simp only[Ae];omega),AQ _ _ _ (by simp only[Ae];omega)]
  have:=Aj (w.alloc (.cells (An lo).toArray 24)) (.cells (An hi).toArray 24)
  simp only[Ae] at this
  exact this
 ·rw[AQ _ _ _ (by simp only[Ae];omega)]
  have:=Aj ((w.alloc (.cells (An lo).toArray 24)).alloc (.cells (An hi).toArray 24)) (.cells (An m).toArray 24)
  simp only[Ae] at this
  exact this
 ·have:=Aj (((w.alloc (.cells (An lo).toArray 24)).alloc (.cells (An hi).toArray 24)).alloc (.cells (An m).toArray 24)) (.cells (An 0).toArray 24)
  simp only[Ae] at this
  exact this
def FA (lo hi m k:Nat):Nat:=if k=0 then 0 else if k=1 then hi%m else (hi*B64^4+lo)%m
theorem cZ (lo hi m:Nat):FA lo hi m 0=0:=by unfold FA;rw[if_pos rfl]
theorem Ub (lo hi m:Nat):FA lo hi m 1=hi%m:=by unfold FA;rw[if_neg (by omega),if_pos rfl]
theorem du (lo hi m:Nat):FA lo hi m 2=(hi*B64^4+lo)%m:=by unfold FA;rw[if_neg (by omega),if_neg (by omega)]
theorem Q9 {w0 w v:World} {B R:Nat} (h0:Below B w0 w) (h:w.grownBy v (some R)) (hB:B≤w.heap.size) (hR:B≤R):Below B w0 v :=
 h0.trans ⟨h.os,h.tape,h.output,h.size,fun k hk=>h.5 k (by omega) (fun e=>by injection e;omega)⟩
theorem Ev {w v:World} {R k:Nat} {o:Obj} (h:w.grownBy v (some R)) (hk:w.heap[k]?=some o) (hne:k≠R):v.heap[k]?=some o :=
 (h.5 k (eV hk) (fun e=>by injection e;omega)).trans hk
theorem P8 (n j:Nat) (w:World) (hj:j<256) :
    Calls Tryz.prog 29 #[.agg #[.int .u64 (wd n 0:Int),.int .u64 (wd n 1:Int),.int .u64 (wd n 2:Int),.int .u64 (wd n 3:Int)],.int .i64 (255-(j:Int))] w fun e w'=>e=.returned (.int .u64 (CF n (255-j):Int))∧Below w.heap.size w w':=by
 have h:=Ji n (255-j) w (by omega)
 rw[show (((255-j:Nat)):Int)=255-(j:Int) by omega] at h
 exact h
theorem fi (lo hi:Nat) (w:World):Sem.run Tryz.prog (Instr.index 177 (.agg #[.int .u64 (wd hi 0:Int),.int .u64 (wd hi 1:Int),.int .u64 (wd hi 2:Int),.int .u64 (wd hi 3:Int),.int .u64 (wd lo 0:Int),.int .u64 (wd lo 1:Int),.int .u64 (wd lo 2:Int),.int .u64 (wd lo 3:Int)]) (.int .i64 0)) w=.ok (.agg #[.int .u64 (wd hi 0:Int),.int .u64 (wd hi 1:Int),.int .u64 (wd hi 2:Int),.int .u64 (wd hi 3:Int)]) w:=by kernel_rfl
theorem gx (lo hi:Nat) (w:World):Sem.run Tryz.prog (Instr.index 177 (.agg #[.int .u64 (wd hi 0:Int),.int .u64 (wd hi 1:Int),.int .u64 (wd hi 2:Int),.int .u64 (wd hi 3:Int),.int .u64 (wd lo 0:Int),.int .u64 (wd lo 1:Int),.int .u64 (wd lo 2:Int),.int .u64 (wd lo 3:Int)]) (.int .i64 1)) w=.ok (.agg #[.int .u64 (wd lo 0:Int),.int .u64 (wd lo 1:Int),.int .u64 (wd lo 2:Int),.int .u64 (wd lo 3:Int)]) w:=by kernel_rfl
theorem bZ (lo hi m:Nat) (w:World) (hlo:lo<B64^4) (hhi:hi<B64^4) (hm:m<B64^4) (h0:0<m) :
    Calls Tryz.prog 100 #[Aa lo,Aa hi,Aa m] w fun e w'=>e=.returned (Aa (MD lo hi m))∧Below w.heap.size w w':=by
 have IZ:=fun w=>LQ m w hm
 rw[decide_eq_false (by omega:¬ m=0)] at IZ
 unfold Aa at IZ
 have hIZ:=Lh IZ
 clear IZ
 rw[show Aa lo=.agg #[.int .u64 (wd lo 0:Int),.int .u64 (wd lo 1:Int),.int .u64 (wd lo 2:Int),.int .u64 (wd lo 3:Int)] from rfl,show Aa hi=.agg #[.int .u64 (wd hi 0:Int),.int .u64 (wd hi 1:Int),.int .u64 (wd hi 2:Int),.int .u64 (wd hi 3:Int)] from rfl,show Aa m=.agg #[.int .u64 (wd m 0:Int),.int .u64 (wd m 1:Int),.int .u64 (wd m 2:Int),.int .u64 (wd m 3:Int)] from rfl]
 have e0:(An 0).toArray=#[.int .u64 0,.int .u64 0,.int .u64 0,.int .u64 0]:=by simp[An,wd]
 go_enter Tryz.func100,Tryz.ntmps100
 go_wp2_with fail
 go_at_call 148
 have hW:=UH lo hi m w
 change Calls _ _ _ (Ms lo hi m w) _
 generalize Ms lo hi m w=X at *
 obtain⟨a0,a1,a2,a3,aB,aS⟩:=hW
 refine (hIZ.out X).mono ?_
 rintro e w1 ⟨rfl,hb1⟩
 have s1:=hb1.size
 have b0:=(hb1.block w.heap.size (by omega)).trans a0
 have b1:=(hb1.block (w.heap.size+1) (by omega)).trans a1
 have b2:=(hb1.block (w.heap.size+1+1) (by omega)).trans a2
 have b3:=(hb1.block (w.heap.size+1+1+1) (by omega)).trans a3
 have bB:Below w.heap.size w w1:=aB.trans (hb1.mono (by omega))
 clear a0 a1 a2 a3 aB hb1 hIZ
 have c0:=(Af b0 (Ai lo 0 (by omega))).1
 have c1:=(Af b0 (Ai lo 1 (by omega))).1
 have c2:=(Af b0 (Ai lo 2 (by omega))).1
 have c3:=(Af b0 (Ai lo 3 (by omega))).1
 have d0:=(Af b1 (Ai hi 0 (by omega))).1
 have d1:=(Af b1 (Ai hi 1 (by omega))).1
 have d2:=(Af b1 (Ai hi 2 (by omega))).1
 have d3:=(Af b1 (Ai hi 3 (by omega))).1
 have l0:w.heap.size<w1.heap.size:=by omega
 have l1:w.heap.size+1<w1.heap.size:=by omega
 have hx1:Hh w.heap.size w1.heap.size m 0 (w1.alloc (.cells (An 0).toArray 24)):=⟨Aj _ _,(AQ _ _ _ (by omega)).trans b2,(AQ _ _ _ (by omega)).trans b3⟩
 have hx2:Below w.heap.size w (w1.alloc (.cells (An 0).toArray 24)):=Al bB _
 have hx3:w1.heap.size<(w1.alloc (.cells (An 0).toArray 24)).heap.size:=by rw[Ae];omega
 have hx4:w.heap.size+4≤w1.heap.size:=by omega
 have HX1:=Lh hx1
 have HX2:=Lh hx2
 clear hx1 hx2 b0 b1 b2 b3 bB
 go_wp2_with fail
 go_loopw [19] (fun j wr=>∃ k:Nat,k≤2∧j=.int .i64 (k:Int)∧Hh w.heap.size w1.heap.size m (FA lo hi m k) wr∧Below w.heap.size w wr∧w1.heap.size<wr.heap.size) (fun j _=>2-(intOf j).toNat)
 case atStart=>exact⟨0,by omega,rfl,HX1.out,HX2.out,hx3⟩
 case round =>
  clear HX1 HX2 hx3
  obtain⟨k,hk,hje,hst,hbl,hsz⟩:=hrel
  have hcase:k=0∨k=1∨k=2:=by omega
  rcases hcase with rfl | rfl | rfl
  ·change _=Value.int .i64 0 at hje
   subst hje
   have q1:=F7 hst (Al (Below.refl _ _) (.cells (An hi).toArray 24))
   have q1:Hh w.heap.size w1.heap.size m (Fz m (0) hi 0) (wr.alloc (.cells (An hi).toArray 24)):=by
    rw[XD m (0) hi (h0) (by assumption)]
    rw[cZ] at q1
    exact q1
   have q2:(wr.alloc (.cells (An hi).toArray 24)).heap[wr.heap.size]?=some (.cells (An hi).toArray 24 (0,0)):=Aj _ _
   have q3:Below w.heap.size w (wr.alloc (.cells (An hi).toArray 24)):=Al hbl _
   have q4:(wr.alloc (.cells (An hi).toArray 24)).heap.size=wr.heap.size+1:=Ae _ _
   have Q:=Lh (And.intro q1 (And.intro q2 q3))
   clear hst hbl q1 q2 q3
   have P0:=fi lo hi wr
   go_wp2_with fail
   clear P0 c0 c1 c2 c3 d0 d1 d2 d3
   go_loopw [22] (fun i v=>∃ j:Nat,j≤256∧i=.int .i64 (j:Int)∧Hh w.heap.size w1.heap.size m (Fz m (0) hi j) v∧v.heap[wr.heap.size]?=some (.cells (An hi).toArray 24 (0,0))∧Below w.heap.size w v∧wr.heap.size<v.heap.size) (fun i _=>256-(intOf i).toNat)
   case atStart=>exact⟨0,by omega,rfl,Q.out.1,Q.out.2.1,Q.out.2.2,Nat.lt_of_lt_of_eq (Nat.lt_succ_self _) q4.symm⟩
   case round =>
    clear Q q4
    obtain⟨j,hj,rfl,hst,hn,hbl,hsv⟩:=hrel
    by_cases hlt:j<256
    ·have p1:(j:Int)<256:=by omega
     have n0:=(Af hn (Ai hi 0 (by omega))).1
     have n1:=(Af hn (Ai hi 1 (by omega))).1
     have n2:=(Af hn (Ai hi 2 (by omega))).1
     have n3:=(Af hn (Ai hi 3 (by omega))).1
     have ST:=Lh hst
     have HN:=Lh hn
     have BL:=Lh hbl
     clear hst hn hbl
     go_wp2_with fail
     go_at_call 29
     refine (P8 hi j _ hlt).mono ?_
     rintro e v2 ⟨rfl,hb2⟩
     clear n0 n1 n2 n3
     have hz2:=hb2.size
     have ST2:=Lh (F7 ST.out hb2)
     have HN2:=Lh ((hb2.block _ hsv).trans HN.out)
     have BL2:=Lh (BL.out.trans (hb2.mono (by omega)))
     clear ST HN BL hb2
     go_wp2_with fail
     go_at_call 149
     refine (PE (Fz m (0) hi j) m (CF hi (255-j)) w1.heap.size (w.heap.size+1+1) v2 (UD _ _ _ _ h0) hm (EK _ _) ST2.out.1 ST2.out.2.1).mono ?_
     rintro e v3 ⟨rfl,hr3,hg3⟩
     rw[NR _ _ _ _ hlt] at hr3
     have hz3:=hg3.4
     have ST3:=Lh (show Hh w.heap.size w1.heap.size m (Fz m (0) hi (j+1)) v3 from ⟨hr3,Ev hg3 ST2.out.2.1 (by omega),Ev hg3 ST2.out.2.2 (by omega)⟩)
     have HN3:=Lh (Ev hg3 HN2.out (by omega))
     have BL3:=Lh (Q9 BL2.out hg3 (by omega) (by omega))
     clear ST2 HN2 BL2 hg3 hr3
     go_wp2_with fail
     go_roundw
     case rel=>exact⟨j+1,by omega,congrArg (Value.int .i64) (by omega),ST3.out,HN3.out,BL3.out,by omega⟩
     case measure=>simp[intOf];omega
    ·have p1:¬ (j:Int)<256:=by omega
     obtain rfl:j=256:=by omega
     rw[PJ] at hst
     have hst':Hh w.heap.size w1.heap.size m (FA lo hi m 1) wr:=by
      rw[Nat.zero_mul,Nat.zero_add] at hst
      rw[Ub]
      exact hst
     have ST:=Lh hst'
     have BL:=Lh hbl
     clear hst hst' hn hbl
     go_wp2_with fail
     go_roundw
     case rel=>exact⟨1,by omega,rfl,ST.out,BL.out,by omega⟩
     case measure=>simp[intOf]
  ·change _=Value.int .i64 1 at hje
   subst hje
   have q1:=F7 hst (Al (Below.refl _ _) (.cells (An lo).toArray 24))
   have q1:Hh w.heap.size w1.heap.size m (Fz m (hi%m) lo 0) (wr.alloc (.cells (An lo).toArray 24)):=by
    rw[XD m (hi%m) lo (Nat.mod_lt _ h0) (by assumption)]
    rw[Ub] at q1
    exact q1
   have q2:(wr.alloc (.cells (An lo).toArray 24)).heap[wr.heap.size]?=some (.cells (An lo).toArray 24 (0,0)):=Aj _ _
   have q3:Below w.heap.size w (wr.alloc (.cells (An lo).toArray 24)):=Al hbl _
   have q4:(wr.alloc (.cells (An lo).toArray 24)).heap.size=wr.heap.size+1:=Ae _ _
   have Q:=Lh (And.intro q1 (And.intro q2 q3))
   clear hst hbl q1 q2 q3
   have P0:=gx lo hi wr
   go_wp2_with fail
   clear P0 c0 c1 c2 c3 d0 d1 d2 d3
   go_loopw [22] (fun i v=>∃ j:Nat,j≤256∧i=.int .i64 (j:Int)∧Hh w.heap.size w1.heap.size m (Fz m (hi%m) lo j) v∧v.heap[wr.heap.size]?=some (.cells (An lo).toArray 24 (0,0))∧Below w.heap.size w v∧wr.heap.size<v.heap.size) (fun i _=>256-(intOf i).toNat)
   case atStart=>exact⟨0,by omega,rfl,Q.out.1,Q.out.2.1,Q.out.2.2,Nat.lt_of_lt_of_eq (Nat.lt_succ_self _) q4.symm⟩
   case round =>
    clear Q q4
    obtain⟨j,hj,rfl,hst,hn,hbl,hsv⟩:=hrel
    by_cases hlt:j<256
    ·have p1:(j:Int)<256:=by omega
     have n0:=(Af hn (Ai lo 0 (by omega))).1
     have n1:=(Af hn (Ai lo 1 (by omega))).1
     have n2:=(Af hn (Ai lo 2 (by omega))).1
     have n3:=(Af hn (Ai lo 3 (by omega))).1
     have ST:=Lh hst
     have HN:=Lh hn
     have BL:=Lh hbl
     clear hst hn hbl
     go_wp2_with fail
     go_at_call 29
     refine (P8 lo j _ hlt).mono ?_
     rintro e v2 ⟨rfl,hb2⟩
     clear n0 n1 n2 n3
     have hz2:=hb2.size
     have ST2:=Lh (F7 ST.out hb2)
     have HN2:=Lh ((hb2.block _ hsv).trans HN.out)
     have BL2:=Lh (BL.out.trans (hb2.mono (by omega)))
     clear ST HN BL hb2
     go_wp2_with fail
     go_at_call 149
     refine (PE (Fz m (hi%m) lo j) m (CF lo (255-j)) w1.heap.size (w.heap.size+1+1) v2 (UD _ _ _ _ h0) hm (EK _ _) ST2.out.1 ST2.out.2.1).mono ?_
     rintro e v3 ⟨rfl,hr3,hg3⟩
     rw[NR _ _ _ _ hlt] at hr3
     have hz3:=hg3.4
     have ST3:=Lh (show Hh w.heap.size w1.heap.size m (Fz m (hi%m) lo (j+1)) v3 from ⟨hr3,Ev hg3 ST2.out.2.1 (by omega),Ev hg3 ST2.out.2.2 (by omega)⟩)
     have HN3:=Lh (Ev hg3 HN2.out (by omega))
     have BL3:=Lh (Q9 BL2.out hg3 (by omega) (by omega))
     clear ST2 HN2 BL2 hg3 hr3
     go_wp2_with fail
     go_roundw
     case rel=>exact⟨j+1,by omega,congrArg (Value.int .i64) (by omega),ST3.out,HN3.out,BL3.out,by omega⟩
     case measure=>simp[intOf];omega
    ·have p1:¬ (j:Int)<256:=by omega
     obtain rfl:j=256:=by omega
     rw[PJ] at hst
     have hst':Hh w.heap.size w1.heap.size m (FA lo hi m 2) wr:=by
      have hmul:(hi%m*B64^4+lo)%m=(hi*B64^4+lo)%m:=by
       rw[Nat.add_mod,Nat.mul_mod,Nat.mod_mod,← Nat.mul_mod,← Nat.add_mod]
      rw[hmul] at hst
      rw[du]
      exact hst
     have ST:=Lh hst'
     have BL:=Lh hbl
     clear hst hst' hn hbl
     go_wp2_with fail
     go_roundw
     case rel=>exact⟨2,by omega,rfl,ST.out,BL.out,by omega⟩
     case measure=>simp[intOf]
  ·change _=Value.int .i64 2 at hje
   subst hje
   have r0:=(Af hst.1 (Ai _ 0 (by omega))).1
   have r1:=(Af hst.1 (Ai _ 1 (by omega))).1
   have r2:=(Af hst.1 (Ai _ 2 (by omega))).1
   have r3:=(Af hst.1 (Ai _ 3 (by omega))).1
   have z0:=(Af hst.2.2 (Ai _ 0 (by omega)))
   have z1:=(Af hst.2.2 (Ai _ 1 (by omega)))
   have z2:=(Af hst.2.2 (Ai _ 2 (by omega)))
   have z3:=(Af hst.2.2 (Ai _ 3 (by omega)))
   obtain⟨z0,y0⟩:=z0
   obtain⟨z1,y1⟩:=z1
   obtain⟨z2,y2⟩:=z2
   obtain⟨z3,y3⟩:=z3
   have hn:=JB (y:=FA lo hi m 2) hst.2.2
   have hbb:Below w.heap.size w (Kx wr (w.heap.size+1+1+1) (.int .u64 (wd (FA lo hi m 2) 0:Int)) (.int .u64 (wd (FA lo hi m 2) 1:Int)) (.int .u64 (wd (FA lo hi m 2) 2:Int)) (.int .u64 (wd (FA lo hi m 2) 3:Int))):=(((hbl.setCell (by simp only[];omega) _).setCell (by simp only[];omega) _).setCell (by simp only[];omega) _).setCell (by simp only[];omega) _
   have kl:=run_loadVar_row (P:=Tryz.prog) _ _ 24 24 _ (0,0) _ hn Tryz.underlying24 rfl (by kernel_rfl)
   have KL:=Lh kl
   have BB:=Lh hbb
   clear hst hbl kl hbb hn
   go_wp2_with fail
   exact bodyPost_ret (v:=Aa (FA lo hi m 2)) (Ap Tryz.results100 (by rfl) KL.out) rfl ⟨by unfold FA MD;rw[if_neg (by omega),if_neg (by omega),if_neg (by omega)],BB.out⟩
theorem Xw (lo hi:Nat) (w:World) :
    Calls Tryz.prog 100 #[Aa lo,Aa hi,Aa 0] w fun e w'=>e=.returned (Aa (MD lo hi 0))∧Below w.heap.size w w':=by
 have IZ:=fun w=>LQ 0 w (Nat.pow_pos B9)
 rw[decide_eq_true (rfl:(0:Nat)=0)] at IZ
 unfold Aa at IZ
 have hIZ:=Lh IZ
 clear IZ
 rw[show Aa lo=.agg #[.int .u64 (wd lo 0:Int),.int .u64 (wd lo 1:Int),.int .u64 (wd lo 2:Int),.int .u64 (wd lo 3:Int)] from rfl,show Aa hi=.agg #[.int .u64 (wd hi 0:Int),.int .u64 (wd hi 1:Int),.int .u64 (wd hi 2:Int),.int .u64 (wd hi 3:Int)] from rfl,show Aa 0=.agg #[.int .u64 (wd 0 0:Int),.int .u64 (wd 0 1:Int),.int .u64 (wd 0 2:Int),.int .u64 (wd 0 3:Int)] from rfl]
 have e0:(An 0).toArray=#[.int .u64 0,.int .u64 0,.int .u64 0,.int .u64 0]:=by simp[An,wd]
 go_enter Tryz.func100,Tryz.ntmps100
 go_wp2_with fail
 go_at_call 148
 have hW:=UH lo hi 0 w
 change Calls _ _ _ (Ms lo hi 0 w) _
 generalize Ms lo hi 0 w=X at *
 obtain⟨a0,a1,a2,a3,aB,aS⟩:=hW
 refine (hIZ.out X).mono ?_
 rintro e w1 ⟨rfl,hb1⟩
 have s1:=hb1.size
 have b3:=(hb1.block (w.heap.size+1+1+1) (by omega)).trans a3
 have bB:Below w.heap.size w w1:=aB.trans (hb1.mono (by omega))
 clear a0 a1 a2 a3 aB hb1 hIZ
 obtain⟨z0,y0⟩:=(Af b3 (Ai _ 0 (by omega)))
 obtain⟨z1,y1⟩:=(Af b3 (Ai _ 1 (by omega)))
 obtain⟨z2,y2⟩:=(Af b3 (Ai _ 2 (by omega)))
 obtain⟨z3,y3⟩:=(Af b3 (Ai _ 3 (by omega)))
 have hn:=JB (y:=0) b3
 have hbb:Below w.heap.size w (Kx w1 (w.heap.size+1+1+1) (.int .u64 (wd 0 0:Int)) (.int .u64 (wd 0 1:Int)) (.int .u64 (wd 0 2:Int)) (.int .u64 (wd 0 3:Int))):=(((bB.setCell (by simp only[];omega) _).setCell (by simp only[];omega) _).setCell (by simp only[];omega) _).setCell (by simp only[];omega) _
 have kl:=run_loadVar_row (P:=Tryz.prog) _ _ 24 24 _ (0,0) _ hn Tryz.underlying24 rfl (by kernel_rfl)
 have KL:=Lh kl
 have BB:=Lh hbb
 clear kl hbb hn b3 bB
 go_wp2_with fail
 exact bodyPost_ret (v:=Aa 0) (Ap Tryz.results100 (by rfl) KL.out) rfl ⟨by unfold MD;rw[if_pos rfl],BB.out⟩
theorem Kd (lo hi m:Nat) (w:World) (hlo:lo<B64^4) (hhi:hi<B64^4) (hm:m<B64^4) :
    Calls Tryz.prog 100 #[Aa lo,Aa hi,Aa m] w fun e w'=>e=.returned (Aa (MD lo hi m))∧Below w.heap.size w w':=by
 by_cases h:m=0
 ·subst h;exact Xw lo hi w
 ·exact bZ lo hi m w hlo hhi hm (by omega)
theorem Hx:LN<B64^4:=by decide +kernel
theorem FL:0<LN:=by decide +kernel
theorem SO:Aa LN=.agg #[.int .u64 6346243789798364141,.int .u64 1503914060200516822,.int .u64 0,.int .u64 1152921504606846976]:=by
 unfold Aa
 rw[show wd LN 0=6346243789798364141 by decide +kernel,show wd LN 1=1503914060200516822 by decide +kernel,show wd LN 2=0 by decide +kernel,show wd LN 3=1152921504606846976 by decide +kernel]
 rfl
theorem TU (w:World):Calls Tryz.prog 37 #[] w fun e w'=>e=.returned (Aa LN)∧Below w.heap.size w w':=by
 have kl:=DE (W:=w.alloc (.cells (An LN).toArray 24)) (b:=w.heap.size) (n:=LN) (Aj _ _)
 have e1:(An LN).toArray=#[.int .u64 6346243789798364141,.int .u64 1503914060200516822,.int .u64 0,.int .u64 1152921504606846976]:=by
  have h:=SO
  unfold Aa at h
  unfold An
  injection h
 rw[e1,SO] at kl
 rw[SO]
 have KL:=Lh kl
 clear kl e1
 go_enter Tryz.func37,Tryz.ntmps37
 go_wp2_with fail
 exact bodyPost_ret (v:=.agg #[.int .u64 6346243789798364141,.int .u64 1503914060200516822,.int .u64 0,.int .u64 1152921504606846976]) (Ap Tryz.results37 (by rfl) KL.out) rfl ⟨rfl,Al (Below.refl _ _) _⟩
def M3 (a b:Nat) (t:TypeId) (w:World):World:=((w.alloc (.cells #[.int .u64 (wd a 0:Int),.int .u64 (wd a 1:Int),.int .u64 (wd a 2:Int),.int .u64 (wd a 3:Int)] t)).alloc (.cells #[.int .u64 (wd b 0:Int),.int .u64 (wd b 1:Int),.int .u64 (wd b 2:Int),.int .u64 (wd b 3:Int)] t)).alloc (.cells #[.int .u64 0,.int .u64 0,.int .u64 0,.int .u64 0] t)
theorem Un (a b:Nat) (t:TypeId) (w:World):IsA (M3 a b t w) w.heap.size a t∧IsA (M3 a b t w) (w.heap.size+1) b t∧IsA (M3 a b t w) (w.heap.size+1+1) 0 t∧(M3 a b t w).heap.size=w.heap.size+3∧Below w.heap.size w (M3 a b t w):=by
 unfold M3
 refine⟨(G4 w a t _).alloc _,(AP (Cy w _ _) _:_),?_,by simp,Al (Al (Al (Below.refl _ _) _) _) _⟩
 have h:=GU w (.cells #[.int .u64 (wd a 0:Int),.int .u64 (wd a 1:Int),.int .u64 (wd a 2:Int),.int .u64 (wd a 3:Int)] t) (.cells #[.int .u64 (wd b 0:Int),.int .u64 (wd b 1:Int),.int .u64 (wd b 2:Int),.int .u64 (wd b 3:Int)] t) (.cells #[.int .u64 0,.int .u64 0,.int .u64 0,.int .u64 0] t)
 have e:(An 0).toArray=#[.int .u64 0,.int .u64 0,.int .u64 0,.int .u64 0]:=Yz
 show _=some (Obj.cells (An 0).toArray t (0,0))
 rw[e]
 exact h
theorem Xv (a b:Nat) (ha:a<B64^4) (hb:b<B64^4):MD (BS a b) (DV a b) LN=(a+b)%LN:=by
 unfold MD BS DV
 rw[if_neg (by have:=FL;omega),Nat.mul_comm,Nat.add_comm,Nat.mod_add_div]
theorem We (a b:Nat):MD (a*b%B64^4) (a*b/B64^4) LN=a*b%LN:=by
 unfold MD
 rw[if_neg (by have:=FL;omega),Nat.mul_comm (a*b/B64^4),Nat.add_comm,Nat.mod_add_div]
theorem Zp (a b:Nat) (w:World) (ha:a<B64^4) (hb:b<B64^4) :
    Calls Tryz.prog 101 #[Aa a,Aa b] w fun e w'=>e=.returned (Aa ((a+b)%LN))∧Below w.heap.size w w':=by
 have hk:DV a b<2:=by
  unfold DV
  rw[Nat.div_lt_iff_lt_mul (by decide)]
  omega
 have hs:BS a b<B64^4:=Nat.mod_lt _ (by decide)
 have hk4:DV a b<B64^4:=Nat.lt_trans hk (by decide)
 have K1:=Lh (fun w=>IB a b w ha hb)
 have K2:=Lh (fun w=>FJ (DV a b) w (by omega))
 have K3:=Lh TU
 have K4:=Lh (fun w=>Kd (BS a b) (DV a b) LN w hs hk4 Hx)
 rw[Xv a b ha hb] at K4
 have hR:(a+b)%LN<B64^4:=Nat.lt_trans (Nat.mod_lt _ FL) Hx
 obtain⟨xa,xb,xr,xz,xB⟩:=Un a b 24 w
 obtain⟨S,hS⟩:=exzb (BS a b)
 obtain⟨C,hC⟩:=exzb (DV a b)
 obtain⟨R,hRR⟩:=exzb ((a+b)%LN)
 obtain⟨Lv,hLv⟩:=exzb (LN)
 rw[hS,hC] at K1
 rw[hC] at K2
 rw[hS,hC,hRR,hLv] at K4
 rw[hLv] at K3
 rw[hRR]
 simp only[AL] at K1 K2 K3 K4 ⊢
 clear hS hC hRR hLv ha hb hs hk hk4 hR
 go_enter Tryz.func101,Tryz.ntmps101
 go_wp2_with fail
 change Calls _ _ _ (M3 a b 24 w) _
 generalize M3 a b 24 w=X at *
 refine (K1.out X).mono ?_
 rintro e w1 ⟨rfl,hb1⟩
 have xr1:=xr.keep hb1
 have hB1:Below w.heap.size w w1:=xB.trans (hb1.mono (by omega))
 have hz1:w.heap.size+1+1<w1.heap.size:=by have:=hb1.size;omega
 clear xa xb xr hb1 K1
 have r5:IsA (w1.alloc (.cells #[.int .u64 (wd S 0:Int),.int .u64 (wd S 1:Int),.int .u64 (wd S 2:Int),.int .u64 (wd S 3:Int)] 24)) w1.heap.size S 24:=Aj w1 _
 have xr2:=xr1.alloc (.cells #[.int .u64 (wd S 0:Int),.int .u64 (wd S 1:Int),.int .u64 (wd S 2:Int),.int .u64 (wd S 3:Int)] 24)
 have hB2:=Dt hB1 (by omega) (.cells #[.int .u64 (wd S 0:Int),.int .u64 (wd S 1:Int),.int .u64 (wd S 2:Int),.int .u64 (wd S 3:Int)] 24)
 have HB2:=Lh hB2
 have XR2:=Lh xr2
 have R5:=Lh r5
 clear xr1 xr2 hB2 hB1 r5 xB
 go_wp2_with fail
 generalize w1.alloc (.cells #[.int .u64 (wd S 0:Int),.int .u64 (wd S 1:Int),.int .u64 (wd S 2:Int),.int .u64 (wd S 3:Int)] 24)=Y at HB2 XR2 R5 ⊢
 obtain⟨⟨p0,p1,p2,p3⟩,_⟩:=Aq R5.out
 have hzY:w.heap.size+3≤Y.heap.size:=by have:=AU XR2.out;have:=AU R5.out;omega
 have hne1:w1.heap.size≠w.heap.size+1+1:=by have:=hz1;omega
 go_region_held3 (fun w'=>w'.cell? ⟨w1.heap.size,0,none⟩=some (.int .u64 (wd S 0:Int))∧w'.cell? ⟨w1.heap.size,1,none⟩=some (.int .u64 (wd S 1:Int))∧w'.cell? ⟨w1.heap.size,2,none⟩=some (.int .u64 (wd S 2:Int))∧w'.cell? ⟨w1.heap.size,3,none⟩=some (.int .u64 (wd S 3:Int))) (first | (with_reducible exact⟨p0,p1,p2,p3⟩) | (with_reducible exact⟨k0,k1,k2,k3⟩) | (with_reducible exact⟨m0,m1,m2,m3⟩) | (with_reducible exact⟨u0,u1,u2,u3⟩) | (with_reducible exact jt ⟨u0,u1,u2,u3⟩ hne1) | go_keep) (first
  | (go_at_call 38;go_must (refine (K2.out _).mono ?_);rintro e w3 ⟨rfl,hb3⟩
     have r3:=(show IsA Y.drew _ _ _ from R5.out).keep hb3
     have x3:=(show IsA Y.drew _ _ _ from XR2.out).keep hb3
     have B3:=HB2.out.drew.trans (hb3.mono HB2.out.size)
     obtain⟨⟨k0,k1,k2,k3⟩,_⟩:=Aq r3)
  | (go_at_call 37;go_must (refine (K3.out _).mono ?_);rintro e w4 ⟨rfl,hb4⟩
     have r4:=r3.keep hb4
     have x4:=x3.keep hb4
     have B4:=B3.trans (hb4.mono B3.size)
     obtain⟨⟨m0,m1,m2,m3⟩,_⟩:=Aq r4)
  | (go_at_call 100;go_must (refine (K4.out _).mono ?_);rintro e w5 ⟨rfl,hb5⟩
     have r5:=r4.keep hb5
     have x5:=x4.keep hb5
     have B5:=B4.trans (hb5.mono B4.size)
     obtain⟨⟨u0,u1,u2,u3⟩,_⟩:=Aq r5
     obtain⟨⟨d0,d1,d2,d3⟩,e0,e1,e2,e3⟩:=Aq x5))
 all_goals
  have rR:=AN (n:=R) x5
  have bR:=Bg (v0:=.int .u64 (wd R 0:Int)) (v1:=.int .u64 (wd R 1:Int)) (v2:=.int .u64 (wd R 2:Int)) (v3:=.int .u64 (wd R 3:Int)) B5 (b:=w.heap.size+1+1) (by omega)
  have kl:=DE rR
  have KL:=Lh kl
  have BR:=Lh bR
  clear kl bR rR
  go_wp2_with fail
  exact bodyPost_ret (Ap Tryz.results101 (by rfl) KL.out) rfl ⟨rfl,BR.out⟩
theorem O7 (a b:Nat) (w:World) (ha:a<B64^4) (hb:b<B64^4) :
    Calls Tryz.prog 98 #[Aa a,Aa b] w fun e w'=>e=.returned (Aa (a*b%LN))∧Below w.heap.size w w':=by
 have hs:a*b%B64^4<B64^4:=Nat.mod_lt _ (by decide)
 have hh:a*b/B64^4<B64^4:=Nat.div_lt_of_lt_mul (Nat.mul_lt_mul'' ha hb)
 have K1:=Lh (fun w=>Lk a b w ha hb)
 have K3:=Lh TU
 have K4:=Lh (fun w=>Kd (a*b%B64^4) (a*b/B64^4) LN w hs hh Hx)
 rw[We a b] at K4
 obtain⟨xa,xb,xr,xz,xB⟩:=Un a b 24 w
 obtain⟨S,hS⟩:=exzb (a*b%B64^4)
 obtain⟨H,hH⟩:=exzb (a*b/B64^4)
 obtain⟨R,hRR⟩:=exzb (a*b%LN)
 obtain⟨Lv,hLv⟩:=exzb (LN)
 rw[hS,hH] at K1
 rw[hS,hH,hRR,hLv] at K4
 rw[hLv] at K3
 rw[hRR]
 simp only[AL] at K1 K3 K4 ⊢
 clear hS hH hRR hLv ha hb hs hh
 go_enter Tryz.func98,Tryz.ntmps98
 go_wp2_with fail
 change Calls _ _ _ (M3 a b 24 w) _
 generalize M3 a b 24 w=X at *
 refine (K1.out X).mono ?_
 rintro e w1 ⟨rfl,hb1⟩
 have xr1:=xr.keep hb1
 have hB1:Below w.heap.size w w1:=xB.trans (hb1.mono (by omega))
 have hz1:w.heap.size+1+1<w1.heap.size:=by have:=hb1.size;omega
 clear xa xb xr hb1 K1
 have R5:Hid (IsA ((w1.alloc (.cells #[.int .u64 (wd S 0:Int),.int .u64 (wd S 1:Int),.int .u64 (wd S 2:Int),.int .u64 (wd S 3:Int)] 24)).alloc (.cells #[.int .u64 (wd H 0:Int),.int .u64 (wd H 1:Int),.int .u64 (wd H 2:Int),.int .u64 (wd H 3:Int)] 24)) w1.heap.size S 24):=(AP (Aj w1 _) _ :)
 have R6:Hid (IsA ((w1.alloc (.cells #[.int .u64 (wd S 0:Int),.int .u64 (wd S 1:Int),.int .u64 (wd S 2:Int),.int .u64 (wd S 3:Int)] 24)).alloc (.cells #[.int .u64 (wd H 0:Int),.int .u64 (wd H 1:Int),.int .u64 (wd H 2:Int),.int .u64 (wd H 3:Int)] 24)) (w1.heap.size+1) H 24):=(Cy w1 _ _ :)
 have XR2:=Lh ((xr1.alloc (.cells #[.int .u64 (wd S 0:Int),.int .u64 (wd S 1:Int),.int .u64 (wd S 2:Int),.int .u64 (wd S 3:Int)] 24)).alloc (.cells #[.int .u64 (wd H 0:Int),.int .u64 (wd H 1:Int),.int .u64 (wd H 2:Int),.int .u64 (wd H 3:Int)] 24))
 have HB2:=Lh (Dt (Dt hB1 (by omega) (.cells #[.int .u64 (wd S 0:Int),.int .u64 (wd S 1:Int),.int .u64 (wd S 2:Int),.int .u64 (wd S 3:Int)] 24)) (by rw[Ae];omega) (.cells #[.int .u64 (wd H 0:Int),.int .u64 (wd H 1:Int),.int .u64 (wd H 2:Int),.int .u64 (wd H 3:Int)] 24))
 clear xr1 hB1 xB
 go_wp2_with fail
 generalize (w1.alloc (.cells #[.int .u64 (wd S 0:Int),.int .u64 (wd S 1:Int),.int .u64 (wd S 2:Int),.int .u64 (wd S 3:Int)] 24)).alloc (.cells #[.int .u64 (wd H 0:Int),.int .u64 (wd H 1:Int),.int .u64 (wd H 2:Int),.int .u64 (wd H 3:Int)] 24)=Y at HB2 XR2 R5 R6 ⊢
 obtain⟨⟨p0,p1,p2,p3⟩,_⟩:=Aq R5.out
 obtain⟨⟨q0,q1,q2,q3⟩,_⟩:=Aq R6.out
 have hzY:w.heap.size+3≤Y.heap.size:=by have:=AU XR2.out;have:=AU R5.out;omega
 have hne1:w1.heap.size≠w.heap.size+1+1:=by have:=hz1;omega
 have hne2:w1.heap.size+1≠w.heap.size+1+1:=by have:=hz1;omega
 go_region_held3 (fun w'=>w'.cell? ⟨w1.heap.size,0,none⟩=some (.int .u64 (wd S 0:Int))∧w'.cell? ⟨w1.heap.size,1,none⟩=some (.int .u64 (wd S 1:Int))∧w'.cell? ⟨w1.heap.size,2,none⟩=some (.int .u64 (wd S 2:Int))∧w'.cell? ⟨w1.heap.size,3,none⟩=some (.int .u64 (wd S 3:Int))∧w'.cell? ⟨w1.heap.size+1,0,none⟩=some (.int .u64 (wd H 0:Int))∧w'.cell? ⟨w1.heap.size+1,1,none⟩=some (.int .u64 (wd H 1:Int))∧w'.cell? ⟨w1.heap.size+1,2,none⟩=some (.int .u64 (wd H 2:Int))∧w'.cell? ⟨w1.heap.size+1,3,none⟩=some (.int .u64 (wd H 3:Int))) (first | (with_reducible exact⟨p0,p1,p2,p3,q0,q1,q2,q3⟩) | (with_reducible exact Db r4 s4) | (with_reducible exact Db r5 s5) | (with_reducible exact Db (r5.far hne1) (s5.far hne2)) | go_keep) (first
  | (go_at_call 37;go_must (refine (K3.out _).mono ?_);rintro e w4 ⟨rfl,hb4⟩
     have r4:=(show IsA Y.drew _ _ _ from R5.out).keep hb4
     have s4:=(show IsA Y.drew _ _ _ from R6.out).keep hb4
     have x4:=(show IsA Y.drew _ _ _ from XR2.out).keep hb4
     have B4:=HB2.out.drew.trans (hb4.mono HB2.out.size)
     obtain⟨⟨m0,m1,m2,m3⟩,_⟩:=Aq r4
     obtain⟨⟨n0,n1,n2,n3⟩,_⟩:=Aq s4)
  | (go_at_call 100;go_must (refine (K4.out _).mono ?_);rintro e w5 ⟨rfl,hb5⟩
     have r5:=r4.keep hb5
     have s5:=s4.keep hb5
     have x5:=x4.keep hb5
     have B5:=B4.trans (hb5.mono B4.size)
     obtain⟨⟨d0,d1,d2,d3⟩,e0,e1,e2,e3⟩:=Aq x5))
 all_goals
  have rR:=AN (n:=R) x5
  have bR:=Bg (v0:=.int .u64 (wd R 0:Int)) (v1:=.int .u64 (wd R 1:Int)) (v2:=.int .u64 (wd R 2:Int)) (v3:=.int .u64 (wd R 3:Int)) B5 (b:=w.heap.size+1+1) (by omega)
  have kl:=DE rR
  have KL:=Lh kl
  have BR:=Lh bR
  clear kl bR rR
  go_wp2_with fail
  exact bodyPost_ret (Ap Tryz.results98 (by rfl) KL.out) rfl ⟨rfl,BR.out⟩
theorem Kl:Aa 0=.agg #[.int .u64 0,.int .u64 0,.int .u64 0,.int .u64 0]:=by unfold Aa;simp[wd]
def FY (w:World):World:=w.alloc (.cells #[.int .u64 0,.int .u64 0,.int .u64 0,.int .u64 0] 24)
theorem JF (w:World):IsA (FY w) w.heap.size 0 24∧(FY w).heap.size=w.heap.size+1∧Below w.heap.size w (FY w):=⟨CE (Aj w _),by unfold FY;simp,Al (Below.refl _ _) _⟩
theorem Xd {a b:Nat} (h:a<b):Eg a b = -1:=by unfold Eg;rw[if_pos h]
theorem V6 {a b:Nat} (h:¬ a<b):0≤Eg a b:=by unfold Eg;rw[if_neg h];split <;> decide
theorem RI (s:ByteArray) (w:World) (hs:s.size=32) :
    Calls Tryz.prog 48 #[.string s] w fun e w'=>e=.returned (if leN s.data.toList<LN then .tuple #[Aa (leN s.data.toList),.int .i64 0] else .tuple #[Aa 0,.int .i64 23])∧Below w.heap.size w w':=by
 have K1:=Lh (fun w=>Gh s w hs)
 have hn:leN s.data.toList<B64^4:=by
  have h:=J9 s.data.toList
  rw[← Lib.size_eq s,hs] at h
  exact Nat.lt_of_lt_of_le h (by decide)
 obtain⟨n,hN⟩:=exzb (leN s.data.toList)
 rw[hN] at K1 hn ⊢
 have K2:=Lh TU
 have K3:=Lh (fun w=>Jk n LN w hn Hx)
 obtain⟨c,hc⟩:=exzb (Eg n LN)
 have hc1:n<LN→c = -1:=fun h=>by rw[← hc];exact Xd h
 have hc2:¬ n<LN→0≤c:=fun h=>by rw[← hc];exact V6 h
 rw[hc] at K3
 obtain⟨Lv,hLv⟩:=exzb (LN)
 rw[hLv] at K2 K3 hc1 hc2 ⊢
 obtain⟨xr,xz,xB⟩:=JF w
 have en:=Kl
 rw[en]
 simp only[AL] at K1 K2 K3 ⊢
 clear hN hc hLv hs hn en
 by_cases hlt:n<Lv
 ·obtain rfl:=hc1 hlt
  rw[if_pos hlt]
  clear hc1 hc2 hlt
  go_enter Tryz.func48,Tryz.ntmps48
  go_wp2_with fail
  change Calls _ _ _ (FY w) _
  generalize FY w=X at *
  refine (K1.out X).mono ?_
  rintro e w1 ⟨rfl,hb1⟩
  have xr1:=xr.keep hb1
  have hB1:Below w.heap.size w w1:=xB.trans (hb1.mono (by omega))
  have hz1:w.heap.size<w1.heap.size:=by have:=AU xr1;omega
  have R5:Hid (IsA (w1.alloc (.cells #[.int .u64 (wd n 0:Int),.int .u64 (wd n 1:Int),.int .u64 (wd n 2:Int),.int .u64 (wd n 3:Int)] 24)) w1.heap.size n 24):=(Aj w1 _ :)
  have XR2:=Lh (xr1.alloc (.cells #[.int .u64 (wd n 0:Int),.int .u64 (wd n 1:Int),.int .u64 (wd n 2:Int),.int .u64 (wd n 3:Int)] 24))
  have HB2:=Lh (Dt hB1 (by omega) (.cells #[.int .u64 (wd n 0:Int),.int .u64 (wd n 1:Int),.int .u64 (wd n 2:Int),.int .u64 (wd n 3:Int)] 24))
  clear xr xr1 hB1 xB hb1
  go_wp2_with fail
  generalize w1.alloc (.cells #[.int .u64 (wd n 0:Int),.int .u64 (wd n 1:Int),.int .u64 (wd n 2:Int),.int .u64 (wd n 3:Int)] 24)=Y at HB2 XR2 R5 ⊢
  obtain⟨⟨p0,p1,p2,p3⟩,_⟩:=Aq R5.out
  go_region_held3 (fun w'=>w'.cell? ⟨w1.heap.size,0,none⟩=some (.int .u64 (wd n 0:Int))∧w'.cell? ⟨w1.heap.size,1,none⟩=some (.int .u64 (wd n 1:Int))∧w'.cell? ⟨w1.heap.size,2,none⟩=some (.int .u64 (wd n 2:Int))∧w'.cell? ⟨w1.heap.size,3,none⟩=some (.int .u64 (wd n 3:Int))) (first | (with_reducible exact⟨p0,p1,p2,p3⟩) | (with_reducible exact Dk r3) | (with_reducible exact Dk r4) | go_keep) (first
   | (go_at_call 37;go_must (refine (K2.out _).mono ?_);rintro e w3 ⟨rfl,hb3⟩
      have r3:=(show IsA Y.drew _ _ _ from R5.out).keep hb3
      have x3:=(show IsA Y.drew _ _ _ from XR2.out).keep hb3
      have B3:=HB2.out.drew.trans (hb3.mono HB2.out.size)
      obtain⟨⟨k0,k1,k2,k3⟩,_⟩:=Aq r3)
   | (go_at_call 74;go_must (refine (K3.out _).mono ?_);rintro e w4 ⟨rfl,hb4⟩
      have r4:=r3.keep hb4
      have x4:=x3.keep hb4
      have B4:=B3.trans (hb4.mono B3.size)
      obtain⟨⟨m0,m1,m2,m3⟩,_⟩:=Aq r4))
  all_goals
   obtain⟨⟨d0,d1,d2,d3⟩,e0,e1,e2,e3⟩:=Aq x4
   have KL:=Lh (DE (AN (n:=n) x4))
   have BR:=Lh (Bg (v0:=.int .u64 (wd n 0:Int)) (v1:=.int .u64 (wd n 1:Int)) (v2:=.int .u64 (wd n 2:Int)) (v3:=.int .u64 (wd n 3:Int)) B4 (b:=w.heap.size) (Nat.le_refl _))
   go_wp2_with fail
   exact bodyPost_ret (AC Tryz.results48 (by rfl) (by rfl) KL.out) rfl ⟨rfl,BR.out⟩
 ·have hc0:=hc2 hlt
  rw[if_neg hlt]
  clear hc1 hc2 hlt
  go_enter Tryz.func48,Tryz.ntmps48
  go_wp2_with fail
  change Calls _ _ _ (FY w) _
  generalize FY w=X at *
  refine (K1.out X).mono ?_
  rintro e w1 ⟨rfl,hb1⟩
  have xr1:=xr.keep hb1
  have hB1:Below w.heap.size w w1:=xB.trans (hb1.mono (by omega))
  have hz1:w.heap.size<w1.heap.size:=by have:=AU xr1;omega
  have R5:Hid (IsA (w1.alloc (.cells #[.int .u64 (wd n 0:Int),.int .u64 (wd n 1:Int),.int .u64 (wd n 2:Int),.int .u64 (wd n 3:Int)] 24)) w1.heap.size n 24):=(Aj w1 _ :)
  have XR2:=Lh (xr1.alloc (.cells #[.int .u64 (wd n 0:Int),.int .u64 (wd n 1:Int),.int .u64 (wd n 2:Int),.int .u64 (wd n 3:Int)] 24))
  have HB2:=Lh (Dt hB1 (by omega) (.cells #[.int .u64 (wd n 0:Int),.int .u64 (wd n 1:Int),.int .u64 (wd n 2:Int),.int .u64 (wd n 3:Int)] 24))
  clear xr xr1 hB1 xB hb1
  go_wp2_with fail
  generalize w1.alloc (.cells #[.int .u64 (wd n 0:Int),.int .u64 (wd n 1:Int),.int .u64 (wd n 2:Int),.int .u64 (wd n 3:Int)] 24)=Y at HB2 XR2 R5 ⊢
  obtain⟨⟨p0,p1,p2,p3⟩,_⟩:=Aq R5.out
  go_region_held3 (fun w'=>w'.cell? ⟨w1.heap.size,0,none⟩=some (.int .u64 (wd n 0:Int))∧w'.cell? ⟨w1.heap.size,1,none⟩=some (.int .u64 (wd n 1:Int))∧w'.cell? ⟨w1.heap.size,2,none⟩=some (.int .u64 (wd n 2:Int))∧w'.cell? ⟨w1.heap.size,3,none⟩=some (.int .u64 (wd n 3:Int))) (first | (with_reducible exact⟨p0,p1,p2,p3⟩) | (with_reducible exact Dk r3) | (with_reducible exact Dk r4) | go_keep) (first
   | (go_at_call 37;go_must (refine (K2.out _).mono ?_);rintro e w3 ⟨rfl,hb3⟩
      have r3:=(show IsA Y.drew _ _ _ from R5.out).keep hb3
      have x3:=(show IsA Y.drew _ _ _ from XR2.out).keep hb3
      have B3:=HB2.out.drew.trans (hb3.mono HB2.out.size)
      obtain⟨⟨k0,k1,k2,k3⟩,_⟩:=Aq r3)
   | (go_at_call 74;go_must (refine (K3.out _).mono ?_);rintro e w4 ⟨rfl,hb4⟩
      have r4:=r3.keep hb4
      have x4:=x3.keep hb4
      have B4:=B3.trans (hb4.mono B3.size)
      obtain⟨⟨m0,m1,m2,m3⟩,_⟩:=Aq r4))
  all_goals
   have x5:=AT x4
   obtain⟨⟨d0,d1,d2,d3⟩,e0,e1,e2,e3⟩:=Aq x5
   have kl:=DE (CE (Gr (v0:=.int .u64 0) (v1:=.int .u64 0) (v2:=.int .u64 0) (v3:=.int .u64 0) x5))
   rw[Kl] at kl
   have KL:=Lh kl
   have BR:=Lh (Bg (v0:=.int .u64 0) (v1:=.int .u64 0) (v2:=.int .u64 0) (v3:=.int .u64 0) B4 (b:=w.heap.size) (Nat.le_refl _))
   clear kl x5
   go_wp2_with fail
   exact bodyPost_ret (AC Tryz.results48 (by rfl) (by rfl) KL.out) rfl ⟨rfl,BR.out⟩
structure sc_IsNums (w:World) (a:Option Addr) (len:Nat) (ns:List Nat):Prop where
 ln:ns.length=len
 lt:∀ n ∈ ns,n<B64^4
 at_:0<len→∃ b,a=some ⟨b,0,none⟩∧b<w.heap.size∧∀ i k,i<len→k<4→w.cell? ⟨b,i*4+k,none⟩=some (.int .u64 (wd (ns.getD i 0) k:Int))
theorem sc_IsNums.below {w w':World} {a:Option Addr} {len:Nat} {ns:List Nat} (h:sc_IsNums w a len ns) (hb:Below w.heap.size w w'):sc_IsNums w' a len ns :=
 ⟨h.ln,h.lt,fun h0=>by
  obtain⟨b,rfl,hlt,hc⟩:=h.at_ h0
  exact⟨b,rfl,Nat.lt_of_lt_of_le hlt hb.size,fun i k hi hk=>(hb.cell (p:=⟨b,i*4+k,none⟩) hlt).trans (hc i k hi hk)⟩⟩
theorem sc_IsNums.far {w:World} {b c len:Nat} {ns:List Nat} {v0 v1 v2 v3:Value} (h:sc_IsNums w (some ⟨b,0,none⟩) len ns) (hne:b≠c):sc_IsNums ((((w.setCell ⟨c,0,none⟩ v0).setCell ⟨c,1,none⟩ v1).setCell ⟨c,2,none⟩ v2).setCell ⟨c,3,none⟩ v3) (some ⟨b,0,none⟩) len ns :=
 ⟨h.ln,h.lt,fun h0=>by
  obtain⟨b',e,hlt,hc⟩:=h.at_ h0
  cases e
  refine⟨b,rfl,by simp only[Hz];exact hlt,fun i k hi hk=>?_⟩
  rw[← hc i k hi hk]
  simp only[World.cell?,FU hne]⟩
def M2 (a:Nat) (t:TypeId) (w:World):World:=(w.alloc (.cells #[.int .u64 (wd a 0:Int),.int .u64 (wd a 1:Int),.int .u64 (wd a 2:Int),.int .u64 (wd a 3:Int)] t)).alloc (.cells #[.int .u64 0,.int .u64 0,.int .u64 0,.int .u64 0] t)
theorem gS (a:Nat) (t:TypeId) (w:World):IsA (M2 a t w) w.heap.size a t∧IsA (M2 a t w) (w.heap.size+1) 0 t∧(M2 a t w).heap.size=w.heap.size+2∧Below w.heap.size w (M2 a t w) :=
 ⟨G4 w a t _,CE (Cy w _ _),by unfold M2;simp,Al (Al (Below.refl _ _) _) _⟩
theorem QP (F:Nat) (g:Nat→Nat→Nat) (hg:∀ x y,x<B64^4→y<B64^4→g x y<B64^4)
    (hF:∀ x y w,x<B64^4→y<B64^4→Calls Tryz.prog F #[Aa x,Aa y] w fun e w'=>e=.returned (Aa (g x y))∧Below w.heap.size w w')
    (o:Nat) (ho:o<B64^4) (a:Option Addr) (len cap:Nat) (ns:List Nat) (w:World) (hl:len≤100) (hn:sc_IsNums w a len ns) (hE:∀ args w,(callFunc F args).run Tryz.prog w=.ok (.enter F args) w) :
    Calls Tryz.prog 97 #[Aa o,.slice a len cap,.func (.func F) #[] #[]] w fun e w'=>e=.returned (Aa (ns.foldl g o))∧Below w.heap.size w w':=by
 have HF:=Lh hF
 have HG:=Lh hg
 have HA0:Hid (0<len→∀ b,a=some ⟨b,0,none⟩→b<w.heap.size):=fun h0 b e=>by
  obtain⟨b',e',hlt,_⟩:=hn.at_ h0
  rw[e] at e'
  cases e'
  exact hlt
 obtain⟨xo,xr,xz,xB⟩:=gS o 24 w
 have hn2:=hn.below xB
 have HN:=Lh hn2
 simp only[AL]
 clear hn hn2 hF hg
 go_enter Tryz.func97,Tryz.ntmps97
 go_wp2_with fail
 change Code.wp _ _ _ _ (M2 o 24 w)
 generalize M2 o 24 w=X at *
 go_loopw [11] (fun i wr=>∃ k:Nat,k≤len∧i=.int .i64 (k:Int)∧IsA wr w.heap.size ((ns.take k).foldl g o) 24∧IsA wr (w.heap.size+1) 0 24∧sc_IsNums wr a len ns∧Hid (0<len→∀ b,a=some ⟨b,0,none⟩→b<w.heap.size)∧(ns.take k).foldl g o<B64^4∧Below w.heap.size w wr) (fun i _=>len-(Go.RowKit.intOf i).toNat)
 case atStart=>exact⟨0,by omega,rfl,xo,xr,HN.out,HA0,ho,xB⟩
 case round =>
  obtain⟨k,hk,rfl,ro,rr,hn,HA0,hA,hbe⟩:=hrel
  have hzr:w.heap.size+2≤wr.heap.size:=by have:=AU rr;omega
  by_cases hlt:k<len
  ·have p1:(k:Int)<(len:Int):=by omega
   obtain⟨b,rfl,hb,hc⟩:=hn.at_ (by omega)
   have hx:ns.getD k 0<B64^4:=by
    have hk2:k<ns.length:=by rw[hn.ln];exact hlt
    rw[List.getD_eq_getElem?_getD,List.getElem?_eq_getElem hk2]
    exact hn.lt _ (List.getElem_mem hk2)
   have hstep:(ns.take (k+1)).foldl g o=g ((ns.take k).foldl g o) (ns.getD k 0):=by
    have hk2:k<ns.length:=by rw[hn.ln];exact hlt
    rw[List.take_succ_eq_append_getElem hk2,List.foldl_append,List.getD_eq_getElem?_getD,List.getElem?_eq_getElem hk2]
    rfl
   have c0:wr.cell? ⟨b,k*4,none⟩=_:=hc k 0 hlt (by omega)
   have c1:=hc k 1 hlt (by omega)
   have c2:=hc k 2 hlt (by omega)
   have c3:=hc k 3 hlt (by omega)
   have HNE:=Lh (show b≠w.heap.size by have:=HA0.out (by omega) b rfl;omega)
   have HS:=Lh hstep
   obtain⟨A,hAA⟩:=exzb ((ns.take k).foldl g o)
   obtain⟨Y,hY⟩:=exzb (ns.getD k 0)
   rw[hAA] at ro hA HS
   rw[hY] at hx c0 c1 c2 c3 HS
   have KF:=Lh (fun w=>HF.out A Y w hA hx)
   have HGA:=Lh (HG.out A Y hA hx)
   obtain⟨R,hR⟩:=exzb (g A Y)
   rw[hR] at KF HGA HS
   simp only[AL] at KF
   obtain⟨⟨d0,d1,d2,d3⟩,e0,e1,e2,e3⟩:=Aq ro
   have HN2:=Lh hn
   have roY:=ro.alloc (.cells #[.int .u64 (wd Y 0:Int),.int .u64 (wd Y 1:Int),.int .u64 (wd Y 2:Int),.int .u64 (wd Y 3:Int)] 24)
   have rrY:=rr.alloc (.cells #[.int .u64 (wd Y 0:Int),.int .u64 (wd Y 1:Int),.int .u64 (wd Y 2:Int),.int .u64 (wd Y 3:Int)] 24)
   obtain⟨⟨f0,f1,f2,f3⟩,-⟩:=Aq roY
   have HRO:=Lh roY
   have HRR:=Lh rrY
   have HBE:=Lh (Dt hbe (by omega) (.cells #[.int .u64 (wd Y 0:Int),.int .u64 (wd Y 1:Int),.int .u64 (wd Y 2:Int),.int .u64 (wd Y 3:Int)] 24))
   have HNY:=Lh (hn.below ((Below.refl wr.heap.size wr).alloc (Nat.le_refl _) (.cells #[.int .u64 (wd Y 0:Int),.int .u64 (wd Y 1:Int),.int .u64 (wd Y 2:Int),.int .u64 (wd Y 3:Int)] 24)))
   clear hc hAA hY hR hstep HF HG hA hx hn HN roY rrY ro rr hbe HN2
   go_wp2_with fail
   refine (KF.out _).mono ?_
   rintro e w2 ⟨rfl,hb2⟩
   have ro2:=HRO.out.keep hb2
   have rr2:=HRR.out.keep hb2
   have hB2:=HBE.out.trans (hb2.mono (by simp;omega))
   have hn2:=HNY.out.below hb2
   obtain⟨⟨d0,d1,d2,d3⟩,e0,e1,e2,e3⟩:=Aq ro2
   have ro3:=Lh (AN (n:=R) ro2)
   have rr3:=Lh (rr2.far (c:=w.heap.size) (v0:=.int .u64 (wd R 0:Int)) (v1:=.int .u64 (wd R 1:Int)) (v2:=.int .u64 (wd R 2:Int)) (v3:=.int .u64 (wd R 3:Int)) (by omega))
   have hB3:=Lh (Bg (v0:=.int .u64 (wd R 0:Int)) (v1:=.int .u64 (wd R 1:Int)) (v2:=.int .u64 (wd R 2:Int)) (v3:=.int .u64 (wd R 3:Int)) hB2 (b:=w.heap.size) (Nat.le_refl _))
   have hne:b≠w.heap.size:=HNE.out
   have hn3:=Lh (hn2.far (v0:=.int .u64 (wd R 0:Int)) (v1:=.int .u64 (wd R 1:Int)) (v2:=.int .u64 (wd R 2:Int)) (v3:=.int .u64 (wd R 3:Int)) hne)
   clear HRO HRR HBE HNY ro2 rr2 hB2 hn2 hb2
   go_wp2_with fail
   go_roundw
   case rel=>exact⟨k+1,by omega,congrArg (Value.int .i64) (by omega),by rw[HS.out];exact ro3.out,rr3.out,hn3.out,HA0,by rw[HS.out];exact HGA.out,hB3.out⟩
   case measure =>
    simp[Go.RowKit.intOf]
    omega
  ·obtain rfl:k=len:=by omega
   have p1:¬ (k:Int)<(k:Int):=by omega
   have hall:ns.take k=ns:=List.take_of_length_le (by rw[hn.ln];exact Nat.le_refl _)
   rw[hall] at ro hA
   obtain⟨R,hR⟩:=exzb (ns.foldl g o)
   rw[hR] at ro
   have HR2:=Lh hR
   have rr2:=AT rr
   obtain⟨⟨d0,d1,d2,d3⟩,-⟩:=Aq ro
   obtain⟨⟨f0,f1,f2,f3⟩,g0,g1,g2,g3⟩:=Aq rr2
   have KL:=Lh (DE (AN (n:=R) rr2))
   have BR:=Lh (Bg (v0:=.int .u64 (wd R 0:Int)) (v1:=.int .u64 (wd R 1:Int)) (v2:=.int .u64 (wd R 2:Int)) (v3:=.int .u64 (wd R 3:Int)) hbe (b:=w.heap.size+1) (by omega))
   clear hA hall hR hn rr rr2 ro hbe HF HG HN
   go_wp2_with fail
   exact bodyPost_ret (Ap Tryz.results97 (by rfl) KL.out) rfl ⟨by rw[HR2.out];rfl,BR.out⟩
theorem SV (a:Option Addr) (len cap:Nat) (ns:List Nat) (w:World) (hl:len≤100) (hn:sc_IsNums w a len ns) :
    Calls Tryz.prog 43 #[.slice a len cap] w fun e w'=>e=.returned (Aa (ns.foldl (fun a b=>(a+b)%LN) 0))∧Below w.heap.size w w':=by
 obtain⟨xr,xz,xB⟩:=JF w
 have hn1:=hn.below xB
 have K1:=Lh (fun w=>FJ 0 w (by decide))
 have K2:=Lh (fun (w:World) (h:sc_IsNums w a len ns)=>QP 101 (fun a b=>(a+b)%LN) (fun x y _ _=>Nat.lt_trans (Nat.mod_lt _ FL) Hx) (fun x y w hx hy=>Zp x y w hx hy) 0 (by decide) a len cap ns w hl h (enters_of Tryz.func101 (by kernel_rfl) rfl))
 obtain⟨R,hR⟩:=exzb (ns.foldl (fun a b=>(a+b)%LN) 0)
 rw[hR] at K2 ⊢
 have HN1:=Lh hn1
 simp only[AL] at K1 K2 ⊢
 have k0:((0:Nat):Int)=0:=rfl
 rw[k0] at K1
 clear hn hn1 hR hl
 go_enter Tryz.func43,Tryz.ntmps43
 go_wp2_with fail
 change Calls _ _ _ (FY w) _
 generalize FY w=X at *
 refine (K1.out X).mono ?_
 rintro e w1 ⟨rfl,hb1⟩
 have hn2:=HN1.out.below hb1
 have xr1:=xr.keep hb1
 have hB1:Below w.heap.size w w1:=xB.trans (hb1.mono (by omega))
 clear HN1 xr xB hb1 K1
 go_wp2_with fail
 refine (K2.out w1 hn2).mono ?_
 rintro e w2 ⟨rfl,hb2⟩
 have xr2:=AT (xr1.keep hb2)
 have hB2:Below w.heap.size w w2:=hB1.trans (hb2.mono (by have:=AU xr1;omega))
 obtain⟨⟨f0,f1,f2,f3⟩,g0,g1,g2,g3⟩:=Aq xr2
 have KL:=Lh (DE (AN (n:=R) xr2))
 have BR:=Lh (Bg (v0:=.int .u64 (wd R 0:Int)) (v1:=.int .u64 (wd R 1:Int)) (v2:=.int .u64 (wd R 2:Int)) (v3:=.int .u64 (wd R 3:Int)) hB2 (b:=w.heap.size) (Nat.le_refl _))
 clear hn2 K2 xr1 hB1 hb2 hB2 xr2
 go_wp2_with fail
 exact bodyPost_ret (Ap Tryz.results43 (by rfl) KL.out) rfl ⟨rfl,BR.out⟩
theorem QC (a:Option Addr) (len cap:Nat) (ns:List Nat) (w:World) (hl:len≤100) (hn:sc_IsNums w a len ns) :
    Calls Tryz.prog 42 #[.slice a len cap] w fun e w'=>e=.returned (Aa (ns.foldl (fun a b=>a*b%LN) 1))∧Below w.heap.size w w':=by
 obtain⟨xr,xz,xB⟩:=JF w
 have hn1:=hn.below xB
 have K1:=Lh (fun w=>FJ 1 w (by decide))
 have K2:=Lh (fun (w:World) (h:sc_IsNums w a len ns)=>QP 98 (fun a b=>a*b%LN) (fun x y _ _=>Nat.lt_trans (Nat.mod_lt _ FL) Hx) (fun x y w hx hy=>O7 x y w hx hy) 1 (by decide) a len cap ns w hl h (enters_of Tryz.func98 (by kernel_rfl) rfl))
 obtain⟨R,hR⟩:=exzb (ns.foldl (fun a b=>a*b%LN) 1)
 rw[hR] at K2 ⊢
 have HN1:=Lh hn1
 simp only[AL] at K1 K2 ⊢
 have k0:((1:Nat):Int)=1:=rfl
 rw[k0] at K1
 clear hn hn1 hR hl
 go_enter Tryz.func42,Tryz.ntmps42
 go_wp2_with fail
 change Calls _ _ _ (FY w) _
 generalize FY w=X at *
 refine (K1.out X).mono ?_
 rintro e w1 ⟨rfl,hb1⟩
 have hn2:=HN1.out.below hb1
 have xr1:=xr.keep hb1
 have hB1:Below w.heap.size w w1:=xB.trans (hb1.mono (by omega))
 clear HN1 xr xB hb1 K1
 go_wp2_with fail
 refine (K2.out w1 hn2).mono ?_
 rintro e w2 ⟨rfl,hb2⟩
 have xr2:=AT (xr1.keep hb2)
 have hB2:Below w.heap.size w w2:=hB1.trans (hb2.mono (by have:=AU xr1;omega))
 obtain⟨⟨f0,f1,f2,f3⟩,g0,g1,g2,g3⟩:=Aq xr2
 have KL:=Lh (DE (AN (n:=R) xr2))
 have BR:=Lh (Bg (v0:=.int .u64 (wd R 0:Int)) (v1:=.int .u64 (wd R 1:Int)) (v2:=.int .u64 (wd R 2:Int)) (v3:=.int .u64 (wd R 3:Int)) hB2 (b:=w.heap.size) (Nat.le_refl _))
 clear hn2 K2 xr1 hB1 hb2 hB2 xr2
 go_wp2_with fail
 exact bodyPost_ret (Ap Tryz.results42 (by rfl) KL.out) rfl ⟨rfl,BR.out⟩
open Go.RowKit Go.Sort
theorem cE {a b:N3} {p q:Pt} (ha:Ok3 a p) (hb:Ok3 b q) (w:World):Calls Tryz.prog 116 #[pv3 a,pv3 b,Aa dN] w fun E w'=>E=.returned (pv3 (MW a b))∧Below w.heap.size w w':=L4 a b w ha.is hb.is
theorem ic {a:N3} {p:Pt} (ha:Ok3 a p) (w:World):Calls Tryz.prog 53 #[pv3 a] w fun E w'=>E=.returned (pv3 (YO a))∧Below w.heap.size w w':=aA _ _ _ ha.is.1 ha.is.2.1 ha.is.2.2 w
theorem zz2 (p q:Pt) (hp:On p) (hq:On q):Bj (Bj Ci p) q=Bj p q:=by rw[Ez p hp]
theorem zz3 (p q r:Pt) (hp:On p) (hq:On q) (hr:On r):Bj (Bj Ci (Bj (Bj Ci p) q)) r=Bj (Bj p q) r:=by rw[zz2 p q hp hq,Ez _ (Fw p q hp hq)]
theorem y1 (p q r:Pt) (hp:On p) (hq:On q) (hr:On r):Bj (Bj Ci (Bj (Bj Ci p) q)) r=Bj (Bj Ci p) (Bj (Bj Ci q) r):=by
 rw[zz3 p q r hp hq hr,Ez p hp,Ez q hq,Cz p q r hp hq hr]
theorem y2 (p q r:Pt) (hp:On p) (hq:On q) (hr:On r):Bj (Bj Ci (Bj (Bj Ci p) q)) r=Bj (Bj (Bj Ci r) q) p:=by
 rw[zz3 p q r hp hq hr,Ez r hr,Cz p q r hp hq hr,Da p,Da q r]
theorem y3 (p:Pt) (hp:On p):Bj (Bj Ci p) Ci=p:=by rw[Ez p hp,Dq p hp]
theorem y4 (p q:Pt) (hp:On p) (hq:On q):Bj p q=Bj (Bj Ci p) q:=by rw[Ez p hp]
theorem y5 (p:Pt) (hp:On p):Bj p p=Bj (Bj Ci p) p:=by rw[Ez p hp]
end Go.Proofs.YtnaldciakclccaaGreat
