/- Lemmas of this proof. -/
import Derived.Shelf.Spec.BitsCarry
import Derived.Laws.CopyOwn
import Derived.BigRegion
import Derived.Laws.Cover3
import Derived.Deep.OwnRows
import Derived.Deep.RegionLaw
import Derived.Test.YtnaldciakclccaaGreatEv01
import Derived.Test.YtnaldciakclccaaGreatShelf
namespace Go.Proofs.YtnaldciakclccaaGreat
set_option maxRecDepth 20000
set_option maxHeartbeats 8000000
set_option linter.unusedSimpArgs false
set_option linter.unusedVariables false
open Go.RowKit
theorem Nl (x y c:Nat) (hc:c≤1) (w:World):(callFunc 147 #[.int .u64 (x:Int),.int .u64 (y:Int),.int .u64 (c:Int)]).run Tryz.prog w =
      .ok (.value (.tuple #[.int .u64 (((x+y+c)%18446744073709551616:Nat):Int),.int .u64 (((x+y+c)/18446744073709551616:Nat):Int)])) w:=by
 rw[run_callFunc_extern Tryz.func147 (by kernel_rfl) (by kernel_rfl) (by kernel_rfl) (e:=add64Entry) (by kernel_rfl),run_add64 x y c (by omega) (by omega) (by omega) (by omega)]
 simp only[Result.andThen]
 congr 5 <;> omega
theorem Mp (x y:Nat) (w:World):(callFunc 147 #[.int .u64 (x:Int),.int .u64 (y:Int),.int .u64 0]).run Tryz.prog w =
      .ok (.value (.tuple #[.int .u64 (((x+y+0)%18446744073709551616:Nat):Int),.int .u64 (((x+y+0)/18446744073709551616:Nat):Int)])) w:=Nl x y 0 (by omega) w
theorem CI {P:Program} {fn:Func} {tmps:Array Value} {w:World} {v v':Value} {a t b a' t' b':Nat} (h:fn.results=#[.cell a t,.cell a' t']) (ha:tmps.getD a undef=.pointer (some ⟨b,0,none⟩)) (ha':tmps.getD a' undef=.pointer (some ⟨b',0,none⟩)) (hl:(loadVar t ⟨b,0,none⟩).run P w=.ok v w) (hl':(loadVar t' ⟨b',0,none⟩).run P w=.ok v' w):(results fn tmps).run P w=.ok (.tuple #[v,v']) w:=by
 rw[Array.getD_eq_getD_getElem?] at ha ha'
 simp only[results,h]
 simp[asAddr,ha,ha',hl,hl']
def Mn (hs a b:Nat) (p:Nat→Nat) (W:World):Prop :=
 W.heap[hs]?=some (.cells (An a).toArray 24 (0,0))∧W.heap[hs+1]?=some (.cells (An b).toArray 24 (0,0))∧W.heap[hs+1+1]?=some (.cells (An 0).toArray 24 (0,0)) ∧
 W.heap[hs+1+1+1]?=some (.cells (An 0).toArray 24 (0,0))∧W.heap[hs+1+1+1+1]?=some (.cells (OR p).toArray 160 (0,0))∧W.heap.size=hs+5
theorem AF {w:World} {b i:Nat} {t:TypeId} {L:List Value} (h:w.heap[b]?=some (.cells L.toArray t (0,0))) (v:Value):(w.setCell ⟨b,i,none⟩ v).heap[b]?=some (.cells (L.set i v).toArray t (0,0)):=by
 have hlt:b<w.heap.size:=by
  apply Nat.lt_of_not_le
  intro hle
  rw[Array.getElem?_eq_none hle] at h
  simp at h
 have h':w.heap[b]=.cells L.toArray t (0,0):=by simpa [Array.getElem?_eq_getElem hlt] using h
 show (w.heap.modify b _)[b]?=_
 rw[Array.getElem?_eq_getElem (by simpa using hlt),Array.getElem_modify_self,h']
 simp
theorem TQ {hs a b:Nat} {p:Nat→Nat} {W:World} (h:Mn hs a b p W) (k x:Nat):Mn hs a b (upd p k x) (W.setCell ⟨hs+1+1+1+1,k,none⟩ (.int .u64 (x:Int))):=by
 obtain⟨h0,h1,h2,h3,h4,h5⟩:=h
 refine⟨?_,?_,?_,?_,?_,?_⟩
 ·rw[Below.heap_setCell _ _ _ _ (by show hs≠hs+1+1+1+1;omega)];exact h0
 ·rw[Below.heap_setCell _ _ _ _ (by show hs+1≠hs+1+1+1+1;omega)];exact h1
 ·rw[Below.heap_setCell _ _ _ _ (by show hs+1+1≠hs+1+1+1+1;omega)];exact h2
 ·rw[Below.heap_setCell _ _ _ _ (by show hs+1+1+1≠hs+1+1+1+1;omega)];exact h3
 ·rw[← YC];exact AF h4 _
 ·show (W.heap.modify _ _).size=_;rw[Array.size_modify];exact h5
theorem Yz:(An 0).toArray=#[.int .u64 0,.int .u64 0,.int .u64 0,.int .u64 0]:=by simp[An,wd]
theorem gH:(OR fun _=>0).toArray=#[.int .u64 0,.int .u64 0,.int .u64 0,.int .u64 0,.int .u64 0,.int .u64 0,.int .u64 0,.int .u64 0]:=rfl
def Y7 (a b:Nat) (w:World):World:=((((w.alloc (.cells (An a).toArray 24)).alloc (.cells (An b).toArray 24)).alloc (.cells (An 0).toArray 24)).alloc (.cells (An 0).toArray 24)).alloc (.cells (OR fun _=>0).toArray 160)
theorem Wg (a b:Nat) (w:World):Mn w.heap.size a b (fun _=>0) (Y7 a b w):=by
 unfold Y7
 refine⟨?_,?_,?_,?_,?_,?_⟩
 ·rw[AQ _ _ _ (by simp only[Ae];omega),AQ _ _ _ (by simp only[Ae];omega),AQ _ _ _ (by simp only[Ae];omega),AQ _ _ _ (by simp only[Ae];omega),Aj]
 ·rw[AQ _ _ _ (by simp only[Ae];omega),AQ _ _ _ (by simp only[Ae];omega),AQ _ _ _ (by simp only[Ae];omega)]
  have:=Aj (w.alloc (.cells (An a).toArray 24)) (.cells (An b).toArray 24)
  simp only[Ae] at this
  exact this
 ·rw[AQ _ _ _ (by simp only[Ae];omega),AQ _ _ _ (by simp only[Ae];omega)]
  have:=Aj ((w.alloc (.cells (An a).toArray 24)).alloc (.cells (An b).toArray 24)) (.cells (An 0).toArray 24)
  simp only[Ae] at this
  exact this
 ·rw[AQ _ _ _ (by simp only[Ae];omega)]
  have:=Aj (((w.alloc (.cells (An a).toArray 24)).alloc (.cells (An b).toArray 24)).alloc (.cells (An 0).toArray 24)) (.cells (An 0).toArray 24)
  simp only[Ae] at this
  exact this
 ·have:=Aj ((((w.alloc (.cells (An a).toArray 24)).alloc (.cells (An b).toArray 24)).alloc (.cells (An 0).toArray 24)).alloc (.cells (An 0).toArray 24)) (.cells (OR fun _=>0).toArray 160)
  simp only[Ae] at this
  exact this
 ·simp only[Ae]
theorem Wi (a b:Nat) (w:World):Below w.heap.size w (Y7 a b w):=Al (Al (Al (Al (Al (Below.refl _ _) _) _) _) _) _
theorem Ph {p:Nat→Nat} {k x:Nat} (h:∀ k,p k<B64) (hx:x<18446744073709551616):∀ n,upd p k x n<B64:=fun n=>by
 unfold upd
 split
 ·exact hx
 ·exact h n
theorem Qh {p:Nat→Nat} {k x m:Nat} (h:∀ n,m≤n→p n=0) (hk:k<m):∀ n,m≤n→upd p k x n=0:=fun n hn=>by
 unfold upd
 rw[if_neg (by omega)]
 exact h n hn
theorem Lk (a b:Nat) (w:World) (ha:a<B64^4) (hb:b<B64^4) :
    Calls Tryz.prog 99 #[Aa a,Aa b] w fun e w'=>e=.returned (.tuple #[Aa (a*b%B64^4),Aa (a*b/B64^4)])∧Below w.heap.size w w':=by
 rw[show Aa a=.agg #[.int .u64 (wd a 0:Int),.int .u64 (wd a 1:Int),.int .u64 (wd a 2:Int),.int .u64 (wd a 3:Int)] from rfl,show Aa b=.agg #[.int .u64 (wd b 0:Int),.int .u64 (wd b 1:Int),.int .u64 (wd b 2:Int),.int .u64 (wd b 3:Int)] from rfl]
 go_enter Tryz.func99,Tryz.ntmps99
 go_wp2_with fail
 have hst0:=Wg a b w
 have hbl0:=Wi a b w
 obtain⟨X,hX⟩:=exzb (Y7 a b w)
 have hX':=hX
 unfold Y7 at hX'
 rw[Yz,gH] at hX'
 change Code.wp _ _ _ _ (((((w.alloc (.cells (An a).toArray 24)).alloc (.cells (An b).toArray 24)).alloc (.cells #[.int .u64 0,.int .u64 0,.int .u64 0,.int .u64 0] 24)).alloc (.cells #[.int .u64 0,.int .u64 0,.int .u64 0,.int .u64 0] 24)).alloc (.cells #[.int .u64 0,.int .u64 0,.int .u64 0,.int .u64 0,.int .u64 0,.int .u64 0,.int .u64 0,.int .u64 0] 160))
 rw[hX']
 rw[hX] at hst0 hbl0
 clear hX hX'
 have hb0:=Lh hb
 clear hb
 go_loopw [14] (fun i wr=>∃ i':Nat,∃ p:Nat→Nat,i'≤4∧i=.int .i64 (i':Int)∧(∀ k,p k<B64)∧(∀ k,i'+4≤k→p k=0)∧Dv p 8=(a%B64^i')*b∧Mn w.heap.size a b p wr∧Below w.heap.size w wr) (fun i _=>4-(intOf i).toNat)
 case atStart=>exact⟨0,fun _=>0,by omega,rfl,fun _=>B9,fun _ _=>rfl,by rw[Nat.pow_zero,Nat.mod_one,Nat.zero_mul];rfl,hst0,hbl0⟩
 case round =>
  clear hst0 hbl0
  obtain⟨i,p,hi,rfl,hp,hz,hV,hst,hb⟩:=hrel
  by_cases hlt:i<4
  ·have p1:(i:Int)<4:=by omega
   have HP:=Lh hp
   have HZ:=Lh hz
   have HV:=Lh hV
   clear hp hz hV
   go_wp2_with fail
   go_loopw [8,17] (fun c j wr=>∃ j' c':Nat,∃ p:Nat→Nat,j'≤4∧j=.int .i64 (j':Int)∧c=.int .u64 (c':Int)∧c'<18446744073709551616∧(∀ k,p k<B64)∧(∀ k,i+4≤k→p k=0)∧Dv p 8+c'*B64^(i+j')=(a%B64^i)*b+wd a i*(b%B64^j')*B64^i∧Mn w.heap.size a b p wr∧Below w.heap.size w wr) (fun _ j _=>4-(intOf j).toNat)
   case atStart=>exact⟨0,0,p,by omega,rfl,rfl,by omega,HP.out,HZ.out,by rw[HV.out,Nat.pow_zero,Nat.mod_one,Nat.mul_zero,Nat.zero_mul,Nat.zero_mul],hst,hb⟩
   case round =>
    clear HP HZ HV hst hb
    obtain⟨j,c,p,hj,rfl,rfl,hc,hp,hz,hV,hst,hb⟩:=hrel
    by_cases hjl:j<4
    ·have p2:(j:Int)<4:=by omega
     obtain⟨s0,s1,s2,s3,s4,s5⟩:=hst
     have hst:Hid (Mn w.heap.size a b p wr):=⟨s0,s1,s2,s3,s4,s5⟩
     have c0:=(Af s0 (Ai a i hlt)).1
     have c1:=(Af s1 (Ai b j hjl)).1
     obtain⟨c4,f4⟩:=Af s4 (Eh p (i+j) (by omega))
     have hx:=Cb a i
     have hy:=Cb b j
     have hpk:p (i+j)<18446744073709551616:=hp _
     obtain⟨h,l,o1,t1,o2,t2,e1,e2,e3,e4,e5,e6,k1,k2,k3,k4,k5,k6,k7,ke⟩:=Yp (wd a i) (wd b j) (p (i+j)) c hx hy hpk hc
     have HVS:=Lh (az p 8 (i+j) (wd a i) (by omega) _ c (h+o1+o2) t2 (wd b j) b i j rfl hV ke rfl)
     have MU:=fun w=>Tryz.bits_Mul64 (wd a i) (wd b j) hx hy w
     rw[e1,e2] at MU
     have A1:=fun w=>Mp l (p (i+j)) w
     rw[e3,e4] at A1
     have A2:=fun w=>Mp t1 c w
     rw[e5,e6] at A2
     have HPP:=Lh hp
     have HZZ:=Lh hz
     clear e1 e2 e3 e4 e5 e6 hp hz hV s0 s1 s2 s3 s4 ke
     generalize wd a i=x at *
     generalize wd b j=y at *
     generalize p (i+j)=v at c4 A1 hpk
     have nat1:((i:Int)+(j:Int)).toNat=i+j:=by omega
     have q1:(i:Int)+(j:Int)<8:=by omega
     go_wp2_with fail
     go_quiet ((go_at_call 146;exact Calls.quiet_of_same (MU _)))
     go_wp2_with fail
     go_roundw
     case rel=>exact⟨j+1,h+o1+o2,upd p (i+j) t2,by omega,congrArg (Value.int .i64) (by omega),congrArg (Value.int .u64) (by omega),k2,Ph HPP.out k3,Qh HZZ.out (by omega),HVS.out,TQ hst.out (i+j) t2,AV (hb.setCell (p:=⟨w.heap.size+1+1+1+1,i+j,none⟩) (by show w.heap.size≤w.heap.size+1+1+1+1;omega) _) _⟩
     case measure=>simp[intOf];omega
    ·obtain rfl:j=4:=by omega
     have HVR:=Lh (dl p 8 i c a b (by omega) hb0.out (hz (i+4) (by omega)) hV)
     have HPP:=Lh hp
     have HZZ:=Lh hz
     obtain⟨s0,s1,s2,s3,s4,s5⟩:=hst
     obtain⟨c4,f4⟩:=Af s4 (Eh p (i+4) (by omega))
     have hst:Hid (Mn w.heap.size a b p wr):=⟨s0,s1,s2,s3,s4,s5⟩
     have nat1:((i:Int)+4).toNat=i+4:=by omega
     have q1:(i:Int)+4<8:=by omega
     clear hV hp hz s0 s1 s2 s3 s4
     go_wp2_with fail
     go_roundw
     case rel=>exact⟨i+1,upd p (i+4) c,by omega,congrArg (Value.int .i64) (by omega),Ph HPP.out hc,Qh (fun n hn=>HZZ.out n (by omega)) (by omega),HVR.out,TQ hst.out (i+4) c,hb.setCell (p:=⟨w.heap.size+1+1+1+1,i+4,none⟩) (by show w.heap.size≤w.heap.size+1+1+1+1;omega) _⟩
     case measure=>simp[intOf];omega
  ·obtain rfl:i=4:=by omega
   obtain⟨s0,s1,s2,s3,s4,s5⟩:=hst
   have c0:=(Af s4 (Eh p 0 (by omega))).1
   have c1:=(Af s4 (Eh p 1 (by omega))).1
   have c2:=(Af s4 (Eh p 2 (by omega))).1
   have c3:=(Af s4 (Eh p 3 (by omega))).1
   have c4:=(Af s4 (Eh p 4 (by omega))).1
   have c5:=(Af s4 (Eh p 5 (by omega))).1
   have c6:=(Af s4 (Eh p 6 (by omega))).1
   have c7:=(Af s4 (Eh p 7 (by omega))).1
   have d0:=Af s2 (Ai 0 0 (by omega))
   have d1:=Af s2 (Ai 0 1 (by omega))
   have d2:=Af s2 (Ai 0 2 (by omega))
   have d3:=Af s2 (Ai 0 3 (by omega))
   have g0:=Af s3 (Ai 0 0 (by omega))
   have g1:=Af s3 (Ai 0 1 (by omega))
   have g2:=Af s3 (Ai 0 2 (by omega))
   have g3:=Af s3 (Ai 0 3 (by omega))
   have S2:=Lh s2
   have S3:=Lh s3
   have S4:=Lh s4
   have HPP:=Lh hp
   have HV:=Lh hV
   clear s0 s1 s2 s3 s4 hp hz hV
   generalize hp0:p 0=p0 at c0
   generalize hp1:p 1=p1 at c1
   generalize hp2:p 2=p2 at c2
   generalize hp3:p 3=p3 at c3
   generalize hp4:p 4=p4 at c4
   generalize hp5:p 5=p5 at c5
   generalize hp6:p 6=p6 at c6
   generalize hp7:p 7=p7 at c7
   have H0:=Lh hp0
   have H1:=Lh hp1
   have H2:=Lh hp2
   have H3:=Lh hp3
   have H4:=Lh hp4
   have H5:=Lh hp5
   have H6:=Lh hp6
   have H7:=Lh hp7
   clear hp0 hp1 hp2 hp3 hp4 hp5 hp6 hp7
   generalize (wd 0 0:Int)=z0 at d0 g0
   generalize (wd 0 1:Int)=z1 at d1 g1
   generalize (wd 0 2:Int)=z2 at d2 g2
   generalize (wd 0 3:Int)=z3 at d3 g3
   obtain⟨d0,e0⟩:=d0
   obtain⟨d1,e1⟩:=d1
   obtain⟨d2,e2⟩:=d2
   obtain⟨d3,e3⟩:=d3
   obtain⟨g0,h0⟩:=g0
   obtain⟨g1,h1⟩:=g1
   obtain⟨g2,h2⟩:=g2
   obtain⟨g3,h3⟩:=g3
   have k1:∀ w',(Instr.arrayAt 24 (.slice (some ⟨w.heap.size+1+1+1+1,0,none⟩) 4 8)).run Tryz.prog w'=.ok (.pointer (some ⟨w.heap.size+1+1+1+1,0,none⟩)) w':=fun w'=>run_arrayAt w' 24 22 4 _ 4 8 Tryz.underlying24 (by omega)
   have k2:∀ w',(Instr.arrayAt 24 (.slice (some ⟨w.heap.size+1+1+1+1,4,none⟩) 4 4)).run Tryz.prog w'=.ok (.pointer (some ⟨w.heap.size+1+1+1+1,4,none⟩)) w':=fun w'=>run_arrayAt w' 24 22 4 _ 4 4 Tryz.underlying24 (by omega)
   go_wp2_with fail
   go_region
   have n1:w.heap.size+1+1≠w.heap.size+1+1+1:=by omega
   have r2:=AF (i:=3) (AF (i:=2) (AF (i:=1) (AF (i:=0) S2.out (.int .u64 (p0:Int))) (.int .u64 (p1:Int))) (.int .u64 (p2:Int))) (.int .u64 (p3:Int))
   have r2':=r2
   rw[← Below.heap_setCell _ ⟨w.heap.size+1+1+1,0,none⟩ (.int .u64 (p4:Int)) _ n1,← Below.heap_setCell _ ⟨w.heap.size+1+1+1,1,none⟩ (.int .u64 (p5:Int)) _ n1,← Below.heap_setCell _ ⟨w.heap.size+1+1+1,2,none⟩ (.int .u64 (p6:Int)) _ n1,← Below.heap_setCell _ ⟨w.heap.size+1+1+1,3,none⟩ (.int .u64 (p7:Int)) _ n1] at r2'
   have r3:=S3.out
   rw[← Below.heap_setCell _ ⟨w.heap.size+1+1,0,none⟩ (.int .u64 (p0:Int)) _ n1.symm,← Below.heap_setCell _ ⟨w.heap.size+1+1,1,none⟩ (.int .u64 (p1:Int)) _ n1.symm,← Below.heap_setCell _ ⟨w.heap.size+1+1,2,none⟩ (.int .u64 (p2:Int)) _ n1.symm,← Below.heap_setCell _ ⟨w.heap.size+1+1,3,none⟩ (.int .u64 (p3:Int)) _ n1.symm] at r3
   have r3':=AF (i:=3) (AF (i:=2) (AF (i:=1) (AF (i:=0) r3 (.int .u64 (p4:Int))) (.int .u64 (p5:Int))) (.int .u64 (p6:Int))) (.int .u64 (p7:Int))
   have bl:∀ (W':World) (q k:Nat) (x:Value),w.heap.size≤q→Below w.heap.size w W'→Below w.heap.size w (W'.setCell ⟨q,k,none⟩ x):=fun W' q k x hq h=>h.setCell (p:=⟨q,k,none⟩) hq x
   have bb:=(bl _ (w.heap.size+1+1+1) 3 (.int .u64 (p7:Int)) (by omega) (bl _ (w.heap.size+1+1+1) 2 (.int .u64 (p6:Int)) (by omega) (bl _ (w.heap.size+1+1+1) 1 (.int .u64 (p5:Int)) (by omega) (bl _ (w.heap.size+1+1+1) 0 (.int .u64 (p4:Int)) (by omega) (bl _ (w.heap.size+1+1) 3 (.int .u64 (p3:Int)) (by omega) (bl _ (w.heap.size+1+1) 2 (.int .u64 (p2:Int)) (by omega) (bl _ (w.heap.size+1+1) 1 (.int .u64 (p1:Int)) (by omega) (bl _ (w.heap.size+1+1) 0 (.int .u64 (p0:Int)) (by omega) hb)))))))).drew
   clear r2 r3 bl c0 c1 c2 c3 c4 c5 c6 c7 d0 d1 d2 d3 g0 g1 g2 g3 e0 e1 e2 e3 h0 h1 h2 h3 k1 k2
   have q2:((((An 0).set 0 (.int .u64 (p0:Int))).set 1 (.int .u64 (p1:Int))).set 2 (.int .u64 (p2:Int))).set 3 (.int .u64 (p3:Int))=[.int .u64 (p0:Int),.int .u64 (p1:Int),.int .u64 (p2:Int),.int .u64 (p3:Int)]:=rfl
   have q3:((((An 0).set 0 (.int .u64 (p4:Int))).set 1 (.int .u64 (p5:Int))).set 2 (.int .u64 (p6:Int))).set 3 (.int .u64 (p7:Int))=[.int .u64 (p4:Int),.int .u64 (p5:Int),.int .u64 (p6:Int),.int .u64 (p7:Int)]:=rfl
   rw[q2] at r2'
   rw[q3] at r3'
   clear q2 q3
   obtain⟨Y,hY⟩:=exza (((((((((wr).setCell ⟨w.heap.size+1+1,0,none⟩ (.int .u64 (p0:Int))).setCell ⟨w.heap.size+1+1,1,none⟩ (.int .u64 (p1:Int))).setCell ⟨w.heap.size+1+1,2,none⟩ (.int .u64 (p2:Int))).setCell ⟨w.heap.size+1+1,3,none⟩ (.int .u64 (p3:Int))).setCell ⟨w.heap.size+1+1+1,0,none⟩ (.int .u64 (p4:Int))).setCell ⟨w.heap.size+1+1+1,1,none⟩ (.int .u64 (p5:Int))).setCell ⟨w.heap.size+1+1+1,2,none⟩ (.int .u64 (p6:Int))).setCell ⟨w.heap.size+1+1+1,3,none⟩ (.int .u64 (p7:Int)))
   rw[← hY] at r2' r3' bb ⊢
   clear hY
   have R2:=Lh r2'
   have R3:=Lh r3'
   clear r2' r3'
   go_wp2_with fail
   have r2':=R2.out
   have r3':=R3.out
   have kl2:=run_loadVar_row (P:=Tryz.prog) Y.drew (w.heap.size+1+1) 24 24 _ (0,0) _ r2' Tryz.underlying24 rfl (by kernel_rfl)
   have kl3:=run_loadVar_row (P:=Tryz.prog) Y.drew (w.heap.size+1+1+1) 24 24 _ (0,0) _ r3' Tryz.underlying24 rfl (by kernel_rfl)
   have hab:Dv p 8=a*b:=by rw[HV.out,Nat.mod_eq_of_lt ha]
   have wk:∀ k,k<8→wd (a*b) k=p k:=fun k hk=>by rw[← hab];exact Lf p HPP.out k 8 hk
   have v1:Aa (a*b%B64^4)=.agg #[.int .u64 (p0:Int),.int .u64 (p1:Int),.int .u64 (p2:Int),.int .u64 (p3:Int)]:=by
    unfold Aa
    rw[Pn _ _ _ (by omega),Pn _ _ _ (by omega),Pn _ _ _ (by omega),Pn _ _ _ (by omega),wk 0 (by omega),wk 1 (by omega),wk 2 (by omega),wk 3 (by omega),H0.out,H1.out,H2.out,H3.out]
   have v2:Aa (a*b/B64^4)=.agg #[.int .u64 (p4:Int),.int .u64 (p5:Int),.int .u64 (p6:Int),.int .u64 (p7:Int)]:=by
    unfold Aa
    rw[Mi,Mi,Mi,Mi,wk 4 (by omega),wk 5 (by omega),wk 6 (by omega),wk 7 (by omega),H4.out,H5.out,H6.out,H7.out]
   refine bodyPost_ret (v:=.tuple #[.agg #[.int .u64 (p0:Int),.int .u64 (p1:Int),.int .u64 (p2:Int),.int .u64 (p3:Int)],.agg #[.int .u64 (p4:Int),.int .u64 (p5:Int),.int .u64 (p6:Int),.int .u64 (p7:Int)]]) (CI Tryz.results99 (by rfl) (by rfl) kl2 kl3) rfl ⟨by rw[v1,v2],bb⟩
theorem AU {w:World} {k:Nat} {o:Obj} (h:w.heap[k]?=some o):k<w.heap.size:=by
 apply Nat.lt_of_not_le
 intro hle
 rw[Array.getElem?_eq_none hle] at h
 simp at h
theorem Tryz.info_u64:(Tryz.prog.info? 22).map (fun i=>(i.zero,i.size,i.bytes))=some (some (.int .u64 0),1,8):=by kernel_rfl
def By (w:World) (b len n:Nat):Prop:=w.heap[b]?=some (.cells (Bw (dg n) len).toArray 22 (0,0))∧n<65536^len∧len≤200
theorem By.is {w:World} {b len n:Nat} (h:By w b len n) (cap:Nat) (hc:len≤cap):IsN w (some ⟨b,0,none⟩) len cap n:=aL h.1 (AU h.1) h.2.1 h.2.2 hc (fun _ _=>rfl)
theorem By.below {w w':World} {b len n:Nat} (h:By w b len n) (hb:Below w.heap.size w w'):By w' b len n:=⟨(hb.block b (AU h.1)).trans h.1,h.2⟩
theorem ER {p q:Nat→Nat} {N:Nat} (h:∀ k,k<N→p k=q k):Bw p N=Bw q N:=by
 unfold Bw
 refine List.map_congr_left fun k hk=>?_
 rw[h k (List.mem_range.1 hk)]
theorem iH (n i:Nat):wd n (i/4)/2^(16*(i%4))%65536=dg n i:=by
 unfold wd dg
 have hp:=J0 16 4 i rfl
 rw[show (65536:Nat)^i=(2^16)^i from rfl,hp,← Nat.div_div_eq_div_mul]
 generalize n/B64^(i/4)=m
 have hr:i%4<4:=Nat.mod_lt _ (by decide)
 generalize i%4=r at *
 unfold B64
 have:r=0∨r=1∨r=2∨r=3:=by omega
 rcases this with rfl | rfl | rfl | rfl
 ·simp
 ·rw[show 2^(16*1)=65536 from rfl];omega
 ·rw[show 2^(16*2)=4294967296 from rfl];omega
 ·rw[show 2^(16*3)=281474976710656 from rfl];omega
theorem CX (v:Nat) (w:World) (hv:v<B64^4) :
    Calls Tryz.prog 108 #[Aa v] w fun e w'=>∃ g,e=.returned (.slice (some ⟨g,0,none⟩) 16 16)∧By w' g 16 v∧w.heap.size≤g∧Below w.heap.size w w':=by
 have mk:∀ w,(Instr.makeSlice 95 (.int .i64 16) (.int .i64 16)).run Tryz.prog w=.ok (.slice (some ⟨w.heap.size,0,none⟩) 16 16) (w.alloc (.cells (Bw (fun _=>0) 16).toArray 22)):=fun w=>by
  rw[← Nx]
  exact run_make_row' (P:=Tryz.prog) 95 22 (.int .u64 0) 8 Tryz.underlying95 Tryz.info_u64 rfl .i64 .i64 16 (by omega) (by omega) w
 have x0:((w.alloc (.cells (An v).toArray 23)).alloc (.cells (Bw (fun _=>0) 16).toArray 22)).heap[w.heap.size]?=some (.cells (An v).toArray 23 (0,0)):=by
  rw[AQ _ _ _ (by rw[Ae];omega),Aj]
 have x1:((w.alloc (.cells (An v).toArray 23)).alloc (.cells (Bw (fun _=>0) 16).toArray 22)).heap[w.heap.size+1]?=some (.cells (Bw (fun _=>0) 16).toArray 22 (0,0)):=by
  have:=Aj (w.alloc (.cells (An v).toArray 23)) (.cells (Bw (fun _=>0) 16).toArray 22)
  rw[Ae] at this
  exact this
 have xb:Below w.heap.size w ((w.alloc (.cells (An v).toArray 23)).alloc (.cells (Bw (fun _=>0) 16).toArray 22)):=Al (Al (Below.refl _ _) _) _
 rw[show Aa v=.agg #[.int .u64 (wd v 0:Int),.int .u64 (wd v 1:Int),.int .u64 (wd v 2:Int),.int .u64 (wd v 3:Int)] from rfl]
 go_enter Tryz.func108,Tryz.ntmps108
 go_wp2_with fail
 change Code.wp _ _ _ _ ((w.alloc (.cells (An v).toArray 23)).alloc (.cells (Bw (fun _=>0) 16).toArray 22))
 generalize (w.alloc (.cells (An v).toArray 23)).alloc (.cells (Bw (fun _=>0) 16).toArray 22)=X at *
 have HV:=Lh hv
 clear hv mk
 go_loopw [4] (fun i wr=>∃ k:Nat,∃ p:Nat→Nat,k≤16∧i=.int .i64 (k:Int)∧(∀ j,j<k→p j=dg v j)∧wr.heap[w.heap.size]?=some (.cells (An v).toArray 23 (0,0))∧wr.heap[w.heap.size+1]?=some (.cells (Bw p 16).toArray 22 (0,0))∧Below w.heap.size w wr) (fun i _=>16-(intOf i).toNat)
 case atStart=>exact⟨0,fun _=>0,by omega,rfl,fun j h=>absurd h (by omega),x0,x1,xb⟩
 case round =>
  clear x0 x1 xb
  obtain⟨k,p,hk,rfl,hp,y0,y1,hb⟩:=hrel
  by_cases hlt:k<16
  ·have k1:(k:Int)<16:=by omega
   obtain⟨Q,hQ⟩:=exzb (k/4)
   obtain⟨r,hr⟩:=exzb (k%4)
   have t1:(k:Int).tdiv 4=(Q:Int):=by rw[Int.tdiv_eq_ediv_of_nonneg (by omega)];omega
   have t2:(k:Int).tmod 4=(r:Int):=by rw[Int.tmod_eq_emod_of_nonneg (by omega)];omega
   have d1:(k:Int)/4=(Q:Int):=by omega
   have d2:(k:Int)%4=(r:Int):=by omega
   have q4:(Q:Int)<4:=by omega
   have r4:(r:Int)<4:=by omega
   have n1:(Q:Int).toNat=Q:=by omega
   have n2:(16*(r:Int)).toNat=16*r:=by omega
   have n3:16*(r:Int)<64:=by omega
   have hdg:=iH v k
   rw[hQ,hr] at hdg
   have c0:=(Af y0 (Ai v Q (by omega))).1
   obtain⟨c1,f1⟩:=Af y1 (BC p 16 k hlt)
   have ps:=Og (wd v Q) (16*r)
   have HSET:=Lh (AF (i:=k) y1 (.int .u64 (dg v k:Int)))
   have HP:=Lh hp
   have HY:=Lh y0
   have HD:=Lh hdg
   have hw:=Cb v Q
   have hy:wd v Q/2^(16*r)<18446744073709551616:=Nat.lt_of_le_of_lt (Nat.div_le_self _ _) hw
   clear hp y0 y1 hdg hQ hr
   generalize wd v Q=x at *
   generalize x/2^(16*r)=z at *
   go_wp2_with fail
   go_roundw
   case rel =>
    have e:(z:Int)%65536=(dg v k:Int):=by have:=HD.out;omega
    rw[e]
    refine⟨k+1,upd p k (dg v k),by omega,by go_num,fun j hj=>?_,?_,?_,hb.setCell (p:=⟨w.heap.size+1,k,none⟩) (by show w.heap.size≤w.heap.size+1;omega) _⟩
    ·unfold upd
     split
     ·rename_i h;rw[h]
     ·exact HP.out j (by omega)
    ·exact (Below.heap_setCell wr ⟨w.heap.size+1,k,none⟩ _ w.heap.size (by show w.heap.size≠w.heap.size+1;omega)).trans HY.out
    ·rw[← DC];exact HSET.out
   case measure=>simp[intOf];omega
  ·obtain rfl:k=16:=by omega
   have hO:=Lh (show By wr (w.heap.size+1) 16 v from ⟨by rw[← ER hp];exact y1,by rw[show 65536^16=B64^4 from by decide];exact HV.out,by omega⟩)
   clear hp y0 y1
   go_wp2_with fail
   go_ret
   exact⟨_,rfl,hO.out,by omega,hb⟩
theorem PC {w:World} {a:Option Addr} {len cap n:Nat} (h:IsN w a len cap n) (nq:Nat):IsN (w.drewN nq) a len cap n:=A6 h (AV (Below.refl _ _) nq)
theorem Gz (a b:Option Addr) (la ca lb cb n m:Nat) (w:World) (ha:IsN w a la ca n) (hb:IsN w b lb cb m) :
    Calls Tryz.prog 115 #[.slice a la ca,.slice b lb cb] w fun e w'=>e=.returned (.bool (decide (n<m)))∧∃ nq,w'=w.drewN nq:=by
 have l1:(la:Int)≤200:=by have:=ha.2.1;omega
 have l2:(lb:Int)≤200:=by have:=hb.2.1;omega
 have hstart:∀ c,la≤c→lb≤c→n/65536^c=m/65536^c:=fun c h1 h2=>by
  rw[Nat.div_eq_of_lt (Nat.lt_of_lt_of_le ha.1 (Nat.pow_le_pow_right (by decide) h1)),Nat.div_eq_of_lt (Nat.lt_of_lt_of_le hb.1 (Nat.pow_le_pow_right (by decide) h2))]
 have HS:=Lh hstart
 have HA:=Lh ha
 have HB:=Lh hb
 clear ha hb hstart
 go_enter Tryz.func115,Tryz.ntmps115
 go_wp2_with fail
 all_goals
  go_loopw [5] (fun i wr=>∃ c:Nat,c≤200∧i=.int .i64 (kI c)∧n/65536^c=m/65536^c∧∃ nq,w.drewN nq=wr) (fun i _=>(intOf i+1).toNat)
  case atStart =>
   first
    | exact⟨la,by omega,rfl,HS.out la (by omega) (by omega),0,rfl⟩
    | exact⟨lb,by omega,rfl,HS.out lb (by omega) (by omega),0,rfl⟩
  case round =>
   obtain⟨c,hc,rfl,hsame,nq,rfl⟩:=hrel
   match c,hc with
   | 0,_ =>
     have HE:=Lh (show decide (n<m)=false by
      rw[Nat.pow_zero,Nat.div_one,Nat.div_one] at hsame
      rw[hsame];simp)
     rw[show kI 0 = -1 from rfl]
     clear hsame
     go_wp2_with fail
     go_ret
     exact⟨EM HE.out.symm,nq,rfl⟩
   | d+1,hc =>
     rw[show kI (d+1)=(d:Int) by unfold kI;omega]
     have d3:(d:Int)<200:=by omega
     have KA:=Lh (fun q=>Ec a la ca n d _ (PC HA.out q) (by omega))
     have KB:=Lh (fun q=>Ec b lb cb m d _ (PC HB.out q) (by omega))
     by_cases he:dg n d=dg m d
     ·have HN:=Lh (bG n m d hsame he)
      have q1:((dg n d:Int) == (dg m d:Int))=true:=by simp[he]
      have q2:decide ((dg n d:Int)=(dg m d:Int))=true:=by simp[he]
      rw[he] at KA
      clear hsame he q1 q2
      generalize dg m d=y at *
      go_wp2_with (first
       | (go_at_call_of 153 (Value.slice a la ca);refine (KA.out _).mono ?_;rintro e w' ⟨rfl,rfl⟩)
       | (go_at_call_of 153 (Value.slice b lb cb);refine (KB.out _).mono ?_;rintro e w' ⟨rfl,rfl⟩))
      go_roundw
      case rel=>exact⟨d,by omega,rfl,HN.out,_,rfl⟩
      case measure=>simp[intOf]
     ·have HE:=Lh (show decide (n<m)=decide ((dg n d:Int)<(dg m d:Int)) by
        rw[decide_eq_decide]
        rcases Nat.lt_or_gt_of_ne he with h | h
        ·have:=UA n m d hsame h
         omega
        ·have:=UA m n d hsame.symm h
         omega)
      have q0:¬ (dg n d:Int)=(dg m d:Int):=by omega
      have q1:((dg n d:Int) == (dg m d:Int))=false:=by simp;omega
      have q2:decide ((dg n d:Int)=(dg m d:Int))=false:=by simp;omega
      clear hsame he
      generalize dg m d=y at *
      generalize dg n d=x at *
      go_wp2_with fail
      refine (KA.out _).mono ?_
      rintro e w' ⟨rfl,rfl⟩
      go_wp2_with fail
      refine (KB.out _).mono ?_
      rintro e w' ⟨rfl,rfl⟩
      go_wp2_with fail
      refine (KA.out _).mono ?_
      rintro e w' ⟨rfl,rfl⟩
      go_wp2_with fail
      refine (KB.out _).mono ?_
      rintro e w' ⟨rfl,rfl⟩
      go_wp2_with fail
      go_ret
      exact⟨EM (by rw[HE.out];simp),nq,rfl⟩
theorem Hj {P:Program} {fn:Func} {tmps:Array Value} {w:World} {v:Value} {a t b:Nat} (h:fn.results=#[.cell a t]) (ha:tmps.getD a undef=.pointer (some ⟨b,0,none⟩)) (hl:(loadVar t ⟨b,0,none⟩).run P w=.ok v w):(results fn tmps).run P w=.ok v w:=by
 rw[Array.getD_eq_getD_getElem?] at ha
 simp only[results,h]
 simp[asAddr,ha,hl]
theorem QQ (a d s:Nat) (ha:a<18446744073709551616) (hd:d*2^s<B64):bits .or .u64 (a:Int) (IntKind.u64.wrap ((d:Int)*2^s))=((a ||| d <<< s:Nat):Int):=by
 have hd':d*2^s<18446744073709551616:=hd
 have e:(d:Int)*2^s=((d*2^s:Nat):Int):=by
  rw[Int.natCast_mul,Int.natCast_pow];rfl
 rw[e,IntWalk.u64_in _ (by omega),bits_or_u64_nat _ _ (by omega) (by omega),Nat.shiftLeft_eq]
theorem Ud {x y Q:Nat} (hQ:Q<4) (h:∀ j,j≠Q→wd y j=wd x j):An y=(An x).set Q (.int .u64 (wd y Q:Int)):=by
 have:Q=0∨Q=1∨Q=2∨Q=3:=by omega
 unfold An
 rcases this with rfl | rfl | rfl | rfl
 ·rw[h 1 (by omega),h 2 (by omega),h 3 (by omega)];rfl
 ·rw[h 0 (by omega),h 2 (by omega),h 3 (by omega)];rfl
 ·rw[h 0 (by omega),h 1 (by omega),h 3 (by omega)];rfl
 ·rw[h 0 (by omega),h 1 (by omega),h 2 (by omega)];rfl
theorem Ur (a:Option Addr) (la ca n from':Nat) (w:World) (ha:IsN w a la ca n) (hf:from'≤1000) :
    Calls Tryz.prog 105 #[.slice a la ca,.int .i64 (from':Int)] w fun e w'=>e=.returned (Aa (n/65536^from'%B64^4))∧Below w.heap.size w w':=by
 have l1:(la:Int)≤200:=by have:=ha.2.1;omega
 have l2:(from':Int)≤1000:=by omega
 have HA:=Lh ha
 clear ha
 go_enter Tryz.func105,Tryz.ntmps105
 have xr:((w.alloc (.cells (An 0).toArray 23)).alloc (.cells (An 0).toArray 23)).heap[w.heap.size]?=some (.cells (An 0).toArray 23 (0,0)):=by
  rw[AQ _ _ _ (by rw[Ae];omega),Aj]
 have x0:((w.alloc (.cells (An 0).toArray 23)).alloc (.cells (An 0).toArray 23)).heap[w.heap.size+1]?=some (.cells (An 0).toArray 23 (0,0)):=by
  have:=Aj (w.alloc (.cells (An 0).toArray 23)) (.cells (An 0).toArray 23)
  rw[Ae] at this
  exact this
 have xb:Below w.heap.size w ((w.alloc (.cells (An 0).toArray 23)).alloc (.cells (An 0).toArray 23)):=Al (Al (Below.refl _ _) _) _
 go_wp2_with fail
 change Code.wp _ _ _ _ ((w.alloc (.cells (An 0).toArray 23)).alloc (.cells (An 0).toArray 23))
 generalize (w.alloc (.cells (An 0).toArray 23)).alloc (.cells (An 0).toArray 23)=X at *
 obtain⟨v,hv⟩:=exzb (n/65536^from')
 have HV:∀ k,Hid (dg n (from'+k)=dg v k):=fun k=>by
  show dg n (from'+k)=dg v k
  rw[← hv];unfold dg;rw[Nat.div_div_eq_div_mul,← Nat.pow_add]
 have HV0:=Lh hv
 clear hv
 go_loopw [6] (fun i wr=>∃ k:Nat,k≤16∧i=.int .i64 (k:Int)∧wr.heap[w.heap.size]?=some (.cells (An 0).toArray 23 (0,0))∧wr.heap[w.heap.size+1]?=some (.cells (An (v%65536^k)).toArray 23 (0,0))∧Below w.heap.size w wr) (fun i _=>16-(intOf i).toNat)
 case atStart=>exact⟨0,by omega,rfl,xr,by rw[Nat.pow_zero,Nat.mod_one];exact x0,xb⟩
 case round =>
  clear xr x0 xb
  obtain⟨k,hk,rfl,yr,y0,hb⟩:=hrel
  by_cases hlt:k<16
  ·have k1:(k:Int)<16:=by omega
   have KA:=Lh (Ec a la ca n (from'+k) _ (A6 HA.out hb) (by omega))
   have hd:=Dx v k
   rw[(HV k).out] at KA
   obtain⟨Q,hQ⟩:=exzb (k/4)
   obtain⟨r,hr⟩:=exzb (k%4)
   have t1:(k:Int).tdiv 4=(Q:Int):=by rw[Int.tdiv_eq_ediv_of_nonneg (by omega)];omega
   have t2:(k:Int).tmod 4=(r:Int):=by rw[Int.tmod_eq_emod_of_nonneg (by omega)];omega
   have d1:(k:Int)/4=(Q:Int):=by omega
   have d2:(k:Int)%4=(r:Int):=by omega
   have q4:(Q:Int)<4:=by omega
   have r4:(r:Int)<4:=by omega
   have n1:(Q:Int).toNat=Q:=by omega
   have n2:(16*(r:Int)).toNat=16*r:=by omega
   have n3:16*(r:Int)<64:=by omega
   obtain⟨g1,g2,g3⟩:=Rb v 16 4 k rfl (by omega)
   rw[hQ,hr] at g1
   rw[hr] at g2
   rw[hQ] at g3
   obtain⟨c1,f1⟩:=Af y0 (Ai (v%65536^k) Q (by omega))
   have hw:=Cb (v%65536^k) Q
   have HY:=Lh y0
   have HR:=Lh yr
   have G1:=Lh g1
   have G2:=Lh g2
   have G3:=Lh g3
   clear g1 g2 g3 y0 yr hQ hr
   generalize hD:dg v k=D at *
   have HD:=Lh hD
   generalize hW:wd (v%65536^k) Q=W0 at c1 hw
   have HW:=Lh hW
   clear hD hW
   obtain⟨NW,hNW⟩:=exzb (wd (v%65536^(k+1)) Q)
   have hor:=QQ W0 D (16*r) hw (by have h:=G2.out;rw[show v/(2^16)^k%2^16=D from HD.out] at h;exact h)
   have hNW2:W0 ||| D <<< (16*r)=NW:=by
    have h:=G1.out
    rw[show v/(2^16)^k%2^16=D from HD.out,show wd (v%(2^16)^k) Q=W0 from HW.out] at h
    rw[← hNW];exact h.symm
   rw[hNW2] at hor
   have HNW:=Lh hNW
   clear hNW hNW2
   have HSET:=Lh (AF (i:=Q) HY.out (.int .u64 (NW:Int)))
   have r0:IntKind.i64.wrap (Q:Int)=Q:=IntWalk.i64_in _ (by omega)
   have r1:IntKind.i64.wrap ((from':Int)+(k:Int))=(from':Int)+(k:Int):=IntWalk.i64_in _ (by omega)
   have r2:IntKind.i64.wrap (16*(r:Int))=16*(r:Int):=IntWalk.i64_in _ (by omega)
   have KD:=Lh (Ec a la ca n (from'+k) wr.drew (A6 (A6 HA.out hb) (AV (Below.refl _ _) 1)) (by omega))
   rw[(HV k).out,HD.out] at KD
   rw[show ((from'+k:Nat):Int)=(from':Int)+(k:Int) by omega] at KD
   go_wp2_with fail
   go_region_with ((go_at_call 153;refine KD.out.mono ?_;rintro e w' ⟨rfl,rfl⟩))
   all_goals
    go_wp2_with fail
    go_roundw
    case rel =>
     refine⟨k+1,by omega,by go_num,?_,?_,(hb.setCell (p:=⟨w.heap.size+1,Q,none⟩) (by show w.heap.size≤w.heap.size+1;omega) _).drew⟩
     ·exact (Below.heap_setCell wr ⟨w.heap.size+1,Q,none⟩ _ w.heap.size (by show w.heap.size≠w.heap.size+1;omega)).trans HR.out
     ·have e:An (v%65536^(k+1))=(An (v%65536^k)).set Q (.int .u64 (NW:Int)):=by
        rw[← HNW.out]
        exact Ud (by omega) (fun j hj=>G3.out j hj)
      rw[e]
      exact HSET.out
    case measure=>simp[intOf];omega
  ·obtain rfl:k=16:=by omega
   have HE:=Lh (show Aa (n/65536^from'%B64^4)=.agg (An (v%65536^16)).toArray from by rw[HV0.out];rfl)
   obtain⟨y,hy⟩:=exzb (v%65536^16)
   rw[hy] at y0 HE
   clear hy
   have a0:=(Af y0 (Ai y 0 (by omega))).1
   have a1:=(Af y0 (Ai y 1 (by omega))).1
   have a2:=(Af y0 (Ai y 2 (by omega))).1
   have a3:=(Af y0 (Ai y 3 (by omega))).1
   obtain⟨d0,e0⟩:=Af yr (Ai 0 0 (by omega))
   obtain⟨d1,e1⟩:=Af yr (Ai 0 1 (by omega))
   obtain⟨d2,e2⟩:=Af yr (Ai 0 2 (by omega))
   obtain⟨d3,e3⟩:=Af yr (Ai 0 3 (by omega))
   have v1:=AF (i:=3) (AF (i:=2) (AF (i:=1) (AF (i:=0) yr (.int .u64 (wd y 0:Int))) (.int .u64 (wd y 1:Int))) (.int .u64 (wd y 2:Int))) (.int .u64 (wd y 3:Int))
   have q2:((((An 0).set 0 (.int .u64 (wd y 0:Int))).set 1 (.int .u64 (wd y 1:Int))).set 2 (.int .u64 (wd y 2:Int))).set 3 (.int .u64 (wd y 3:Int))=An y:=rfl
   rw[q2] at v1
   have V1:=Lh v1
   have bl:∀ (W':World) (q k:Nat) (x:Value),w.heap.size≤q→Below w.heap.size w W'→Below w.heap.size w (W'.setCell ⟨q,k,none⟩ x):=fun W' q k x hq h=>h.setCell (p:=⟨q,k,none⟩) hq x
   have BB:=Lh (bl _ w.heap.size 3 (.int .u64 (wd y 3:Int)) (by omega) (bl _ w.heap.size 2 (.int .u64 (wd y 2:Int)) (by omega) (bl _ w.heap.size 1 (.int .u64 (wd y 1:Int)) (by omega) (bl _ w.heap.size 0 (.int .u64 (wd y 0:Int)) (by omega) hb))))
   clear y0 yr q2 v1 bl
   generalize (wd 0 0:Int)=z0 at d0
   generalize (wd 0 1:Int)=z1 at d1
   generalize (wd 0 2:Int)=z2 at d2
   generalize (wd 0 3:Int)=z3 at d3
   go_wp2_with fail
   obtain⟨Y,hY⟩:=exza ((((wr.setCell ⟨w.heap.size,0,none⟩ (.int .u64 (wd y 0:Int))).setCell ⟨w.heap.size,1,none⟩ (.int .u64 (wd y 1:Int))).setCell ⟨w.heap.size,2,none⟩ (.int .u64 (wd y 2:Int))).setCell ⟨w.heap.size,3,none⟩ (.int .u64 (wd y 3:Int)))
   have v1:=V1.out
   have bb:=BB.out
   rw[← hY] at v1 bb ⊢
   clear hY V1 BB
   have kl:=run_loadVar_row (P:=Tryz.prog) Y w.heap.size 23 23 _ (0,0) _ v1 Tryz.underlying23 rfl (by kernel_rfl)
   exact bodyPost_ret (v:=.agg (An y).toArray) (Hj Tryz.results105 (by rfl) kl) rfl ⟨by rw[HE.out],bb⟩
theorem DJ (N:Nat) (Z:Int) (hz:Z=(N:Int)) (hN:N≤1000) (w:World):(Instr.makeSlice 95 (.int .i64 Z) (.int .i64 Z)).run Tryz.prog w=.ok (.slice (some ⟨w.heap.size,0,none⟩) N N) (w.alloc (.cells (Bw (fun _=>0) N).toArray 22)):=by
 rw[← Nx,hz]
 exact run_make_row' (P:=Tryz.prog) 95 22 (.int .u64 0) 8 Tryz.underlying95 Tryz.info_u64 rfl .i64 .i64 N (by omega) (by omega) w
theorem YQ {n m la lb:Nat} (ha:n<65536^la) (hb:m<65536^lb):n+m<65536^(max la lb+1):=by
 have h1:65536^la≤65536^(max la lb):=Nat.pow_le_pow_right (by decide) (Nat.le_max_left _ _)
 have h2:65536^lb≤65536^(max la lb):=Nat.pow_le_pow_right (by decide) (Nat.le_max_right _ _)
 rw[Nat.pow_succ]
 omega
theorem Fe (a b:Option Addr) (la ca lb cb n m:Nat) (w:World) (ha:IsN w a la ca n) (hb:IsN w b lb cb m) (sa:la≤150) (sb:lb≤150) :
    Calls Tryz.prog 107 #[.slice a la ca,.slice b lb cb] w fun e w'=>∃ g,e=.returned (.slice (some ⟨g,0,none⟩) (max la lb+1) (max la lb+1))∧By w' g (max la lb+1) (n+m)∧w.heap.size≤g∧Below w.heap.size w w':=by
 have l1:(la:Int)≤150:=by omega
 have l2:(lb:Int)≤150:=by omega
 have HA:=Lh ha
 have HB:=Lh hb
 have HF:=Lh (YQ ha.1 hb.1)
 have m1:=fun w=>DJ (la+1) ((la:Int)+1) (by omega) (by omega) w
 have m2:=fun w=>DJ (lb+1) ((lb:Int)+1) (by omega) (by omega) w
 clear ha hb
 go_enter Tryz.func107,Tryz.ntmps107
 go_wp2_with fail
 all_goals clear m1 m2
 all_goals
  go_loopw [6,7] (fun o i wr=>∃ k:Nat,∃ p:Nat→Nat,k≤max la lb+1∧i=.int .i64 (k:Int)∧o=.int .u64 (ov n m k:Int)∧(∀ j,j<k→p j=dg (n+m) j)∧wr.heap[w.heap.size]?=some (.cells (Bw p (max la lb+1)).toArray 22 (0,0))∧Below w.heap.size w wr) (fun _ i _=>max la lb+1-(intOf i).toNat)
  case atStart =>
   refine⟨0,fun _=>0,by omega,rfl,by rw[jq];rfl,fun j h=>absurd h (by omega),?_,Al (Below.refl _ _) _⟩
   first
    | (rw[show max la lb+1=lb+1 by omega];exact Aj _ _)
    | (rw[show max la lb+1=la+1 by omega];exact Aj _ _)
  case round =>
   obtain⟨k,p,hk,rfl,rfl,hp,y0,hbl⟩:=hrel
   by_cases hlt:k<max la lb+1
   ·have k9:(k:Int)≤200:=by omega
    have KA:=Lh (Ec a la ca n k _ (A6 HA.out hbl) (by omega))
    have KB:=Lh (Ec b lb cb m k _ (A6 HB.out hbl) (by omega))
    have hx:=Dx n k
    have hy:=Dx m k
    have ho:=gQ n m k
    have HD:=Lh (fO n m k)
    have HO:=Lh (fd n m k)
    have HP:=Lh hp
    obtain⟨c1,f1⟩:=Af y0 (BC p _ k hlt)
    have HSET:=Lh (AF (i:=k) y0 (.int .u64 (dg (n+m) k:Int)))
    clear hp y0
    generalize dg n k=x at *
    generalize dg m k=y at *
    generalize ov n m k=o at *
    have k1:¬ la<lb→(k:Int)<(la:Int)+1:=by omega
    have k2:la<lb→(k:Int)<(lb:Int)+1:=by omega
    go_wp2_with fail
    refine KA.out.mono ?_
    rintro e w' ⟨rfl,rfl⟩
    go_wp2_with fail
    refine KB.out.mono ?_
    rintro e w' ⟨rfl,rfl⟩
    go_wp2_with fail
    go_roundw
    case rel =>
     have e1:((x:Int)+(y:Int)+(o:Int))%65536=(dg (n+m) k:Int):=by have:=HD.out;omega
     have e2:((x:Int)+(y:Int)+(o:Int))/65536=(ov n m (k+1):Int):=by have:=HO.out;omega
     rw[e1,e2]
     refine⟨k+1,upd p k (dg (n+m) k),by omega,by go_num,rfl,fun j hj=>?_,?_,hbl.setCell (p:=⟨w.heap.size,k,none⟩) (Nat.le_refl _) _⟩
     ·unfold upd
      split
      ·rename_i h;rw[h]
      ·exact HP.out j (by omega)
     ·rw[← DC];exact HSET.out
    case measure=>simp[intOf];omega
   ·obtain rfl:k=max la lb+1:=by omega
    have q1:¬ ((max la lb+1:Nat):Int)<(la:Int)+1:=by omega
    have q2:¬ ((max la lb+1:Nat):Int)<(lb:Int)+1:=by omega
    have hO:=Lh (show By wr w.heap.size (max la lb+1) (n+m) from ⟨by rw[← ER hp];exact y0,HF.out,by omega⟩)
    clear hp y0
    obtain⟨K,hK⟩:=exzb (max la lb+1)
    have e1:la<lb→lb+1=K:=by omega
    have e2:¬ la<lb→la+1=K:=by omega
    have E1:=Lh e1
    have E2:=Lh e2
    have HK:=Lh hK
    rw[hK] at hO q1 q2 ⊢
    clear hK e1 e2
    go_wp2_with fail
    go_ret
    rw[HK.out]
    refine⟨w.heap.size,?_,hO.out,Nat.le_refl _,hbl⟩
    first
     | (rw[← E1.out (by assumption)];rfl)
     | (rw[← E2.out (by assumption)];rfl)
theorem Nm (n:Nat):Fy (fun _=>0) n=0:=by
 induction n with
 | zero=>rfl
 | succ n ih=>rw[Fy,ih,Nat.zero_mul]
theorem Sy {w:World} {b len cap n:Nat} (h:IsN w (some ⟨b,0,none⟩) len cap n) (i:Nat) (hi:i<len):w.cell? ⟨b,i,none⟩=some (.int .u64 (dg n i:Int)):=by
 obtain⟨_,_,h3 | ⟨b',e,_,_,h⟩⟩:=h
 ·omega
 ·simp only[Option.some.injEq,Addr.mk.injEq] at e
  obtain⟨rfl,_,_⟩:=e
  exact h i hi
theorem La {p:Nat→Nat} {k x:Nat} (h:∀ k,p k<H16) (hx:x<65536):∀ n,upd p k x n<H16:=fun n=>by
 unfold upd
 split
 ·exact hx
 ·exact h n
theorem IJ {p:Nat→Nat} {k x m:Nat} (h:∀ n,m≤n→p n=0) (hk:k<m):∀ n,m≤n→upd p k x n=0:=fun n hn=>by
 unfold upd
 rw[if_neg (by omega)]
 exact h n hn
theorem Md (a b:Nat) (la ca lb cb n m:Nat) (w:World) (ha:IsN w (some ⟨a,0,none⟩) la ca n) (hb:IsN w (some ⟨b,0,none⟩) lb cb m) (sa:la≤90) (sb:lb≤90) (pa:0<la) (pb:0<lb) :
    Calls Tryz.prog 110 #[.slice (some ⟨a,0,none⟩) la ca,.slice (some ⟨b,0,none⟩) lb cb] w fun e w'=>∃ g,e=.returned (.slice (some ⟨g,0,none⟩) (la+lb) (la+lb))∧By w' g (la+lb) (n*m)∧w.heap.size≤g∧Below w.heap.size w w':=by
 have l1:(la:Int)≤90:=by omega
 have l2:(lb:Int)≤90:=by omega
 have m1:=fun w=>DJ (la+lb) ((la:Int)+(lb:Int)) (by omega) (by omega) w
 have HA:=Lh ha
 have HB:=Lh hb
 clear ha hb
 go_enter Tryz.func110,Tryz.ntmps110
 go_wp2_with fail
 clear m1
 go_loopw [6] (fun i wr=>∃ i':Nat,∃ p:Nat→Nat,i'≤la∧i=.int .i64 (i':Int)∧(∀ k,p k<H16)∧(∀ k,i'+lb≤k→p k=0)∧Fy p (la+lb)=(n%H16^i')*m∧wr.heap[w.heap.size]?=some (.cells (Bw p (la+lb)).toArray 22 (0,0))∧Below w.heap.size w wr) (fun i _=>la-(intOf i).toNat)
 case atStart=>exact⟨0,fun _=>0,by omega,rfl,fun _=>(by decide:0<H16),fun _ _=>rfl,by rw[Nat.pow_zero,Nat.mod_one,Nat.zero_mul];exact Nm _,Aj _ _,Al (Below.refl _ _) _⟩
 case round =>
  obtain⟨i,p,hi,rfl,hp,hz,hV,y0,hbl⟩:=hrel
  by_cases hlt:i<la
  ·have p1:(i:Int)<(la:Int):=by omega
   have HP:=Lh hp
   have HZ:=Lh hz
   have HV:=Lh hV
   have HY:=Lh y0
   clear hp hz hV y0
   go_wp2_with fail
   go_loopw [7,8] (fun c j wr=>∃ j' c':Nat,∃ p:Nat→Nat,j'≤lb∧j=.int .i64 (j':Int)∧c=.int .u64 (c':Int)∧c'<65536∧(∀ k,p k<H16)∧(∀ k,i+lb≤k→p k=0)∧Fy p (la+lb)+c'*H16^(i+j')=(n%H16^i)*m+hd n i*(m%H16^j')*H16^i∧wr.heap[w.heap.size]?=some (.cells (Bw p (la+lb)).toArray 22 (0,0))∧Below w.heap.size w wr) (fun _ j _=>lb-(intOf j).toNat)
   case atStart=>exact⟨0,0,p,by omega,rfl,rfl,by omega,HP.out,HZ.out,by rw[HV.out,Nat.pow_zero,Nat.mod_one,Nat.mul_zero,Nat.zero_mul,Nat.zero_mul],HY.out,hbl⟩
   case round =>
    clear HP HZ HV HY hbl
    obtain⟨j,c,p,hj,rfl,rfl,hc,hp,hz,hV,y0,hbl⟩:=hrel
    by_cases hjl:j<lb
    ·have p2:(j:Int)<(lb:Int):=by omega
     have c0:=Sy (A6 HA.out hbl) i hlt
     have c1:=Sy (A6 HB.out hbl) j hjl
     obtain⟨c4,f4⟩:=Af y0 (BC p (la+lb) (i+j) (by omega))
     have hx:=Dx n i
     have hy:=Dx m j
     have hpk:p (i+j)<65536:=hp _
     obtain⟨k1,k2,k3,k4,k5,ke⟩:=NF (dg n i) (dg m j) (p (i+j)) c hx hy hpk hc
     have HVS:=Lh (N5 p (la+lb) (i+j) (dg n i) (by omega) _ c ((p (i+j)+dg n i*dg m j+c)/65536) ((p (i+j)+dg n i*dg m j+c)%65536) (dg m j) m i j rfl hV ke rfl)
     have HSET:=Lh (AF (i:=i+j) y0 (.int .u64 ((p (i+j)+dg n i*dg m j+c)%65536:Nat)))
     have HPP:=Lh hp
     have HZZ:=Lh hz
     have K4:=Lh k4
     have K5:=Lh k5
     have xy:((dg n i:Int)*(dg m j:Int))=((dg n i*dg m j:Nat):Int):=by rw[Int.natCast_mul]
     clear hp hz hV y0 ke
     generalize dg n i*dg m j=M at *
     generalize hX:dg n i=x at *
     have HX:=Lh hX
     clear hX
     generalize dg m j=y at *
     generalize p (i+j)=z at *
     have nat1:((i:Int)+(j:Int)).toNat=i+j:=by omega
     have q1:(i:Int)+(j:Int)<(la:Int)+(lb:Int):=by omega
     have q2:(i:Int)<90:=by omega
     have q3:(j:Int)<90:=by omega
     clear k4 k5
     go_wp2_with fail
     go_quiet (fail)
     go_wp2_with fail
     go_roundw
     case rel =>
      have e1:((z:Int)+(M:Int)+(c:Int))/65536=(((z+M+c)/65536:Nat):Int):=by omega
      have e2:((z:Int)+(M:Int)+(c:Int))%65536=(((z+M+c)%65536:Nat):Int):=by omega
      rw[e1,e2]
      refine⟨j+1,(z+M+c)/65536,upd p (i+j) ((z+M+c)%65536),by omega,by go_num,rfl,K5.out,La HPP.out K4.out,IJ HZZ.out (by omega),?_,?_,(AV hbl nq).setCell (p:=⟨w.heap.size,i+j,none⟩) (Nat.le_refl _) _⟩
      ·rw[ew,HX.out];exact HVS.out
      ·rw[← DC];exact HSET.out
     case measure=>simp[intOf];omega
    ·have hj':j=lb:=by omega
     subst hj'
     have HVR:=Lh (Qq p (la+j) i c n m j (by omega) HB.out.1 (hz (i+j) (by omega)) hV)
     obtain⟨c4,f4⟩:=Af y0 (BC p (la+j) (i+j) (by omega))
     have HSET:=Lh (AF (i:=i+j) y0 (.int .u64 (c:Int)))
     have HPP:=Lh hp
     have HZZ:=Lh hz
     clear hp hz hV y0
     generalize p (i+j)=z at c4
     have nat1:((i:Int)+(j:Int)).toNat=i+j:=by omega
     have q1:(i:Int)+(j:Int)<(la:Int)+(j:Int):=by omega
     have q2:(i:Int)<90:=by omega
     have q3:(j:Int)≤90:=by omega
     go_wp2_with fail
     go_roundw
     case rel =>
      refine⟨i+1,upd p (i+j) c,by omega,by go_num,La HPP.out hc,IJ (fun k hk=>HZZ.out k (by omega)) (by omega),HVR.out,?_,hbl.setCell (p:=⟨w.heap.size,i+j,none⟩) (Nat.le_refl _) _⟩
      rw[← DC];exact HSET.out
     case measure=>simp[intOf];omega
  ·have hi':i=la:=by omega
   subst hi'
   have hO:=Lh (show By wr w.heap.size (i+lb) (n*m) from by
    have hn:n<H16^i:=HA.out.1
    have hm:m<H16^lb:=HB.out.1
    rw[Nat.mod_eq_of_lt hn] at hV
    refine⟨?_,?_,by omega⟩
    ·rw[ER (p:=dg (n*m)) (q:=p) (fun k hk=>by rw[← hV];exact Uo p (i+lb) hp k hk)]
     exact y0
    ·show n*m<H16^(i+lb)
     rw[Nat.pow_add]
     exact Nat.mul_lt_mul'' hn hm)
   clear hp hz hV y0
   go_wp2_with fail
   go_ret
   exact⟨w.heap.size,rfl,hO.out,Nat.le_refl _,hbl⟩
theorem Gv (a b:Option Addr) (la ca lb cb n m:Nat) (w:World) (ha:IsN w a la ca n) (hb:IsN w b lb cb m) (hmn:m≤n) :
    Calls Tryz.prog 154 #[.slice a la ca,.slice b lb cb] w fun e w'=>e=.returned (.slice (some ⟨w.heap.size,0,none⟩) la la)∧By w' w.heap.size la (n-m)∧Below w.heap.size w w':=by
 have l1:(la:Int)≤200:=by have:=ha.2.1;omega
 have HA:=Lh ha
 have HB:=Lh hb
 have HF:=Lh (Nat.lt_of_le_of_lt (Nat.sub_le n m) ha.1)
 have m1:=fun w=>DJ la (la:Int) rfl (by omega) w
 clear ha hb
 go_enter Tryz.func154,Tryz.ntmps154
 go_wp2_with fail
 clear m1
 go_loopw [6,7] (fun o i wr=>∃ k:Nat,∃ p:Nat→Nat,k≤la∧i=.int .i64 (k:Int)∧o=.int .u64 (br n m k:Int)∧(∀ j,j<k→p j=dg (n-m) j)∧wr.heap[w.heap.size]?=some (.cells (Bw p la).toArray 22 (0,0))∧Below w.heap.size w wr) (fun _ i _=>la-(intOf i).toNat)
 case atStart=>exact⟨0,fun _=>0,by omega,rfl,by rw[jd];rfl,fun j h=>absurd h (by omega),Aj _ _,Al (Below.refl _ _) _⟩
 case round =>
  obtain⟨k,p,hk,rfl,rfl,hp,y0,hbl⟩:=hrel
  by_cases hlt:k<la
  ·have k9:(k:Int)<(la:Int):=by omega
   have KA:=Lh (Ec a la ca n k _ (A6 HA.out hbl) (by omega))
   have KB:=Lh (Ec b lb cb m k _ (A6 HB.out hbl) (by omega))
   have hx:=Dx n k
   have hy:=Dx m k
   have ho:=ef n m k
   have HD:=Lh (gK n m k hmn)
   have HO:=Lh (fK n m k)
   have HP:=Lh hp
   obtain⟨c1,f1⟩:=Af y0 (BC p _ k hlt)
   have HSET:=Lh (AF (i:=k) y0 (.int .u64 (dg (n-m) k:Int)))
   clear hp y0
   generalize dg n k=x at *
   generalize dg m k=y at *
   generalize br n m k=o at *
   go_wp2_with fail
   refine KA.out.mono ?_
   rintro e w' ⟨rfl,rfl⟩
   go_wp2_with fail
   refine KB.out.mono ?_
   rintro e w' ⟨rfl,rfl⟩
   go_wp2_with fail
   go_roundw
   case rel =>
    have e1:(65536+(x:Int)-(y:Int)-(o:Int))%65536=(dg (n-m) k:Int):=by have:=HD.out;omega
    have e2:1-(65536+(x:Int)-(y:Int)-(o:Int))/65536=(br n m (k+1):Int):=by have:=HO.out;omega
    rw[e1,e2]
    refine⟨k+1,upd p k (dg (n-m) k),by omega,by go_num,rfl,fun j hj=>?_,?_,hbl.setCell (p:=⟨w.heap.size,k,none⟩) (Nat.le_refl _) _⟩
    ·unfold upd
     split
     ·rename_i h;rw[h]
     ·exact HP.out j (by omega)
    ·rw[← DC];exact HSET.out
   case measure=>simp[intOf];omega
  ·have hk':k=la:=by omega
   subst hk'
   have hO:=Lh (show By wr w.heap.size k (n-m) from ⟨by rw[← ER hp];exact y0,HF.out,by omega⟩)
   clear hp y0
   go_wp2_with fail
   go_ret
   exact⟨rfl,hO.out,hbl⟩
end Go.Proofs.YtnaldciakclccaaGreat
