/- Lemmas of this proof. -/
import Derived.Laws.Bits64b
import Derived.Deep.DeepCutAuto
import Derived.Lib.QuietBelow
import Derived.Deep.Light
import Derived.Test.YtnaldciakclccaaGreatEv02
namespace Go.Proofs.YtnaldciakclccaaGreat
set_option maxRecDepth 20000
set_option maxHeartbeats 8000000
set_option linter.unusedSimpArgs false
set_option linter.unusedVariables false
open Go.RowKit
theorem Wv (x y c:Nat) (hc:c≤1) (w:World):(callFunc 200 #[.int .u64 (x:Int),.int .u64 (y:Int),.int .u64 (c:Int)]).run Tryz.prog w =
      .ok (.value (.tuple #[.int .u64 (((x+18446744073709551616-y-c)%18446744073709551616:Nat):Int),.int .u64 ((if x<y+c then 1 else 0:Nat):Int)])) w:=by
 rw[run_callFunc_extern Tryz.func200 (by kernel_rfl) (by kernel_rfl) (by kernel_rfl) (e:=sub64Entry) (by kernel_rfl),run_sub64 x y c hc]
 simp only[Result.andThen]
def MP (x y c:Nat):Nat:=(x+y+c)%18446744073709551616
def Rs (x y c:Nat):Nat:=(x+y+c)/18446744073709551616
def L3 (x y c:Nat):Nat:=(x+18446744073709551616-y-c)%18446744073709551616
def Qa (x y c:Nat):Nat:=if x<y+c then 1 else 0
theorem ir (x y c:Nat) (w:World) (hc:c≤1):Calls Tryz.prog 151 #[.int .u64 (x:Int),.int .u64 (y:Int),.int .u64 (c:Int)] w fun e w'=>e=.returned (.tuple #[.int .u64 (MP x y c:Int),.int .u64 (Rs x y c:Int)])∧w'=w:=by
 have kd:=fun w=>Nl x y c hc w
 rw[show (x+y+c)%18446744073709551616=MP x y c from rfl,show (x+y+c)/18446744073709551616=Rs x y c from rfl] at kd
 go_enter Tryz.func151,Tryz.ntmps151
 go_wp2_with fail
 go_ret2
 exact⟨rfl,rfl⟩
theorem ip (x y c:Nat) (w:World) (hc:c≤1):Calls Tryz.prog 173 #[.int .u64 (x:Int),.int .u64 (y:Int),.int .u64 (c:Int)] w fun e w'=>e=.returned (.tuple #[.int .u64 (L3 x y c:Int),.int .u64 (Qa x y c:Int)])∧w'=w:=by
 have kd:=fun w=>Wv x y c hc w
 rw[show (x+18446744073709551616-y-c)%18446744073709551616=L3 x y c from rfl,show (if x<y+c then 1 else 0:Nat)=Qa x y c from rfl] at kd
 go_enter Tryz.func173,Tryz.ntmps173
 go_wp2_with fail
 go_ret2
 exact⟨rfl,rfl⟩
theorem Y4 (a b i c:Nat) (p:Nat→Nat) (hc:c≤1) (hV:Dv p i+c*B64^i=a%B64^i+b%B64^i) :
    Dv (upd p i (MP (wd a i) (wd b i) c)) (i+1)+Rs (wd a i) (wd b i) c*B64^(i+1)=a%B64^(i+1)+b%B64^(i+1)∧Rs (wd a i) (wd b i) c≤1∧MP (wd a i) (wd b i) c<18446744073709551616:=by
 have hx:=Cb a i
 have hy:=Cb b i
 have he:MP (wd a i) (wd b i) c+Rs (wd a i) (wd b i) c*B64=wd a i+wd b i+c:=by unfold MP Rs B64;omega
 refine⟨?_,by unfold Rs;omega,by unfold MP;omega⟩
 rw[Dv,II (upd p i _) p i (fun k hk=>by unfold upd;rw[if_neg (by omega)]),show upd p i (MP (wd a i) (wd b i) c) i=MP (wd a i) (wd b i) c by unfold upd;rw[if_pos rfl],Gt a i,Gt b i,Nat.pow_succ,Nat.mul_comm (B64^i) B64,← Nat.mul_assoc]
 have h2:=congrArg (·*B64^i) he
 simp only[Nat.add_mul] at h2
 omega
theorem ay (a b i c:Nat) (p:Nat→Nat) (hc:c≤1) (hV:Dv p i+b%B64^i=a%B64^i+c*B64^i) :
    Dv (upd p i (L3 (wd a i) (wd b i) c)) (i+1)+b%B64^(i+1)=a%B64^(i+1)+Qa (wd a i) (wd b i) c*B64^(i+1)∧Qa (wd a i) (wd b i) c≤1∧L3 (wd a i) (wd b i) c<18446744073709551616:=by
 have hx:=Cb a i
 have hy:=Cb b i
 have he:L3 (wd a i) (wd b i) c+wd b i+c=wd a i+Qa (wd a i) (wd b i) c*B64:=by unfold L3 Qa B64;split <;> omega
 refine⟨?_,by unfold Qa;split <;> omega,by unfold L3;omega⟩
 rw[Dv,II (upd p i _) p i (fun k hk=>by unfold upd;rw[if_neg (by omega)]),show upd p i (L3 (wd a i) (wd b i) c) i=L3 (wd a i) (wd b i) c by unfold upd;rw[if_pos rfl],Gt a i,Gt b i,Nat.pow_succ,Nat.mul_comm (B64^i) B64,← Nat.mul_assoc]
 have h2:=congrArg (·*B64^i) he
 simp only[Nat.add_mul] at h2
 omega
theorem AC {P:Program} {fn:Func} {tmps:Array Value} {w:World} {v u:Value} {a t b s:Nat} (h:fn.results=#[.cell a t,.tmp s]) (ha:tmps.getD a undef=.pointer (some ⟨b,0,none⟩)) (hs:tmps.getD s undef=u) (hl:(loadVar t ⟨b,0,none⟩).run P w=.ok v w):(results fn tmps).run P w=.ok (.tuple #[v,u]) w:=by
 rw[Array.getD_eq_getD_getElem?] at ha hs
 simp only[results,h]
 simp[asAddr,ha,hl,hs]
def CD (p:Nat→Nat):List Value:=[.int .u64 (p 0:Int),.int .u64 (p 1:Int),.int .u64 (p 2:Int),.int .u64 (p 3:Int)]
theorem Cs (p:Nat→Nat) (k:Nat) (h:k<4):(CD p)[k]?=some (.int .u64 (p k:Int)):=by
 match k,h with
 | 0,_=>rfl | 1,_=>rfl | 2,_=>rfl | 3,_=>rfl
theorem PY (p:Nat→Nat) (i x:Nat) (h:i<4):(CD p).set i (.int .u64 (x:Int))=CD (upd p i x):=by
 match i,h with
 | 0,_=>rfl | 1,_=>rfl | 2,_=>rfl | 3,_=>rfl
theorem Q5 (p:Nat→Nat) (v:Nat) (hp:∀ k,p k<B64) (h:Dv p 4=v):.agg (CD p).toArray=Aa v:=by
 have e:∀ k,k<4→wd v k=p k:=fun k hk=>by rw[← h];exact Lf p hp k 4 hk
 unfold Aa CD
 rw[e 0 (by omega),e 1 (by omega),e 2 (by omega),e 3 (by omega)]
theorem ZC (a b:Nat) (w:World) :
    Calls Tryz.prog 150 #[Aa a,Aa b,.func (.func 151) #[] #[]] w fun e w'=>∃ p:Nat→Nat,∃ c:Nat,(∀ k,p k<B64)∧c≤1∧Dv p 4+c*B64^4=a%B64^4+b%B64^4∧e=.returned (.tuple #[.agg (CD p).toArray,.int .u64 (c:Int)])∧Below w.heap.size w w':=by
 rw[show Aa a=.agg #[.int .u64 (wd a 0:Int),.int .u64 (wd a 1:Int),.int .u64 (wd a 2:Int),.int .u64 (wd a 3:Int)] from rfl,show Aa b=.agg #[.int .u64 (wd b 0:Int),.int .u64 (wd b 1:Int),.int .u64 (wd b 2:Int),.int .u64 (wd b 3:Int)] from rfl]
 have x0:(((w.alloc (.cells (An a).toArray 24)).alloc (.cells (An b).toArray 24)).alloc (.cells (CD fun _=>0).toArray 24)).heap[w.heap.size]?=some (.cells (An a).toArray 24 (0,0)):=by
  rw[AQ _ _ _ (by simp only[Ae];omega),AQ _ _ _ (by rw[Ae];omega),Aj]
 have x1:(((w.alloc (.cells (An a).toArray 24)).alloc (.cells (An b).toArray 24)).alloc (.cells (CD fun _=>0).toArray 24)).heap[w.heap.size+1]?=some (.cells (An b).toArray 24 (0,0)):=by
  rw[AQ _ _ _ (by simp only[Ae];omega)]
  have:=Aj (w.alloc (.cells (An a).toArray 24)) (.cells (An b).toArray 24)
  rw[Ae] at this
  exact this
 have x2:(((w.alloc (.cells (An a).toArray 24)).alloc (.cells (An b).toArray 24)).alloc (.cells (CD fun _=>0).toArray 24)).heap[w.heap.size+1+1]?=some (.cells (CD fun _=>0).toArray 24 (0,0)):=by
  have:=Aj ((w.alloc (.cells (An a).toArray 24)).alloc (.cells (An b).toArray 24)) (.cells (CD fun _=>0).toArray 24)
  simp only[Ae] at this
  exact this
 have x3:Below w.heap.size w (((w.alloc (.cells (An a).toArray 24)).alloc (.cells (An b).toArray 24)).alloc (.cells (CD fun _=>0).toArray 24)):=Al (Al (Al (Below.refl _ _) _) _) _
 go_enter Tryz.func150,Tryz.ntmps150
 go_wp2_with fail
 change Code.wp _ _ _ _ (((w.alloc (.cells (An a).toArray 24)).alloc (.cells (An b).toArray 24)).alloc (.cells (CD fun _=>0).toArray 24))
 generalize ((w.alloc (.cells (An a).toArray 24)).alloc (.cells (An b).toArray 24)).alloc (.cells (CD fun _=>0).toArray 24)=X at *
 go_loopw [7,9] (fun c i wr=>∃ i' c':Nat,∃ p:Nat→Nat,i'≤4∧i=.int .i64 (i':Int)∧c=.int .u64 (c':Int)∧c'≤1∧(∀ k,p k<B64)∧Dv p i'+c'*B64^i'=a%B64^i'+b%B64^i'∧wr.heap[w.heap.size]?=some (.cells (An a).toArray 24 (0,0))∧wr.heap[w.heap.size+1]?=some (.cells (An b).toArray 24 (0,0))∧wr.heap[w.heap.size+1+1]?=some (.cells (CD p).toArray 24 (0,0))∧Below w.heap.size w wr) (fun _ i _=>4-(intOf i).toNat)
 case atStart=>exact⟨0,0,fun _=>0,by omega,rfl,rfl,by omega,fun _=>B9,by simp[Dv,Nat.mod_one],x0,x1,x2,x3⟩
 case round =>
  clear x0 x1 x2 x3
  obtain⟨i,c,p,hi,rfl,rfl,hc,hp,hV,y0,y1,y2,hb⟩:=hrel
  by_cases hlt:i<4
  ·have p1:(i:Int)<4:=by omega
   obtain⟨hv,hc1,hs1⟩:=Y4 a b i c p hc hV
   have HV:=Lh hv
   have HPP:=Lh hp
   have c0:=(Af y0 (Ai a i hlt)).1
   have c1:=(Af y1 (Ai b i hlt)).1
   obtain⟨c2,f2⟩:=Af y2 (Cs p i hlt)
   have WA:=fun w=>ir (wd a i) (wd b i) c w hc
   have hset:=AF (i:=i) y2 (.int .u64 (MP (wd a i) (wd b i) c:Int))
   rw[PY p i _ hlt] at hset
   have HSET:=Lh hset
   have Y0:=Lh y0
   have Y1:=Lh y1
   clear hv hV hp y0 y1 y2 hset
   generalize hS:MP (wd a i) (wd b i) c=S at *
   generalize hC:Rs (wd a i) (wd b i) c=C at *
   clear hS hC
   generalize wd a i=x at *
   generalize wd b i=y at *
   generalize p i=z at c2
   have o5:IntKind.i64.wrap ((i:Int)+1)=(i:Int)+1:=IntWalk.i64_in _ (by omega)
   have k0:∀ v,(wr.setCell ⟨w.heap.size+1+1,i,none⟩ v).cell? ⟨w.heap.size,i,none⟩=some (.int .u64 (x:Int)):=fun v=>(World.cell?_setCell_far wr ⟨w.heap.size+1+1,i,none⟩ ⟨w.heap.size,i,none⟩ v (by show w.heap.size+1+1≠w.heap.size;omega)).trans c0
   have k1:∀ v,(wr.setCell ⟨w.heap.size+1+1,i,none⟩ v).cell? ⟨w.heap.size+1,i,none⟩=some (.int .u64 (y:Int)):=fun v=>(World.cell?_setCell_far wr ⟨w.heap.size+1+1,i,none⟩ ⟨w.heap.size+1,i,none⟩ v (by show w.heap.size+1+1≠w.heap.size+1;omega)).trans c1
   have k2:∀ v,∃ u,(wr.setCell ⟨w.heap.size+1+1,i,none⟩ v).cell? ⟨w.heap.size+1+1,i,none⟩=some u:=fun v=>⟨v,World.cell?_setCell_same wr _ v c2⟩
   have k3:∀ v,(wr.setCell ⟨w.heap.size+1+1,i,none⟩ v).frozen? ⟨w.heap.size+1+1,i,none⟩=false:=fun v=>by rw[World.frozen?_setCell];exact f2
   go_wp2_with fail
   go_region_held3 (fun w'=>w'.cell? ⟨w.heap.size,i,none⟩=some (.int .u64 (x:Int))∧w'.cell? ⟨w.heap.size+1,i,none⟩=some (.int .u64 (y:Int))∧(∃ v,w'.cell? ⟨w.heap.size+1+1,i,none⟩=some v)∧w'.frozen? ⟨w.heap.size+1+1,i,none⟩=false) (first | exact⟨c0,c1,⟨_,c2⟩,f2⟩ | exact⟨k0 _,k1 _,k2 _,k3 _⟩ | go_keep) (first
    | (go_at_call 151;go_must (refine (WA _).mono ?_);rintro e w' ⟨rfl,rfl⟩))
   go_wp2_with fail
   go_roundw
   case rel =>
    refine⟨i+1,C,upd p i S,by omega,congrArg (Value.int .i64) (by omega),rfl,hc1,Ph HPP.out hs1,HV.out,?_,?_,HSET.out,(hb.setCell (p:=⟨w.heap.size+1+1,i,none⟩) (by show w.heap.size≤w.heap.size+1+1;omega) _).drew⟩
    ·exact (Below.heap_setCell wr ⟨w.heap.size+1+1,i,none⟩ (.int .u64 (S:Int)) w.heap.size (by show w.heap.size≠w.heap.size+1+1;omega)).trans Y0.out
    ·exact (Below.heap_setCell wr ⟨w.heap.size+1+1,i,none⟩ (.int .u64 (S:Int)) (w.heap.size+1) (by show w.heap.size+1≠w.heap.size+1+1;omega)).trans Y1.out
   case measure=>simp[intOf];omega
  ·obtain rfl:i=4:=by omega
   have p1:¬ ((4:Nat):Int)<4:=by omega
   have HV:=Lh hV
   have HPP:=Lh hp
   obtain⟨d0,e0⟩:=Af y2 (Cs p 0 (by omega))
   obtain⟨d1,e1⟩:=Af y2 (Cs p 1 (by omega))
   obtain⟨d2,e2⟩:=Af y2 (Cs p 2 (by omega))
   obtain⟨d3,e3⟩:=Af y2 (Cs p 3 (by omega))
   have v1:=AF (i:=3) (AF (i:=2) (AF (i:=1) (AF (i:=0) y2 (.int .u64 (p 0:Int))) (.int .u64 (p 1:Int))) (.int .u64 (p 2:Int))) (.int .u64 (p 3:Int))
   have q2:((((CD p).set 0 (.int .u64 (p 0:Int))).set 1 (.int .u64 (p 1:Int))).set 2 (.int .u64 (p 2:Int))).set 3 (.int .u64 (p 3:Int))=CD p:=rfl
   rw[q2] at v1
   have V1:=Lh v1
   have bl:∀ (W':World) (q k:Nat) (x:Value),w.heap.size≤q→Below w.heap.size w W'→Below w.heap.size w (W'.setCell ⟨q,k,none⟩ x):=fun W' q k x hq h=>h.setCell (p:=⟨q,k,none⟩) hq x
   have BB:=Lh (bl _ (w.heap.size+1+1) 3 (.int .u64 (p 3:Int)) (by omega) (bl _ (w.heap.size+1+1) 2 (.int .u64 (p 2:Int)) (by omega) (bl _ (w.heap.size+1+1) 1 (.int .u64 (p 1:Int)) (by omega) (bl _ (w.heap.size+1+1) 0 (.int .u64 (p 0:Int)) (by omega) hb))))
   clear hV hp y0 y1 y2 q2 v1 bl
   go_wp2_with fail
   obtain⟨Y,hY⟩:=exza ((((wr.setCell ⟨w.heap.size+1+1,0,none⟩ (.int .u64 (p 0:Int))).setCell ⟨w.heap.size+1+1,1,none⟩ (.int .u64 (p 1:Int))).setCell ⟨w.heap.size+1+1,2,none⟩ (.int .u64 (p 2:Int))).setCell ⟨w.heap.size+1+1,3,none⟩ (.int .u64 (p 3:Int)))
   have v1:=V1.out
   have bb:=BB.out
   rw[← hY] at v1 bb ⊢
   clear hY V1 BB
   have kl:=run_loadVar_row (P:=Tryz.prog) Y (w.heap.size+1+1) 24 24 _ (0,0) _ v1 Tryz.underlying24 rfl (by kernel_rfl)
   exact bodyPost_ret (v:=.tuple #[.agg (CD p).toArray,.int .u64 (c:Int)]) (AC Tryz.results150 (by rfl) (by rfl) kl) rfl ⟨p,HPP.out,c,hc,HV.out,rfl,bb⟩
theorem ZU (a b:Nat) (w:World) :
    Calls Tryz.prog 150 #[Aa a,Aa b,.func (.func 173) #[] #[]] w fun e w'=>∃ p:Nat→Nat,∃ c:Nat,(∀ k,p k<B64)∧c≤1∧Dv p 4+b%B64^4=a%B64^4+c*B64^4∧e=.returned (.tuple #[.agg (CD p).toArray,.int .u64 (c:Int)])∧Below w.heap.size w w':=by
 rw[show Aa a=.agg #[.int .u64 (wd a 0:Int),.int .u64 (wd a 1:Int),.int .u64 (wd a 2:Int),.int .u64 (wd a 3:Int)] from rfl,show Aa b=.agg #[.int .u64 (wd b 0:Int),.int .u64 (wd b 1:Int),.int .u64 (wd b 2:Int),.int .u64 (wd b 3:Int)] from rfl]
 have x0:(((w.alloc (.cells (An a).toArray 24)).alloc (.cells (An b).toArray 24)).alloc (.cells (CD fun _=>0).toArray 24)).heap[w.heap.size]?=some (.cells (An a).toArray 24 (0,0)):=by
  rw[AQ _ _ _ (by simp only[Ae];omega),AQ _ _ _ (by rw[Ae];omega),Aj]
 have x1:(((w.alloc (.cells (An a).toArray 24)).alloc (.cells (An b).toArray 24)).alloc (.cells (CD fun _=>0).toArray 24)).heap[w.heap.size+1]?=some (.cells (An b).toArray 24 (0,0)):=by
  rw[AQ _ _ _ (by simp only[Ae];omega)]
  have:=Aj (w.alloc (.cells (An a).toArray 24)) (.cells (An b).toArray 24)
  rw[Ae] at this
  exact this
 have x2:(((w.alloc (.cells (An a).toArray 24)).alloc (.cells (An b).toArray 24)).alloc (.cells (CD fun _=>0).toArray 24)).heap[w.heap.size+1+1]?=some (.cells (CD fun _=>0).toArray 24 (0,0)):=by
  have:=Aj ((w.alloc (.cells (An a).toArray 24)).alloc (.cells (An b).toArray 24)) (.cells (CD fun _=>0).toArray 24)
  simp only[Ae] at this
  exact this
 have x3:Below w.heap.size w (((w.alloc (.cells (An a).toArray 24)).alloc (.cells (An b).toArray 24)).alloc (.cells (CD fun _=>0).toArray 24)):=Al (Al (Al (Below.refl _ _) _) _) _
 go_enter Tryz.func150,Tryz.ntmps150
 go_wp2_with fail
 change Code.wp _ _ _ _ (((w.alloc (.cells (An a).toArray 24)).alloc (.cells (An b).toArray 24)).alloc (.cells (CD fun _=>0).toArray 24))
 generalize ((w.alloc (.cells (An a).toArray 24)).alloc (.cells (An b).toArray 24)).alloc (.cells (CD fun _=>0).toArray 24)=X at *
 go_loopw [7,9] (fun c i wr=>∃ i' c':Nat,∃ p:Nat→Nat,i'≤4∧i=.int .i64 (i':Int)∧c=.int .u64 (c':Int)∧c'≤1∧(∀ k,p k<B64)∧Dv p i'+b%B64^i'=a%B64^i'+c'*B64^i'∧wr.heap[w.heap.size]?=some (.cells (An a).toArray 24 (0,0))∧wr.heap[w.heap.size+1]?=some (.cells (An b).toArray 24 (0,0))∧wr.heap[w.heap.size+1+1]?=some (.cells (CD p).toArray 24 (0,0))∧Below w.heap.size w wr) (fun _ i _=>4-(intOf i).toNat)
 case atStart=>exact⟨0,0,fun _=>0,by omega,rfl,rfl,by omega,fun _=>B9,by simp[Dv,Nat.mod_one],x0,x1,x2,x3⟩
 case round =>
  clear x0 x1 x2 x3
  obtain⟨i,c,p,hi,rfl,rfl,hc,hp,hV,y0,y1,y2,hb⟩:=hrel
  by_cases hlt:i<4
  ·have p1:(i:Int)<4:=by omega
   obtain⟨hv,hc1,hs1⟩:=ay a b i c p hc hV
   have HV:=Lh hv
   have HPP:=Lh hp
   have c0:=(Af y0 (Ai a i hlt)).1
   have c1:=(Af y1 (Ai b i hlt)).1
   obtain⟨c2,f2⟩:=Af y2 (Cs p i hlt)
   have WA:=fun w=>ip (wd a i) (wd b i) c w hc
   have hset:=AF (i:=i) y2 (.int .u64 (L3 (wd a i) (wd b i) c:Int))
   rw[PY p i _ hlt] at hset
   have HSET:=Lh hset
   have Y0:=Lh y0
   have Y1:=Lh y1
   clear hv hV hp y0 y1 y2 hset
   generalize hS:L3 (wd a i) (wd b i) c=S at *
   generalize hC:Qa (wd a i) (wd b i) c=C at *
   clear hS hC
   generalize wd a i=x at *
   generalize wd b i=y at *
   generalize p i=z at c2
   have o5:IntKind.i64.wrap ((i:Int)+1)=(i:Int)+1:=IntWalk.i64_in _ (by omega)
   have k0:∀ v,(wr.setCell ⟨w.heap.size+1+1,i,none⟩ v).cell? ⟨w.heap.size,i,none⟩=some (.int .u64 (x:Int)):=fun v=>(World.cell?_setCell_far wr ⟨w.heap.size+1+1,i,none⟩ ⟨w.heap.size,i,none⟩ v (by show w.heap.size+1+1≠w.heap.size;omega)).trans c0
   have k1:∀ v,(wr.setCell ⟨w.heap.size+1+1,i,none⟩ v).cell? ⟨w.heap.size+1,i,none⟩=some (.int .u64 (y:Int)):=fun v=>(World.cell?_setCell_far wr ⟨w.heap.size+1+1,i,none⟩ ⟨w.heap.size+1,i,none⟩ v (by show w.heap.size+1+1≠w.heap.size+1;omega)).trans c1
   have k2:∀ v,∃ u,(wr.setCell ⟨w.heap.size+1+1,i,none⟩ v).cell? ⟨w.heap.size+1+1,i,none⟩=some u:=fun v=>⟨v,World.cell?_setCell_same wr _ v c2⟩
   have k3:∀ v,(wr.setCell ⟨w.heap.size+1+1,i,none⟩ v).frozen? ⟨w.heap.size+1+1,i,none⟩=false:=fun v=>by rw[World.frozen?_setCell];exact f2
   go_wp2_with fail
   go_region_held3 (fun w'=>w'.cell? ⟨w.heap.size,i,none⟩=some (.int .u64 (x:Int))∧w'.cell? ⟨w.heap.size+1,i,none⟩=some (.int .u64 (y:Int))∧(∃ v,w'.cell? ⟨w.heap.size+1+1,i,none⟩=some v)∧w'.frozen? ⟨w.heap.size+1+1,i,none⟩=false) (first | exact⟨c0,c1,⟨_,c2⟩,f2⟩ | exact⟨k0 _,k1 _,k2 _,k3 _⟩ | go_keep) (first
    | (go_at_call 173;go_must (refine (WA _).mono ?_);rintro e w' ⟨rfl,rfl⟩))
   go_wp2_with fail
   go_roundw
   case rel =>
    refine⟨i+1,C,upd p i S,by omega,congrArg (Value.int .i64) (by omega),rfl,hc1,Ph HPP.out hs1,HV.out,?_,?_,HSET.out,(hb.setCell (p:=⟨w.heap.size+1+1,i,none⟩) (by show w.heap.size≤w.heap.size+1+1;omega) _).drew⟩
    ·exact (Below.heap_setCell wr ⟨w.heap.size+1+1,i,none⟩ (.int .u64 (S:Int)) w.heap.size (by show w.heap.size≠w.heap.size+1+1;omega)).trans Y0.out
    ·exact (Below.heap_setCell wr ⟨w.heap.size+1+1,i,none⟩ (.int .u64 (S:Int)) (w.heap.size+1) (by show w.heap.size+1≠w.heap.size+1+1;omega)).trans Y1.out
   case measure=>simp[intOf];omega
  ·obtain rfl:i=4:=by omega
   have p1:¬ ((4:Nat):Int)<4:=by omega
   have HV:=Lh hV
   have HPP:=Lh hp
   obtain⟨d0,e0⟩:=Af y2 (Cs p 0 (by omega))
   obtain⟨d1,e1⟩:=Af y2 (Cs p 1 (by omega))
   obtain⟨d2,e2⟩:=Af y2 (Cs p 2 (by omega))
   obtain⟨d3,e3⟩:=Af y2 (Cs p 3 (by omega))
   have v1:=AF (i:=3) (AF (i:=2) (AF (i:=1) (AF (i:=0) y2 (.int .u64 (p 0:Int))) (.int .u64 (p 1:Int))) (.int .u64 (p 2:Int))) (.int .u64 (p 3:Int))
   have q2:((((CD p).set 0 (.int .u64 (p 0:Int))).set 1 (.int .u64 (p 1:Int))).set 2 (.int .u64 (p 2:Int))).set 3 (.int .u64 (p 3:Int))=CD p:=rfl
   rw[q2] at v1
   have V1:=Lh v1
   have bl:∀ (W':World) (q k:Nat) (x:Value),w.heap.size≤q→Below w.heap.size w W'→Below w.heap.size w (W'.setCell ⟨q,k,none⟩ x):=fun W' q k x hq h=>h.setCell (p:=⟨q,k,none⟩) hq x
   have BB:=Lh (bl _ (w.heap.size+1+1) 3 (.int .u64 (p 3:Int)) (by omega) (bl _ (w.heap.size+1+1) 2 (.int .u64 (p 2:Int)) (by omega) (bl _ (w.heap.size+1+1) 1 (.int .u64 (p 1:Int)) (by omega) (bl _ (w.heap.size+1+1) 0 (.int .u64 (p 0:Int)) (by omega) hb))))
   clear hV hp y0 y1 y2 q2 v1 bl
   go_wp2_with fail
   obtain⟨Y,hY⟩:=exza ((((wr.setCell ⟨w.heap.size+1+1,0,none⟩ (.int .u64 (p 0:Int))).setCell ⟨w.heap.size+1+1,1,none⟩ (.int .u64 (p 1:Int))).setCell ⟨w.heap.size+1+1,2,none⟩ (.int .u64 (p 2:Int))).setCell ⟨w.heap.size+1+1,3,none⟩ (.int .u64 (p 3:Int)))
   have v1:=V1.out
   have bb:=BB.out
   rw[← hY] at v1 bb ⊢
   clear hY V1 BB
   have kl:=run_loadVar_row (P:=Tryz.prog) Y (w.heap.size+1+1) 24 24 _ (0,0) _ v1 Tryz.underlying24 rfl (by kernel_rfl)
   exact bodyPost_ret (v:=.tuple #[.agg (CD p).toArray,.int .u64 (c:Int)]) (AC Tryz.results150 (by rfl) (by rfl) kl) rfl ⟨p,HPP.out,c,hc,HV.out,rfl,bb⟩
theorem CA (n i:Nat):wd n (i+1)=wd (n/B64) i:=by
 have:=Mi n i 1
 rw[Nat.pow_one,Nat.add_comm] at this
 exact this.symm
theorem EI (n:Nat):wd n 0=n%B64:=by unfold wd;rw[Nat.pow_zero,Nat.div_one]
def BS (a b:Nat):Nat:=(a+b)%B64^4
def DV (a b:Nat):Nat:=(a+b)/B64^4
def Fq (a b:Nat):Nat:=if a<b then a+B64^4-b else a-b
def Hm (a b:Nat):Nat:=if a<b then 1 else 0
theorem aV (a b c v:Nat) (ha:a<B64^4) (hb:b<B64^4) (hv:v<B64^4) (h:v+c*B64^4=a%B64^4+b%B64^4):v=BS a b∧c=DV a b:=by
 rw[Nat.mod_eq_of_lt ha,Nat.mod_eq_of_lt hb] at h
 unfold BS DV
 rw[← h,Nat.add_mul_mod_self_right,Nat.mod_eq_of_lt hv,Nat.add_mul_div_right _ _ (Nat.pow_pos B9),Nat.div_eq_of_lt hv]
 exact⟨rfl,by omega⟩
theorem cV (a b c v:Nat) (ha:a<B64^4) (hb:b<B64^4) (hc:c≤1) (hv:v<B64^4) (h:v+b%B64^4=a%B64^4+c*B64^4):v=Fq a b∧c=Hm a b:=by
 rw[Nat.mod_eq_of_lt ha,Nat.mod_eq_of_lt hb] at h
 unfold Fq Hm
 generalize B64^4=T at *
 have hc2:c=0∨c=1:=by omega
 rcases hc2 with rfl | rfl
 ·rw[if_neg (by omega),if_neg (by omega)];omega
 ·rw[if_pos (by omega),if_pos (by omega)];omega
theorem V2 (a b:Nat) (w:World) (ha:a<B64^4) (hb:b<B64^4) :
    Calls Tryz.prog 150 #[.agg #[.int .u64 (wd a 0:Int),.int .u64 (wd a 1:Int),.int .u64 (wd a 2:Int),.int .u64 (wd a 3:Int)],.agg #[.int .u64 (wd b 0:Int),.int .u64 (wd b 1:Int),.int .u64 (wd b 2:Int),.int .u64 (wd b 3:Int)],.func (.func 151) #[] #[]] w fun e w'=>e=.returned (.tuple #[.agg #[.int .u64 (wd (BS a b) 0:Int),.int .u64 (wd (BS a b) 1:Int),.int .u64 (wd (BS a b) 2:Int),.int .u64 (wd (BS a b) 3:Int)],.int .u64 (DV a b:Int)])∧Below w.heap.size w w':=by
 refine (ZC a b w).mono ?_
 rintro e w' ⟨p,c,hp,hc,hV,rfl,hbl⟩
 obtain⟨h1,h2⟩:=aV a b c (Dv p 4) ha hb (Js p hp 4) hV
 refine⟨?_,hbl⟩
 rw[Q5 p (BS a b) hp h1,h2]
 rfl
theorem IB (a b:Nat) (w:World) (ha:a<B64^4) (hb:b<B64^4) :
    Calls Tryz.prog 102 #[Aa a,Aa b] w fun e w'=>e=.returned (.tuple #[Aa (BS a b),.int .u64 (DV a b:Int)])∧Below w.heap.size w w':=by
 have JA:=fun w=>V2 a b w ha hb
 rw[show Aa a=.agg #[.int .u64 (wd a 0:Int),.int .u64 (wd a 1:Int),.int .u64 (wd a 2:Int),.int .u64 (wd a 3:Int)] from rfl,show Aa b=.agg #[.int .u64 (wd b 0:Int),.int .u64 (wd b 1:Int),.int .u64 (wd b 2:Int),.int .u64 (wd b 3:Int)] from rfl]
 generalize hR:BS a b=R at JA ⊢
 generalize hK:DV a b=K at JA ⊢
 have HJ:=Lh JA
 clear JA hR hK ha hb
 have x2:(((w.alloc (.cells (An a).toArray 24)).alloc (.cells (An b).toArray 24)).alloc (.cells (CD fun _=>0).toArray 24)).heap[w.heap.size+1+1]?=some (.cells (CD fun _=>0).toArray 24 (0,0)):=by
  have:=Aj ((w.alloc (.cells (An a).toArray 24)).alloc (.cells (An b).toArray 24)) (.cells (CD fun _=>0).toArray 24)
  simp only[Ae] at this
  exact this
 have x3:Below w.heap.size w (((w.alloc (.cells (An a).toArray 24)).alloc (.cells (An b).toArray 24)).alloc (.cells (CD fun _=>0).toArray 24)):=Al (Al (Al (Below.refl _ _) _) _) _
 have x4:(((w.alloc (.cells (An a).toArray 24)).alloc (.cells (An b).toArray 24)).alloc (.cells (CD fun _=>0).toArray 24)).heap.size=w.heap.size+3:=by simp only[Ae]
 have X2:=Lh x2
 have X3:=Lh x3
 have X4:=Lh x4
 clear x2 x3 x4
 go_enter Tryz.func102,Tryz.ntmps102
 go_wp2_with fail
 go_at_call 150
 change Calls _ _ _ (((w.alloc (.cells (An a).toArray 24)).alloc (.cells (An b).toArray 24)).alloc (.cells (CD fun _=>0).toArray 24)) _
 generalize ((w.alloc (.cells (An a).toArray 24)).alloc (.cells (An b).toArray 24)).alloc (.cells (CD fun _=>0).toArray 24)=X at *
 refine (HJ.out X).mono ?_
 rintro e w1 ⟨rfl,hb1⟩
 have y2:=(hb1.block (w.heap.size+1+1) (by have:=X4.out;omega)).trans X2.out
 have hb:Below w.heap.size w w1:=X3.out.trans (hb1.mono (by have:=X4.out;omega))
 clear X2 X3 hb1 HJ
 obtain⟨d0,e0⟩:=Af y2 (Cs (fun _=>0) 0 (by omega))
 obtain⟨d1,e1⟩:=Af y2 (Cs (fun _=>0) 1 (by omega))
 obtain⟨d2,e2⟩:=Af y2 (Cs (fun _=>0) 2 (by omega))
 obtain⟨d3,e3⟩:=Af y2 (Cs (fun _=>0) 3 (by omega))
 have v1:=AF (i:=3) (AF (i:=2) (AF (i:=1) (AF (i:=0) y2 (.int .u64 (wd R 0:Int))) (.int .u64 (wd R 1:Int))) (.int .u64 (wd R 2:Int))) (.int .u64 (wd R 3:Int))
 have q2:((((CD fun _=>0).set 0 (.int .u64 (wd R 0:Int))).set 1 (.int .u64 (wd R 1:Int))).set 2 (.int .u64 (wd R 2:Int))).set 3 (.int .u64 (wd R 3:Int))=An R:=rfl
 rw[q2] at v1
 have V1:=Lh v1
 have bl:∀ (W':World) (q k:Nat) (x:Value),w.heap.size≤q→Below w.heap.size w W'→Below w.heap.size w (W'.setCell ⟨q,k,none⟩ x):=fun W' q k x hq h=>h.setCell (p:=⟨q,k,none⟩) hq x
 have BB:=Lh (bl _ (w.heap.size+1+1) 3 (.int .u64 (wd R 3:Int)) (by omega) (bl _ (w.heap.size+1+1) 2 (.int .u64 (wd R 2:Int)) (by omega) (bl _ (w.heap.size+1+1) 1 (.int .u64 (wd R 1:Int)) (by omega) (bl _ (w.heap.size+1+1) 0 (.int .u64 (wd R 0:Int)) (by omega) hb))))
 clear y2 q2 v1 bl
 go_wp2_with fail
 obtain⟨Y,hY⟩:=exza ((((w1.setCell ⟨w.heap.size+1+1,0,none⟩ (.int .u64 (wd R 0:Int))).setCell ⟨w.heap.size+1+1,1,none⟩ (.int .u64 (wd R 1:Int))).setCell ⟨w.heap.size+1+1,2,none⟩ (.int .u64 (wd R 2:Int))).setCell ⟨w.heap.size+1+1,3,none⟩ (.int .u64 (wd R 3:Int)))
 have v1:=V1.out
 have bb:=BB.out
 rw[← hY] at v1 bb ⊢
 clear hY V1 BB
 have kl:=run_loadVar_row (P:=Tryz.prog) Y (w.heap.size+1+1) 24 24 _ (0,0) _ v1 Tryz.underlying24 rfl (by kernel_rfl)
 exact bodyPost_ret (v:=.tuple #[.agg (An R).toArray,.int .u64 (K:Int)]) (AC Tryz.results102 (by rfl) (by rfl) kl) rfl ⟨rfl,bb⟩
theorem Vn (a b:Nat) (w:World) (ha:a<B64^4) (hb:b<B64^4) :
    Calls Tryz.prog 150 #[.agg #[.int .u64 (wd a 0:Int),.int .u64 (wd a 1:Int),.int .u64 (wd a 2:Int),.int .u64 (wd a 3:Int)],.agg #[.int .u64 (wd b 0:Int),.int .u64 (wd b 1:Int),.int .u64 (wd b 2:Int),.int .u64 (wd b 3:Int)],.func (.func 173) #[] #[]] w fun e w'=>e=.returned (.tuple #[.agg #[.int .u64 (wd (Fq a b) 0:Int),.int .u64 (wd (Fq a b) 1:Int),.int .u64 (wd (Fq a b) 2:Int),.int .u64 (wd (Fq a b) 3:Int)],.int .u64 (Hm a b:Int)])∧Below w.heap.size w w':=by
 refine (ZU a b w).mono ?_
 rintro e w' ⟨p,c,hp,hc,hV,rfl,hbl⟩
 obtain⟨h1,h2⟩:=cV a b c (Dv p 4) ha hb hc (Js p hp 4) hV
 refine⟨?_,hbl⟩
 rw[Q5 p (Fq a b) hp h1,h2]
 rfl
theorem Oy (a b:Nat) (w:World) (ha:a<B64^4) (hb:b<B64^4) :
    Calls Tryz.prog 134 #[Aa a,Aa b] w fun e w'=>e=.returned (.tuple #[Aa (Fq a b),.int .u64 (Hm a b:Int)])∧Below w.heap.size w w':=by
 have JA:=fun w=>Vn a b w ha hb
 rw[show Aa a=.agg #[.int .u64 (wd a 0:Int),.int .u64 (wd a 1:Int),.int .u64 (wd a 2:Int),.int .u64 (wd a 3:Int)] from rfl,show Aa b=.agg #[.int .u64 (wd b 0:Int),.int .u64 (wd b 1:Int),.int .u64 (wd b 2:Int),.int .u64 (wd b 3:Int)] from rfl]
 generalize hR:Fq a b=R at JA ⊢
 generalize hK:Hm a b=K at JA ⊢
 have HJ:=Lh JA
 clear JA hR hK ha hb
 have x2:(((w.alloc (.cells (An a).toArray 24)).alloc (.cells (An b).toArray 24)).alloc (.cells (CD fun _=>0).toArray 24)).heap[w.heap.size+1+1]?=some (.cells (CD fun _=>0).toArray 24 (0,0)):=by
  have:=Aj ((w.alloc (.cells (An a).toArray 24)).alloc (.cells (An b).toArray 24)) (.cells (CD fun _=>0).toArray 24)
  simp only[Ae] at this
  exact this
 have x3:Below w.heap.size w (((w.alloc (.cells (An a).toArray 24)).alloc (.cells (An b).toArray 24)).alloc (.cells (CD fun _=>0).toArray 24)):=Al (Al (Al (Below.refl _ _) _) _) _
 have x4:(((w.alloc (.cells (An a).toArray 24)).alloc (.cells (An b).toArray 24)).alloc (.cells (CD fun _=>0).toArray 24)).heap.size=w.heap.size+3:=by simp only[Ae]
 have X2:=Lh x2
 have X3:=Lh x3
 have X4:=Lh x4
 clear x2 x3 x4
 go_enter Tryz.func134,Tryz.ntmps134
 go_wp2_with fail
 go_at_call 150
 change Calls _ _ _ (((w.alloc (.cells (An a).toArray 24)).alloc (.cells (An b).toArray 24)).alloc (.cells (CD fun _=>0).toArray 24)) _
 generalize ((w.alloc (.cells (An a).toArray 24)).alloc (.cells (An b).toArray 24)).alloc (.cells (CD fun _=>0).toArray 24)=X at *
 refine (HJ.out X).mono ?_
 rintro e w1 ⟨rfl,hb1⟩
 have y2:=(hb1.block (w.heap.size+1+1) (by have:=X4.out;omega)).trans X2.out
 have hb:Below w.heap.size w w1:=X3.out.trans (hb1.mono (by have:=X4.out;omega))
 clear X2 X3 hb1 HJ
 obtain⟨d0,e0⟩:=Af y2 (Cs (fun _=>0) 0 (by omega))
 obtain⟨d1,e1⟩:=Af y2 (Cs (fun _=>0) 1 (by omega))
 obtain⟨d2,e2⟩:=Af y2 (Cs (fun _=>0) 2 (by omega))
 obtain⟨d3,e3⟩:=Af y2 (Cs (fun _=>0) 3 (by omega))
 have v1:=AF (i:=3) (AF (i:=2) (AF (i:=1) (AF (i:=0) y2 (.int .u64 (wd R 0:Int))) (.int .u64 (wd R 1:Int))) (.int .u64 (wd R 2:Int))) (.int .u64 (wd R 3:Int))
 have q2:((((CD fun _=>0).set 0 (.int .u64 (wd R 0:Int))).set 1 (.int .u64 (wd R 1:Int))).set 2 (.int .u64 (wd R 2:Int))).set 3 (.int .u64 (wd R 3:Int))=An R:=rfl
 rw[q2] at v1
 have V1:=Lh v1
 have bl:∀ (W':World) (q k:Nat) (x:Value),w.heap.size≤q→Below w.heap.size w W'→Below w.heap.size w (W'.setCell ⟨q,k,none⟩ x):=fun W' q k x hq h=>h.setCell (p:=⟨q,k,none⟩) hq x
 have BB:=Lh (bl _ (w.heap.size+1+1) 3 (.int .u64 (wd R 3:Int)) (by omega) (bl _ (w.heap.size+1+1) 2 (.int .u64 (wd R 2:Int)) (by omega) (bl _ (w.heap.size+1+1) 1 (.int .u64 (wd R 1:Int)) (by omega) (bl _ (w.heap.size+1+1) 0 (.int .u64 (wd R 0:Int)) (by omega) hb))))
 clear y2 q2 v1 bl
 go_wp2_with fail
 obtain⟨Y,hY⟩:=exza ((((w1.setCell ⟨w.heap.size+1+1,0,none⟩ (.int .u64 (wd R 0:Int))).setCell ⟨w.heap.size+1+1,1,none⟩ (.int .u64 (wd R 1:Int))).setCell ⟨w.heap.size+1+1,2,none⟩ (.int .u64 (wd R 2:Int))).setCell ⟨w.heap.size+1+1,3,none⟩ (.int .u64 (wd R 3:Int)))
 have v1:=V1.out
 have bb:=BB.out
 rw[← hY] at v1 bb ⊢
 clear hY V1 BB
 have kl:=run_loadVar_row (P:=Tryz.prog) Y (w.heap.size+1+1) 24 24 _ (0,0) _ v1 Tryz.underlying24 rfl (by kernel_rfl)
 exact bodyPost_ret (v:=.tuple #[.agg (An R).toArray,.int .u64 (K:Int)]) (AC Tryz.results134 (by rfl) (by rfl) kl) rfl ⟨rfl,bb⟩
theorem bE (w:World) (x0 x1 x2 x3 y0 y1 y2 y3:Int):(Op.equalIn 10000 24 (.agg #[.int .u64 x0,.int .u64 x1,.int .u64 x2,.int .u64 x3]) (.agg #[.int .u64 y0,.int .u64 y1,.int .u64 y2,.int .u64 y3])).run Tryz.prog w=.ok (x0 == y0 && (x1 == y1 && (x2 == y2 && x3 == y3))) w:=by
 have he:∀ (a b:Int) (w:World),(Op.equalIn 9999 22 (.int .u64 a) (.int .u64 b)).run Tryz.prog w=.ok (a == b) w:=fun a b w=>run_equalIn_int w 9998 22 .u64 .u64 a b Tryz.underlying22
 rw[show (10000:Nat)=9999+1 from rfl,Op.equalIn]
 simp only[Sem.run_bind,run_underlying Tryz.underlying24,Result.andThen_ok]
 have hp:∀ (v:Value) (k:Nat) (xs:Array Value) (w:World),xs[k]?=some v→(part 22 xs k).run Tryz.prog w=.ok v w:=fun v k xs w h=>by
  simp only[part]
  go_simp
 have hz:∀ w,(sizeOf 22).run Tryz.prog w=.ok 1 w:=Tryz.sizeOf22
 rw[hz]
 simp only[Result.andThen_ok]
 rw[Std.Legacy.Range.forIn_eq_forIn_range']
 simp[Std.Legacy.Range.size,List.range']
 have a0:=fun w=>hp (.int .u64 x0) 0 #[.int .u64 x0,.int .u64 x1,.int .u64 x2,.int .u64 x3] w rfl
 have b0:=fun w=>hp (.int .u64 y0) 0 #[.int .u64 y0,.int .u64 y1,.int .u64 y2,.int .u64 y3] w rfl
 have a1:=fun w=>hp (.int .u64 x1) 1 #[.int .u64 x0,.int .u64 x1,.int .u64 x2,.int .u64 x3] w rfl
 have b1:=fun w=>hp (.int .u64 y1) 1 #[.int .u64 y0,.int .u64 y1,.int .u64 y2,.int .u64 y3] w rfl
 have a2:=fun w=>hp (.int .u64 x2) 2 #[.int .u64 x0,.int .u64 x1,.int .u64 x2,.int .u64 x3] w rfl
 have b2:=fun w=>hp (.int .u64 y2) 2 #[.int .u64 y0,.int .u64 y1,.int .u64 y2,.int .u64 y3] w rfl
 have a3:=fun w=>hp (.int .u64 x3) 3 #[.int .u64 x0,.int .u64 x1,.int .u64 x2,.int .u64 x3] w rfl
 have b3:=fun w=>hp (.int .u64 y3) 3 #[.int .u64 y0,.int .u64 y1,.int .u64 y2,.int .u64 y3] w rfl
 simp only[a0,b0,a1,b1,a2,b2,a3,b3,he,Result.andThen_ok]
 generalize (x0 == y0)=c0
 generalize (x1 == y1)=c1
 generalize (x2 == y2)=c2
 generalize (x3 == y3)=c3
 cases c0 <;> cases c1 <;> cases c2 <;> cases c3 <;> simp
theorem Ap {P:Program} {fn:Func} {tmps:Array Value} {w:World} {v:Value} {a t b:Nat} (h:fn.results=#[.cell a t]) (ha:tmps.getD a undef=.pointer (some ⟨b,0,none⟩)) (hl:(loadVar t ⟨b,0,none⟩).run P w=.ok v w):(results fn tmps).run P w=.ok v w:=by
 rw[Array.getD_eq_getD_getElem?] at ha
 simp only[results,h]
 simp[asAddr,ha,hl]
theorem MY (a:Nat) (ha:a<18446744073709551616):(An a).toArray=#[.int .u64 (a:Int),.int .u64 0,.int .u64 0,.int .u64 0]:=by
 have e0:wd a 0=a:=by rw[EI];exact Nat.mod_eq_of_lt ha
 have ek:∀ k,1≤k→wd a k=0:=fun k hk=>by
  obtain⟨j,rfl⟩:∃ j,k=j+1:=⟨k-1,by omega⟩
  have:a/B64=0:=Nat.div_eq_of_lt ha
  rw[CA,this]
  simp[wd]
 unfold An
 rw[e0,ek 1 (by omega),ek 2 (by omega),ek 3 (by omega)]
 rfl
theorem FJ (a:Nat) (w:World) (ha:a<18446744073709551616) :
    Calls Tryz.prog 38 #[.int .u64 (a:Int)] w fun e w'=>e=.returned (Aa a)∧Below w.heap.size w w':=by
 have kl:=run_loadVar_row (P:=Tryz.prog) (w.alloc (.cells (An a).toArray 24)) w.heap.size 24 24 _ (0,0) _ (Aj _ _) Tryz.underlying24 rfl (by kernel_rfl)
 rw[show Aa a=.agg (An a).toArray from rfl]
 rw[MY a ha] at kl ⊢
 have KL:=Lh kl
 clear kl
 go_enter Tryz.func38,Tryz.ntmps38
 go_wp2_with fail
 exact bodyPost_ret (v:=.agg #[.int .u64 (a:Int),.int .u64 0,.int .u64 0,.int .u64 0]) (Ap Tryz.results38 (by rfl) KL.out) rfl ⟨rfl,Al (Below.refl _ _) _⟩
def CF (n i:Nat):Nat:=n/2^i%2
theorem bU (m r:Nat) (hr:r<64):m%B64/2^r%2=m/2^r%2:=by
 have h1:=Nat.testBit_mod_two_pow m 64 r
 rw[Nat.testBit_eq_decide_div_mod_eq,Nat.testBit_eq_decide_div_mod_eq,decide_eq_true hr,Bool.true_and,decide_eq_decide] at h1
 have h2:m%B64/2^r%2<2:=Nat.mod_lt _ (by decide)
 have h3:m/2^r%2<2:=Nat.mod_lt _ (by decide)
 have h4:B64=2^64:=rfl
 rw[← h4] at h1
 omega
theorem Yy (n i:Nat):wd n (i/64)/2^(i%64)%2=CF n i:=by
 unfold wd CF
 rw[bU _ _ (Nat.mod_lt _ (by decide)),Nat.div_div_eq_div_mul]
 have:B64^(i/64)*2^(i%64)=2^i:=by
  rw[show B64=2^64 from rfl,← Nat.pow_mul,← Nat.pow_add,Nat.div_add_mod]
 rw[this]
theorem EK (n i:Nat):CF n i<2:=Nat.mod_lt _ (by decide)
theorem Ji (n i:Nat) (w:World) (hi:i<256) :
    Calls Tryz.prog 29 #[Aa n,.int .i64 (i:Int)] w fun e w'=>e=.returned (.int .u64 (CF n i:Int))∧Below w.heap.size w w':=by
 rw[show Aa n=.agg #[.int .u64 (wd n 0:Int),.int .u64 (wd n 1:Int),.int .u64 (wd n 2:Int),.int .u64 (wd n 3:Int)] from rfl]
 have x0:(w.alloc (.cells (An n).toArray 24)).heap[w.heap.size]?=some (.cells (An n).toArray 24 (0,0)):=Aj _ _
 have x1:Below w.heap.size w (w.alloc (.cells (An n).toArray 24)):=Al (Below.refl _ _) _
 obtain⟨Q,hQ⟩:=exzb (i/64)
 obtain⟨r,hr⟩:=exzb (i%64)
 have t1:(i:Int).tdiv 64=(Q:Int):=by rw[Int.tdiv_eq_ediv_of_nonneg (by omega)];omega
 have t2:(i:Int).tmod 64=(r:Int):=by rw[Int.tmod_eq_emod_of_nonneg (by omega)];omega
 have d1:(i:Int)/64=(Q:Int):=by omega
 have d2:(i:Int)%64=(r:Int):=by omega
 have hb:=Yy n i
 rw[hQ,hr] at hb
 have hw:=Cb n Q
 obtain⟨c0,_⟩:=Af x0 (Ai n Q (by omega))
 have q4:(Q:Int)<4:=by omega
 have nQ:(Q:Int).toNat=Q:=by omega
 have nr:(r:Int).toNat=r:=by omega
 have i9:(i:Int)≤255:=by omega
 have r9:(r:Int)<64:=by omega
 have HB:=Lh hb
 have hand:bits .and .u64 (((wd n Q/2^r:Nat)):Int) 1=((wd n Q/2^r%2:Nat):Int):=by
  have hlt:wd n Q/2^r<18446744073709551616:=Nat.lt_of_le_of_lt (Nat.div_le_self _ _) hw
  have:=bits_and_u64_nat (wd n Q/2^r) 1 (by omega) (by omega)
  rw[Nat.and_one_is_mod] at this
  exact this
 have ps:(wd n Q:Int)/2^r=((wd n Q/2^r:Nat):Int):=by
  have e2:((2:Int)^r)=((2^r:Nat):Int):=by rw[Int.natCast_pow];rfl
  rw[e2,← Int.natCast_ediv]
 have kq:([.int .u64 (wd n 0:Int),.int .u64 (wd n 1:Int),.int .u64 (wd n 2:Int),.int .u64 (wd n 3:Int)]:List Value)[Q]?=some (.int .u64 (wd n Q:Int)):=Ai n Q (by omega)
 have X0:=Lh x0
 clear hQ hr hb x0 c0
 generalize wd n Q=x at *
 generalize x/2^r=y at *
 go_enter Tryz.func29,Tryz.ntmps29
 go_wp2_with fail
 go_ret
 exact⟨BE (by have:=HB.out;omega),x1⟩
def leN:List UInt8→Nat
 | []=>0
 | b::t=>b.toNat+256*leN t
theorem J9:∀ l:List UInt8,leN l<256^l.length
 | []=>by decide
 | b::t=>by
   have h1:=J9 t
   have h2:=b.toNat_lt
   rw[leN,List.length_cons,Nat.pow_succ]
   omega
theorem Pc:∀ (l:List UInt8) (k:Nat),leN l/256^k%256=(l.getD k 0).toNat
 | [],k=>by simp[leN]
 | b::t,0=>by
   have h2:=b.toNat_lt
   simp only[leN,Nat.pow_zero,Nat.div_one,List.getD_cons_zero]
   omega
 | b::t,k+1=>by
   have h1:=Pc t k
   have h2:=b.toNat_lt
   rw[leN,Nat.pow_succ,Nat.mul_comm (256^k),← Nat.div_div_eq_div_mul,List.getD_cons_succ,← h1]
   congr 2
   omega
theorem Gh (s:ByteArray) (w:World) (hs:s.size=32) :
    Calls Tryz.prog 28 #[.string s] w fun e w'=>e=.returned (.tuple #[Aa (leN s.data.toList),.int .i64 0])∧Below w.heap.size w w':=by
 have hsI:(s.size:Int)=32:=by omega
 have xr:((w.alloc (.cells (An 0).toArray 24)).alloc (.cells (An 0).toArray 24)).heap[w.heap.size]?=some (.cells (An 0).toArray 24 (0,0)):=by
  rw[AQ _ _ _ (by rw[Ae];omega),Aj]
 have x0:((w.alloc (.cells (An 0).toArray 24)).alloc (.cells (An 0).toArray 24)).heap[w.heap.size+1]?=some (.cells (An 0).toArray 24 (0,0)):=by
  have:=Aj (w.alloc (.cells (An 0).toArray 24)) (.cells (An 0).toArray 24)
  rw[Ae] at this
  exact this
 have xb:Below w.heap.size w ((w.alloc (.cells (An 0).toArray 24)).alloc (.cells (An 0).toArray 24)):=Al (Al (Below.refl _ _) _) _
 go_enter Tryz.func28,Tryz.ntmps28
 go_wp2_with fail
 change Code.wp _ _ _ _ ((w.alloc (.cells (An 0).toArray 24)).alloc (.cells (An 0).toArray 24))
 generalize (w.alloc (.cells (An 0).toArray 24)).alloc (.cells (An 0).toArray 24)=X at *
 obtain⟨v,hv⟩:=exzb (leN s.data.toList)
 have HV:∀ k,Hid (v/256^k%256=(s.data.toList.getD k 0).toNat):=fun k=>by
  show v/256^k%256=_
  rw[← hv];exact Pc _ _
 have HL:=Lh (show v<256^32 from by
  rw[← hv]
  have:=J9 s.data.toList
  rwa [show s.data.toList.length=32 from hs] at this)
 have HV0:=Lh hv
 clear hv
 go_loopw [10] (fun i wr=>∃ k:Nat,k≤32∧i=.int .i64 (k:Int)∧wr.heap[w.heap.size]?=some (.cells (An 0).toArray 24 (0,0))∧wr.heap[w.heap.size+1]?=some (.cells (An (v%256^k)).toArray 24 (0,0))∧Below w.heap.size w wr) (fun i _=>32-(intOf i).toNat)
 case atStart=>exact⟨0,by omega,rfl,xr,by rw[Nat.pow_zero,Nat.mod_one];exact x0,xb⟩
 case round =>
  clear xr x0 xb
  obtain⟨k,hk,rfl,yr,y0,hb⟩:=hrel
  by_cases hlt:k<32
  ·have k1:(k:Int)<32:=by omega
   have k2:k<s.size:=by omega
   have hd:v/256^k%256<256:=Nat.mod_lt _ (by decide)
   obtain⟨Q,hQ⟩:=exzb (k/8)
   obtain⟨r,hr⟩:=exzb (k%8)
   have t1:(k:Int).tdiv 8=(Q:Int):=by rw[Int.tdiv_eq_ediv_of_nonneg (by omega)];omega
   have t2:(k:Int).tmod 8=(r:Int):=by rw[Int.tmod_eq_emod_of_nonneg (by omega)];omega
   have d1:(k:Int)/8=(Q:Int):=by omega
   have d2:(k:Int)%8=(r:Int):=by omega
   have q4:(Q:Int)<4:=by omega
   have r4:(r:Int)<8:=by omega
   have n1:(Q:Int).toNat=Q:=by omega
   have n2:(8*(r:Int)).toNat=8*r:=by omega
   have n3:8*(r:Int)<64:=by omega
   obtain⟨g1,g2,g3⟩:=Rb v 8 8 k rfl (by omega)
   rw[hQ,hr] at g1
   rw[hr] at g2
   rw[hQ] at g3
   obtain⟨c1,f1⟩:=Af y0 (Ai (v%256^k) Q (by omega))
   have hw:=Cb (v%256^k) Q
   have HY:=Lh y0
   have HR:=Lh yr
   have G1:=Lh g1
   have G2:=Lh g2
   have G3:=Lh g3
   clear g1 g2 g3 y0 yr hQ hr
   obtain⟨D,hD⟩:=exzb (v/256^k%256)
   have HD:=Lh hD
   have HDB:=Lh ((HV k).out.symm.trans hD)
   rw[hD] at hd
   generalize hW:wd (v%256^k) Q=W0 at c1 hw
   have HW:=Lh hW
   clear hD hW
   obtain⟨NW,hNW⟩:=exzb (wd (v%256^(k+1)) Q)
   have hor:=QQ W0 D (8*r) hw (by have h:=G2.out;rw[show v/(2^8)^k%2^8=D from HD.out] at h;exact h)
   have hNW2:W0 ||| D <<< (8*r)=NW:=by
    have h:=G1.out
    rw[show v/(2^8)^k%2^8=D from HD.out,show wd (v%(2^8)^k) Q=W0 from HW.out] at h
    rw[← hNW];exact h.symm
   rw[hNW2] at hor
   have HNW:=Lh hNW
   clear hNW hNW2
   have HSET:=Lh (AF (i:=Q) HY.out (.int .u64 (NW:Int)))
   have r0:IntKind.i64.wrap (Q:Int)=Q:=IntWalk.i64_in _ (by omega)
   have r2:IntKind.i64.wrap (8*(r:Int))=8*(r:Int):=IntWalk.i64_in _ (by omega)
   have hsk:((s[k]'k2).toNat:Int)=(D:Int):=by
    have h:=HDB.out
    rw[← h]
    simp only[List.getD_eq_getElem?_getD,Array.getElem?_toList,ByteArray.getElem_eq_getElem_data]
    rw[Array.getElem?_eq_getElem (show k<s.data.size from k2)]
    rfl
   have r3:IntKind.u64.wrap (D:Int)=(D:Int):=IntWalk.u64_in _ (by omega)
   go_wp2_with fail
   go_region
   go_wp2_with fail
   go_roundw
   case rel =>
    refine⟨k+1,by omega,by go_num,?_,?_,(hb.setCell (p:=⟨w.heap.size+1,Q,none⟩) (by show w.heap.size≤w.heap.size+1;omega) _).drew⟩
    ·exact (Below.heap_setCell wr ⟨w.heap.size+1,Q,none⟩ _ w.heap.size (by show w.heap.size≠w.heap.size+1;omega)).trans HR.out
    ·have e:An (v%256^(k+1))=(An (v%256^k)).set Q (.int .u64 (NW:Int)):=by
       rw[← HNW.out]
       exact Ud (by omega) (fun j hj=>G3.out j hj)
     rw[e]
     exact HSET.out
   case measure=>simp[intOf];omega
  ·obtain rfl:k=32:=by omega
   have HE:=Lh (show Aa (leN s.data.toList)=.agg (An (v%256^32)).toArray from by rw[HV0.out,Nat.mod_eq_of_lt HL.out];rfl)
   obtain⟨y,hy⟩:=exzb (v%256^32)
   rw[hy] at y0 HE
   clear hy
   have a0:=(Af y0 (Ai y 0 (by omega))).1
   have a1:=(Af y0 (Ai y 1 (by omega))).1
   have a2:=(Af y0 (Ai y 2 (by omega))).1
   have a3:=(Af y0 (Ai y 3 (by omega))).1
   obtain⟨d0,e0⟩:=Af yr (Ai 0 0 (by omega))
   obtain⟨d1,e1⟩:=Af yr (Ai 0 1 (by omega))
   obtain⟨d2,e2⟩:=Af yr (Ai 0 2 (by omega))
   obtain⟨d3,e3⟩:=Af yr (Ai 0 3 (by omega))
   have v1:=AF (i:=3) (AF (i:=2) (AF (i:=1) (AF (i:=0) yr (.int .u64 (wd y 0:Int))) (.int .u64 (wd y 1:Int))) (.int .u64 (wd y 2:Int))) (.int .u64 (wd y 3:Int))
   have q2:((((An 0).set 0 (.int .u64 (wd y 0:Int))).set 1 (.int .u64 (wd y 1:Int))).set 2 (.int .u64 (wd y 2:Int))).set 3 (.int .u64 (wd y 3:Int))=An y:=rfl
   rw[q2] at v1
   have V1:=Lh v1
   have bl:∀ (W':World) (q k:Nat) (x:Value),w.heap.size≤q→Below w.heap.size w W'→Below w.heap.size w (W'.setCell ⟨q,k,none⟩ x):=fun W' q k x hq h=>h.setCell (p:=⟨q,k,none⟩) hq x
   have BB:=Lh (bl _ w.heap.size 3 (.int .u64 (wd y 3:Int)) (by omega) (bl _ w.heap.size 2 (.int .u64 (wd y 2:Int)) (by omega) (bl _ w.heap.size 1 (.int .u64 (wd y 1:Int)) (by omega) (bl _ w.heap.size 0 (.int .u64 (wd y 0:Int)) (by omega) hb))))
   clear y0 yr q2 v1 bl
   generalize (wd 0 0:Int)=z0 at d0
   generalize (wd 0 1:Int)=z1 at d1
   generalize (wd 0 2:Int)=z2 at d2
   generalize (wd 0 3:Int)=z3 at d3
   go_wp2_with fail
   obtain⟨Y,hY⟩:=exza ((((wr.setCell ⟨w.heap.size,0,none⟩ (.int .u64 (wd y 0:Int))).setCell ⟨w.heap.size,1,none⟩ (.int .u64 (wd y 1:Int))).setCell ⟨w.heap.size,2,none⟩ (.int .u64 (wd y 2:Int))).setCell ⟨w.heap.size,3,none⟩ (.int .u64 (wd y 3:Int)))
   have v1:=V1.out
   have bb:=BB.out
   rw[← hY] at v1 bb ⊢
   clear hY V1 BB
   have kl:=run_loadVar_row (P:=Tryz.prog) Y w.heap.size 24 24 _ (0,0) _ v1 Tryz.underlying24 rfl (by kernel_rfl)
   exact bodyPost_ret (v:=.tuple #[.agg (An y).toArray,.int .i64 0]) (AC Tryz.results28 (by rfl) (by rfl) kl) rfl ⟨by rw[HE.out],bb⟩
theorem UK (n i:Nat):wd n (i/8)/2^(8*(i%8))%256=n/256^i%256:=by
 unfold wd
 have hp:=J0 8 8 i rfl
 rw[show (256:Nat)^i=(2^8)^i from rfl,hp,← Nat.div_div_eq_div_mul]
 generalize n/B64^(i/8)=m
 have hr:i%8<8:=Nat.mod_lt _ (by decide)
 generalize i%8=r at *
 unfold B64
 have:r=0∨r=1∨r=2∨r=3∨r=4∨r=5∨r=6∨r=7:=by omega
 rcases this with rfl | rfl | rfl | rfl | rfl | rfl | rfl | rfl
 ·simp
 ·rw[show 2^(8*1)=256 from rfl];omega
 ·rw[show 2^(8*2)=65536 from rfl];omega
 ·rw[show 2^(8*3)=16777216 from rfl];omega
 ·rw[show 2^(8*4)=4294967296 from rfl];omega
 ·rw[show 2^(8*5)=1099511627776 from rfl];omega
 ·rw[show 2^(8*6)=281474976710656 from rfl];omega
 ·rw[show 2^(8*7)=72057594037927936 from rfl];omega
def JZ (p:Nat→Nat) (N:Nat):List Value:=(List.range N).map fun k=>.int .u8 (p k:Int)
theorem QY (p:Nat→Nat) (N k:Nat) (h:k<N):(JZ p N)[k]?=some (.int .u8 (p k:Int)):=by
 unfold JZ
 rw[List.getElem?_map,List.getElem?_range h]
 rfl
theorem aq (p:Nat→Nat) (N i x:Nat):(JZ p N).set i (.int .u8 (x:Int))=JZ (upd p i x) N:=by
 unfold JZ
 refine List.ext_getElem (by simp) fun j h1 h2=>?_
 rw[List.getElem_set]
 simp only[List.getElem_map,List.getElem_range]
 unfold upd
 by_cases e:i=j
 ·rw[if_pos e,if_pos e.symm]
 ·rw[if_neg e,if_neg (fun h=>e h.symm)]
def byL (n:Nat):List UInt8:=(List.range 32).map fun i=>UInt8.ofNat (n/256^i%256)
theorem Er (n:Nat) (w:World) :
    Calls Tryz.prog 31 #[Aa n] w fun e w'=>e=.returned (.string ⟨(byL n).toArray⟩)∧Below w.heap.size w w':=by
 rw[show Aa n=.agg #[.int .u64 (wd n 0:Int),.int .u64 (wd n 1:Int),.int .u64 (wd n 2:Int),.int .u64 (wd n 3:Int)] from rfl]
 have x0:((w.alloc (.cells (An n).toArray 24)).alloc (.cells (JZ (fun _=>0) 32).toArray 108)).heap[w.heap.size]?=some (.cells (An n).toArray 24 (0,0)):=by
  rw[AQ _ _ _ (by rw[Ae];omega),Aj]
 have x1:((w.alloc (.cells (An n).toArray 24)).alloc (.cells (JZ (fun _=>0) 32).toArray 108)).heap[w.heap.size+1]?=some (.cells (JZ (fun _=>0) 32).toArray 108 (0,0)):=by
  have:=Aj (w.alloc (.cells (An n).toArray 24)) (.cells (JZ (fun _=>0) 32).toArray 108)
  rw[Ae] at this
  exact this
 have xb:Below w.heap.size w ((w.alloc (.cells (An n).toArray 24)).alloc (.cells (JZ (fun _=>0) 32).toArray 108)):=Al (Al (Below.refl _ _) _) _
 go_enter Tryz.func31,Tryz.ntmps31
 go_wp2_with fail
 change Code.wp _ _ _ _ ((w.alloc (.cells (An n).toArray 24)).alloc (.cells (JZ (fun _=>0) 32).toArray 108))
 generalize (w.alloc (.cells (An n).toArray 24)).alloc (.cells (JZ (fun _=>0) 32).toArray 108)=X at *
 go_loopw [5] (fun i wr=>∃ k:Nat,∃ p:Nat→Nat,k≤32∧i=.int .i64 (k:Int)∧(∀ j,j<k→p j=n/256^j%256)∧wr.heap[w.heap.size]?=some (.cells (An n).toArray 24 (0,0))∧wr.heap[w.heap.size+1]?=some (.cells (JZ p 32).toArray 108 (0,0))∧Below w.heap.size w wr) (fun i _=>32-(intOf i).toNat)
 case atStart=>exact⟨0,fun _=>0,by omega,rfl,fun j h=>absurd h (by omega),x0,x1,xb⟩
 case round =>
  clear x0 x1 xb
  obtain⟨k,p,hk,rfl,hp,y0,y1,hb⟩:=hrel
  by_cases hlt:k<32
  ·have k1:(k:Int)<32:=by omega
   obtain⟨Q,hQ⟩:=exzb (k/8)
   obtain⟨r,hr⟩:=exzb (k%8)
   have t1:(k:Int).tdiv 8=(Q:Int):=by rw[Int.tdiv_eq_ediv_of_nonneg (by omega)];omega
   have t2:(k:Int).tmod 8=(r:Int):=by rw[Int.tmod_eq_emod_of_nonneg (by omega)];omega
   have d1:(k:Int)/8=(Q:Int):=by omega
   have d2:(k:Int)%8=(r:Int):=by omega
   have q4:(Q:Int)<4:=by omega
   have r4:(r:Int)<8:=by omega
   have n1:(Q:Int).toNat=Q:=by omega
   have n2:(8*(r:Int)).toNat=8*r:=by omega
   have n3:8*(r:Int)<64:=by omega
   have hdg:=UK n k
   rw[hQ,hr] at hdg
   have c0:=(Af y0 (Ai n Q (by omega))).1
   obtain⟨c1,f1⟩:=Af y1 (QY p 32 k hlt)
   have ps:=Og (wd n Q) (8*r)
   obtain⟨E,hE⟩:=exzb (n/256^k%256)
   rw[hE] at hdg
   have HSET:=Lh (AF (i:=k) y1 (.int .u8 (E:Int)))
   have HP:=Lh hp
   have HY:=Lh y0
   have HD:=Lh hdg
   have HE:=Lh hE
   have hw:=Cb n Q
   have hy:wd n Q/2^(8*r)<18446744073709551616:=Nat.lt_of_le_of_lt (Nat.div_le_self _ _) hw
   clear hp y0 y1 hdg hQ hr hE
   generalize wd n Q=x at *
   generalize x/2^(8*r)=z at *
   generalize p k=u at c1
   go_wp2_with fail
   go_roundw
   case rel =>
    have e:(z:Int)%256=(E:Int):=by have:=HD.out;omega
    rw[e]
    refine⟨k+1,upd p k E,by omega,by go_num,fun j hj=>?_,?_,?_,hb.setCell (p:=⟨w.heap.size+1,k,none⟩) (by show w.heap.size≤w.heap.size+1;omega) _⟩
    ·unfold upd
     split
     ·rename_i h;rw[h];exact HE.out.symm
     ·exact HP.out j (by omega)
    ·exact (Below.heap_setCell wr ⟨w.heap.size+1,k,none⟩ _ w.heap.size (by show w.heap.size≠w.heap.size+1;omega)).trans HY.out
    ·rw[← aq];exact HSET.out
   case measure=>simp[intOf];omega
  ·obtain rfl:k=32:=by omega
   have hc:∀ j (hj:j<(byL n).length),wr.cell? ((⟨w.heap.size+1,0,none⟩:Addr).add j)=some (.int .u8 ((byL n)[j].toNat:Int)):=fun j hj=>by
    have hj':j<32:=by simpa [byL] using hj
    have hadd:(⟨w.heap.size+1,0,none⟩:Addr).add j=⟨w.heap.size+1,j,none⟩:=by unfold Addr.add;split <;> simp_all
    rw[hadd,(Af y1 (QY p 32 j hj')).1,hp j hj']
    simp[byL]
   have ks:=run_convert_bytes_back (P:=Tryz.prog) wr 90 9 5 ⟨w.heap.size+1,0,none⟩ 32 (byL n) Tryz.underlying90 Tryz.underlying5 Tryz.underlying9 hc
   rw[show (byL n).length=32 by simp[byL]] at ks
   clear hp y0 y1 hc
   generalize hL:byL n=L at *
   have HL:=Lh hL
   clear hL
   go_wp2_with fail
   go_ret
   exact⟨cx (by rw[HL.out]),hb⟩
theorem Aq {w:World} {b:Nat} {t:TypeId} {v0 v1 v2 v3:Value} (h:w.heap[b]?=some (.cells #[v0,v1,v2,v3] t (0,0))) :
    (w.cell? ⟨b,0,none⟩=some v0∧w.cell? ⟨b,1,none⟩=some v1∧w.cell? ⟨b,2,none⟩=some v2∧w.cell? ⟨b,3,none⟩=some v3) ∧
    w.frozen? ⟨b,0,none⟩=false∧w.frozen? ⟨b,1,none⟩=false∧w.frozen? ⟨b,2,none⟩=false∧w.frozen? ⟨b,3,none⟩=false:=by
 have h':w.heap[b]?=some (.cells ([v0,v1,v2,v3]:List Value).toArray t (0,0)):=h
 exact⟨⟨(Af (i:=0) h' rfl).1,(Af (i:=1) h' rfl).1,(Af (i:=2) h' rfl).1,(Af (i:=3) h' rfl).1⟩,(Af (i:=0) h' rfl).2,(Af (i:=1) h' rfl).2,(Af (i:=2) h' rfl).2,(Af (i:=3) h' rfl).2⟩
theorem keep {w w':World} {b:Nat} {o:Obj} (r:w.heap[b]?=some o) (hb:Below w.heap.size w w'):w'.heap[b]?=some o:=(hb.block b (AU r)).trans r
theorem AP {w:World} {b:Nat} {o:Obj} (r:w.heap[b]?=some o) (z:Obj):(w.alloc z).heap[b]?=some o:=(AQ w z b (AU r)).trans r
theorem Gr {w:World} {b:Nat} {t:TypeId} {u0 u1 u2 u3 v0 v1 v2 v3:Value} (h:w.heap[b]?=some (.cells #[u0,u1,u2,u3] t (0,0))) :
    ((((w.setCell ⟨b,0,none⟩ v0).setCell ⟨b,1,none⟩ v1).setCell ⟨b,2,none⟩ v2).setCell ⟨b,3,none⟩ v3).heap[b]?=some (.cells #[v0,v1,v2,v3] t (0,0)):=by
 have h':w.heap[b]?=some (.cells ([u0,u1,u2,u3]:List Value).toArray t (0,0)):=h
 exact AF (i:=3) (AF (i:=2) (AF (i:=1) (AF (i:=0) h' v0) v1) v2) v3
theorem FU {w:World} {b c:Nat} {v0 v1 v2 v3:Value} (h:c≠b) :
    ((((w.setCell ⟨b,0,none⟩ v0).setCell ⟨b,1,none⟩ v1).setCell ⟨b,2,none⟩ v2).setCell ⟨b,3,none⟩ v3).heap[c]?=w.heap[c]?:=by
 rw[Below.heap_setCell _ ⟨b,3,none⟩ _ _ h,Below.heap_setCell _ ⟨b,2,none⟩ _ _ h,Below.heap_setCell _ ⟨b,1,none⟩ _ _ h,Below.heap_setCell _ ⟨b,0,none⟩ _ _ h]
theorem Bg {B:Nat} {w0 w:World} {b:Nat} {v0 v1 v2 v3:Value} (h:Below B w0 w) (hb:B≤b) :
    Below B w0 ((((w.setCell ⟨b,0,none⟩ v0).setCell ⟨b,1,none⟩ v1).setCell ⟨b,2,none⟩ v2).setCell ⟨b,3,none⟩ v3) :=
 (((h.setCell (p:=⟨b,0,none⟩) hb _).setCell (p:=⟨b,1,none⟩) hb _).setCell (p:=⟨b,2,none⟩) hb _).setCell (p:=⟨b,3,none⟩) hb _
theorem Dt {B:Nat} {w0 w1:World} (h:Below B w0 w1) (hs:B≤w1.heap.size) (o:Obj):Below B w0 (w1.alloc o):=h.alloc hs o
theorem jt {w:World} {b c:Nat} {v0 v1 v2 v3 x0 x1 x2 x3:Value} (h:w.cell? ⟨c,0,none⟩=some x0∧w.cell? ⟨c,1,none⟩=some x1∧w.cell? ⟨c,2,none⟩=some x2∧w.cell? ⟨c,3,none⟩=some x3) (hne:c≠b) :
    ((((w.setCell ⟨b,0,none⟩ v0).setCell ⟨b,1,none⟩ v1).setCell ⟨b,2,none⟩ v2).setCell ⟨b,3,none⟩ v3).cell? ⟨c,0,none⟩=some x0∧((((w.setCell ⟨b,0,none⟩ v0).setCell ⟨b,1,none⟩ v1).setCell ⟨b,2,none⟩ v2).setCell ⟨b,3,none⟩ v3).cell? ⟨c,1,none⟩=some x1 ∧
    ((((w.setCell ⟨b,0,none⟩ v0).setCell ⟨b,1,none⟩ v1).setCell ⟨b,2,none⟩ v2).setCell ⟨b,3,none⟩ v3).cell? ⟨c,2,none⟩=some x2∧((((w.setCell ⟨b,0,none⟩ v0).setCell ⟨b,1,none⟩ v1).setCell ⟨b,2,none⟩ v2).setCell ⟨b,3,none⟩ v3).cell? ⟨c,3,none⟩=some x3:=by
 have hf:∀ k,((((w.setCell ⟨b,0,none⟩ v0).setCell ⟨b,1,none⟩ v1).setCell ⟨b,2,none⟩ v2).setCell ⟨b,3,none⟩ v3).cell? ⟨c,k,none⟩=w.cell? ⟨c,k,none⟩:=fun k=>by
  have:=FU (w:=w) (b:=b) (c:=c) (v0:=v0) (v1:=v1) (v2:=v2) (v3:=v3) hne
  simp only[World.cell?,this]
 exact⟨(hf 0).trans h.1,(hf 1).trans h.2.1,(hf 2).trans h.2.2.1,(hf 3).trans h.2.2.2⟩
def IsA (w:World) (b n:Nat) (t:TypeId):Prop:=w.heap[b]?=some (.cells #[.int .u64 (wd n 0:Int),.int .u64 (wd n 1:Int),.int .u64 (wd n 2:Int),.int .u64 (wd n 3:Int)] t (0,0))
theorem IsA.keep {w w':World} {b n:Nat} {t:TypeId} (r:IsA w b n t) (hb:Below w.heap.size w w'):IsA w' b n t:=Go.Proofs.YtnaldciakclccaaGreat.keep r hb
theorem IsA.alloc {w:World} {b n:Nat} {t:TypeId} (r:IsA w b n t) (z:Obj):IsA (w.alloc z) b n t:=AP r z
theorem Cy (w:World) (z o:Obj):((w.alloc z).alloc o).heap[w.heap.size+1]?=some o:=by
 have:=Aj (w.alloc z) o
 rw[Ae] at this
 exact this
theorem aj (a b:Nat) (ha:a<B64^4) (hb:b<B64^4):Fq a b<B64^4:=by
 unfold Fq
 split <;> omega
theorem GU (w:World) (y z o:Obj):(((w.alloc y).alloc z).alloc o).heap[w.heap.size+1+1]?=some o:=by
 have:=Aj ((w.alloc y).alloc z) o
 rw[Ae,Ae] at this
 exact this
theorem IsA.drew {w:World} {b n:Nat} {t:TypeId} (r:IsA w b n t):IsA w.drew b n t:=r
theorem IsA.grown {w w':World} {b n:Nat} {t:TypeId} {o:Option Nat} (r:IsA w b n t) (h:w.grownBy w' o) (hne:some b≠o):IsA w' b n t:=(h.block b (AU r) hne).trans r
theorem IsA.far {w:World} {b c n:Nat} {t:TypeId} {v0 v1 v2 v3:Value} (r:IsA w b n t) (h:b≠c):IsA ((((w.setCell ⟨c,0,none⟩ v0).setCell ⟨c,1,none⟩ v1).setCell ⟨c,2,none⟩ v2).setCell ⟨c,3,none⟩ v3) b n t:=(FU h).trans r
theorem G4 (w:World) (n:Nat) (t:TypeId) (z:Obj):IsA ((w.alloc (.cells #[.int .u64 (wd n 0:Int),.int .u64 (wd n 1:Int),.int .u64 (wd n 2:Int),.int .u64 (wd n 3:Int)] t)).alloc z) w.heap.size n t:=AP (Aj w _) z
theorem S9 (w:World) (n:Nat) (t:TypeId) (z:Obj):IsA ((w.alloc z).alloc (.cells #[.int .u64 (wd n 0:Int),.int .u64 (wd n 1:Int),.int .u64 (wd n 2:Int),.int .u64 (wd n 3:Int)] t)) (w.heap.size+1) n t:=Cy w z _
theorem AN {w:World} {c n:Nat} {t:TypeId} {u0 u1 u2 u3:Value} (h:w.heap[c]?=some (.cells #[u0,u1,u2,u3] t (0,0))):IsA ((((w.setCell ⟨c,0,none⟩ (.int .u64 (wd n 0:Int))).setCell ⟨c,1,none⟩ (.int .u64 (wd n 1:Int))).setCell ⟨c,2,none⟩ (.int .u64 (wd n 2:Int))).setCell ⟨c,3,none⟩ (.int .u64 (wd n 3:Int))) c n t:=Gr h
theorem SJ (w:World) (c:Nat) {v0 v1 v2 v3:Value} (n:Nat) (t:TypeId):IsA (((((w.setCell ⟨c,0,none⟩ v0).setCell ⟨c,1,none⟩ v1).setCell ⟨c,2,none⟩ v2).setCell ⟨c,3,none⟩ v3).alloc (.cells #[.int .u64 (wd n 0:Int),.int .u64 (wd n 1:Int),.int .u64 (wd n 2:Int),.int .u64 (wd n 3:Int)] t)) w.heap.size n t:=by
 have sz:∀ (W:World) (a:Addr) (v:Value),(W.setCell a v).heap.size=W.heap.size:=fun W a v=>by show (W.heap.modify _ _).size=_;rw[Array.size_modify]
 have h:=Aj ((((w.setCell ⟨c,0,none⟩ v0).setCell ⟨c,1,none⟩ v1).setCell ⟨c,2,none⟩ v2).setCell ⟨c,3,none⟩ v3) (.cells #[.int .u64 (wd n 0:Int),.int .u64 (wd n 1:Int),.int .u64 (wd n 2:Int),.int .u64 (wd n 3:Int)] t)
 rw[sz,sz,sz,sz] at h
 exact h
theorem Hz (W:World) (a:Addr) (v:Value):(W.setCell a v).heap.size=W.heap.size:=by show (W.heap.modify _ _).size=_;rw[Array.size_modify]
end Go.Proofs.YtnaldciakclccaaGreat
