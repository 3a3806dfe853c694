/- Lemmas of this proof. -/
import Derived.Deep.LoopGhost
import Derived.Maps.AppendAt
import Derived.Test.YtnaldciakclccaaGreatEv15
namespace Go.Proofs.YtnaldciakclccaaGreat
set_option maxRecDepth 20000
set_option maxHeartbeats 8000000
set_option linter.unusedSimpArgs false
set_option linter.unusedVariables false
open Go.RowKit Go.Sort
def cB:Array Value:=(List.replicate 256 (Value.int .u64 0)).toArray
theorem hG (W:World):(Instr.alloc 190 true (.tuple #[])).run Tryz.prog W=.ok (.pointer (some ⟨W.heap.size,0,none⟩)) (W.alloc (.cells cB 190 (0,0))):=by
 kernel_rfl
theorem dh:De Tryz.prog 190 256:=⟨.inr ⟨_,_,Tryz.underlying190⟩,by kernel_rfl⟩
theorem bdT (a:N4) (W:World):(Instr.build 190 #[(0,pv4 a)]).run Tryz.prog W=.ok (.agg (pl4 a++List.replicate 240 (Value.int .u64 0)).toArray) W:=by
 kernel_rfl
theorem iv (a:N4):((pl4 a++List.replicate 240 (Value.int .u64 0)).toArray).all (·.oneCell')=true:=by
 kernel_rfl
theorem Zd (a:N4) (n:Nat):tab a (n+1)=MX (tab a n) a:=by rw[tab]
theorem Xz (a:N4):tab a 0=Cu:=by rw[tab]
def trow (a:N4) (j:Nat):Array Value:=(CT a (j+1)++List.replicate (16*(15-j)) (Value.int .u64 0)).toArray
theorem VY (a:N4):(pl4 Cu++List.replicate 240 (Value.int .u64 0)).toArray=trow a 0:=by
 unfold trow
 rw[Gk,Xz]
 rfl
theorem V9 (a:N4) (j:Nat) (h:j≤15):(trow a j).size=256:=by
 show (CT a (j+1)++List.replicate (16*(15-j)) (Value.int .u64 0)).toArray.size=256
 rw[List.size_toArray,List.length_append,CO,List.length_replicate]
 omega
theorem dD (a:N4) (j:Nat):((trow a j).toList.drop (16*j)).take (pc4 (tab a j)).size=(pc4 (tab a j)).toList:=Pq a (j+1) j (Nat.lt_succ_self _) _
theorem Zh (a:N4) (j:Nat) (h:j<15):(trow a j).toList.take (16*(j+1))++(pc4 (tab a (j+1))).toList++(trow a j).toList.drop (16*(j+1)+(pc4 (tab a (j+1))).size)=(trow a (j+1)).toList:=by
 show (CT a (j+1)++List.replicate (16*(15-j)) (Value.int .u64 0)).take (16*(j+1))++pl4 (tab a (j+1))++(CT a (j+1)++List.replicate (16*(15-j)) (Value.int .u64 0)).drop (16*(j+1)+16)=CT a (j+1+1)++List.replicate (16*(15-(j+1))) (Value.int .u64 0)
 rw[List.take_left' (CO a (j+1)),← List.drop_drop,List.drop_left' (CO a (j+1)),List.drop_replicate,Gk a (j+1)]
 congr 2
 omega
theorem Vs (a:N4):trow a 15=(CT a 16).toArray:=by
 unfold trow
 rw[show 16*(15-15)=0 from rfl,List.replicate_zero,List.append_nil]
theorem iw (b j:Nat) (hj:j<16) (n:Int) (hn:n=(j:Int)) (W:World):(Instr.indexAt 190 (.pointer (some ⟨b,0,none⟩)) (.int .i64 n)).run Tryz.prog W=.ok (.pointer (some ⟨b,16*j,none⟩)) W:=by
 subst hn
 have h1:(0:Int)≤(j:Int):=by omega
 have h2:(j:Int)<16:=by omega
 have e:(⟨b,0,none⟩:Addr).add (j*16)=⟨b,16*j,none⟩:=by unfold Addr.add;rw[Nat.mul_comm];split <;> simp_all
 go_simp
theorem VW (n:Int) (x y:Operand) (W:World):(do eqGuard .lss 3 x y (.int .i64 n) (.int .i64 16);binOp .lss 3 (.int .i64 n) (.int .i64 16):Sem Value).run Tryz.prog W=.ok (.bool (decide (n<16))) W:=by
 go_simp
theorem bm (n m:Int) (x y:Operand) (W:World) (h:n-1=m) (h0:0≤m) (h1:m≤1000000):(do eqGuard .sub 3 x y (.int .i64 n) (.int .i64 1);binOp .sub 3 (.int .i64 n) (.int .i64 1):Sem Value).run Tryz.prog W=.ok (.int .i64 m) W:=by
 have e:IntKind.i64.wrap (n-1)=m:=by rw[IntWalk.i64_in _ (by omega)];exact h
 clear h
 go_simp
theorem c9 (n m:Int) (x y:Operand) (W:World) (h:n+1=m) (h0:0≤m) (h1:m≤1000000):(do eqGuard .add 3 x y (.int .i64 n) (.int .i64 1);binOp .add 3 (.int .i64 n) (.int .i64 1):Sem Value).run Tryz.prog W=.ok (.int .i64 m) W:=by
 have e:IntKind.i64.wrap (n+1)=m:=by rw[IntWalk.i64_in _ (by omega)];exact h
 clear h
 go_simp
theorem TV (a:N4):∀ n,((CT a n).toArray).all (·.oneCell')=true
 | 0=>by
   unfold CT
   simp
 | n+1=>by
   have h1:=TV a n
   have h2:=Cf (tab a n)
   rw[Gk]
   simp only[List.all_toArray,List.all_append,Bool.and_eq_true] at h1 h2 ⊢
   exact⟨h1,by simpa [pc4] using h2⟩
theorem Lp (a:N4):((CT a 16).toArray).all (·.oneCell')=true:=TV a 16
theorem Gd {a:N4} {p:Pt} (ha:Ok4 a p) (w:World):Calls Tryz.prog 158 #[pv4 a,.func (.func 157) #[Aa dN] #[]] w fun E w'=>E=.returned (.agg (CT a 16).toArray)∧Below w.heap.size w w':=by
 have HMIX:=Lh (show Tryz.prog.follows .mixedOrders=true by kernel_rfl)
 go_enter Tryz.func158,Tryz.ntmps158
 have hM0:=Mem.start w
 (go_step;go_step;refine wp_region_lit ?_)
 refine At hM0 (ob:=.cells ((pc4 a)) 39 (0,0)) (fun W=>AK rfl rfl (TY _ W)) rfl fun b1 W1 hM1=>?_
 simp only[nmA]
 refine At hM1 (ob:=.cells cB 190 (0,0)) (fun W=>Ab rfl (hG W)) rfl fun b2 W2 hM2=>?_
 simp only[nmA]
 refine wpList_nil ?_
 ((iterate 3 go_step);refine wp_region_lit ?_)
 refine Ah hM2 (args:=#[]) (v:=pv4 Cu) (rcf (enters_of Tryz.func27 rfl rfl)) (Ik W2) rfl fun W3 hM3=>?_
 simp only[nmA]
 refine Ac (v:=.agg (pl4 Cu++List.replicate 240 (Value.int .u64 0)).toArray) (fun W=>Bq rfl (by simp[Act.eval]) (bdT Cu W)) rfl ?_
 simp only[nmA]
 refine At hM3 (ob:=.cells cB 190 (0,0)) (fun W=>Ab rfl (hG W)) rfl fun b3 W4 hM4=>?_
 simp only[nmA]
 refine Av hM4 0 (cs:=((pl4 Cu++List.replicate 240 (Value.int .u64 0)).toArray)) rfl rfl rfl rfl dh rfl (iv _) rfl rfl fun W5 hM5=>?_
 simp only[nm2,nm3] at hM5
 refine wpList_nil ?_
 ((iterate 4 go_step);refine wp_region_lit ?_)
 refine Ad (.int .i64 1) ?_
 simp only[nmA]
 refine wpList_nil ?_
 rw[VY a] at hM5
 ((iterate 3 go_step);go_loopw [6] (fun i wr=>∃ j:Nat,j≤15∧i=.int .i64 ((j:Int)+1)∧Mem w [(b3,.cells (trow a j) 190 (0,0)),(b2,.cells cB 190 (0,0)),(b1,.cells ((pc4 a)) 39 (0,0))] wr) (fun i _=>(17-Go.RowKit.intOf i).toNat))
 case atStart=>exact⟨0,by omega,rfl,hM5⟩
 case round =>
  obtain⟨j,hj,rfl,hR⟩:=hrel
  clear hM1 hM2 hM3 hM4 hM5
  obtain⟨n,hn⟩:∃ n:Int,n=(j:Int)+1:=⟨_,rfl⟩
  rw[← hn]
  ((iterate 3 go_step);refine wp_region_lit ?_)
  refine Ad (.int .i64 n) ?_
  simp only[nmA]
  obtain⟨c1,hc1⟩:=exza (decide (n<16))
  refine Ac (v:=.bool c1) (fun W=>Ag rfl rfl rfl (by rw[hc1];exact VW n _ _ W)) rfl ?_
  simp only[nmA]
  refine wpList_nil ?_
  cases c1
  ·skip
   have hj15:j=15:=by
    have h9:=of_decide_eq_false hc1.symm
    omega
   subst hj15
   rw[Vs a] at hR
   ((iterate 9 go_step);refine wp_region_lit ?_)
   refine AD hR 0 (v:=.agg (CT a 16).toArray) rfl rfl rfl rfl dh rfl ?_
   simp only[nmA]
   refine Av hR 1 (cs:=((CT a 16).toArray)) rfl rfl rfl rfl dh rfl (Lp a) rfl rfl fun W7 hM7=>?_
   simp only[nm2,nm3] at hM7
   refine wpList_nil ?_
   ((iterate 3 go_step);refine bodyPost_ret (v:=.agg (CT a 16).toArray) (Ap Tryz.results158 rfl (hM7.load 1 rfl dh)) rfl ⟨?_,hM7.below⟩)
   exact rfl
  ·skip
   have hj15:j<15:=by
    have h9:=of_decide_eq_true hc1.symm
    omega
   obtain⟨m,em⟩:∃ m:Int,m=(j:Int):=⟨_,rfl⟩
   have hnm:n-1=m:=by omega
   obtain⟨j1,ej1⟩:=exza (j+1)
   obtain⟨n2,en2⟩:∃ m:Int,m=n+1:=⟨_,rfl⟩
   have hn2:n+1=n2:=en2.symm
   have KA:=Lh (fun W=>Ip (ED ha j) ha W)
   rw[← Zd] at KA
   obtain⟨tj,etj⟩:=exza (tab a j)
   obtain⟨tj1,etj1⟩:=exza (tab a (j+1))
   rw[← etj,← etj1] at KA
   ((iterate 8 go_step);refine Ak 9 HMIX.out (by decide) (by kernel_rfl) (by kernel_rfl) ?_)
   refine AM (.int .i64 n) ?_;simp only[nmA]
   refine AM (.func (.func 157) #[Aa dN] #[]) ?_;simp only[nmA]
   refine AM (.int .i64 n) ?_;simp only[nmA]
   refine As (v:=.int .i64 m) (fun W=>Ag rfl rfl rfl (bm n m _ _ W hnm (by omega) (by omega))) rfl rfl ?_;simp only[nmA]
   refine As (v:=.pointer (some ⟨b3,16*j,none⟩)) (fun W=>Ar rfl rfl rfl (iw b3 j (by omega) m (by omega) W)) rfl rfl ?_;simp only[nmA]
   refine BJ hR 0 (v:=pv4 tj) (sub:=((pc4 tj))) rfl rfl rfl rfl (by rw[etj];exact dD a j) AS rfl rfl ?_;simp only[nmA]
   refine Ao hR 2 (v:=pv4 a) rfl rfl rfl rfl AS rfl rfl ?_;simp only[nmA]
   refine Am (args:=#[Aa dN,pv4 tj,pv4 a]) (v:=pv4 tj1) (fun W=>Ca W (enters_of Tryz.func157 rfl rfl) rfl rfl (by simp[Act.eval];rfl) rfl) (fun W _=>KA.out W) rfl rfl ?_;simp only[nmA]
   refine As (v:=.pointer (some ⟨b3,16*j1,none⟩)) (fun W=>Ar rfl rfl rfl (iw b3 j1 (by omega) n (by omega) W)) rfl rfl ?_;simp only[nmA]
   refine AO fun d os=>?_
   refine Az fun hap=>?_
   have hM7:=hR.calls (below_regrown wr d os)
   clear hap 
   generalize grow (redrawn wr d) os=W7 at hM7 ⊢
   change wpAny _ _ _ _ 1 _ _ _
   refine Qr (n:=9) (by kernel_rfl) rfl hM7 0 (sub:=((pc4 tj1))) (new:=(trow a j1)) rfl rfl rfl rfl (by rw[V9 a j (by omega)];show 16*j1+16≤256;omega) (by rw[ej1,etj1];exact Zh a j hj15) AS (Cf _) rfl rfl fun W8 hM8=>?_
   simp only[nm2,nm3] at hM8
   refine wpAny_done (by kernel_rfl) ?_ _
   (go_step;go_step;refine wp_region_lit ?_)
   refine Ad (.int .i64 n) ?_
   simp only[nmA]
   refine Ac (v:=.int .i64 n2) (fun W=>Ag rfl rfl rfl (c9 n n2 _ _ W hn2 (by omega) (by omega))) rfl ?_
   simp only[nmA]
   refine Ad (.int .i64 n2) ?_
   simp only[nmA]
   refine wpList_nil ?_
   go_roundw
   case rel =>
    refine⟨_,_,_,_,_,_,_,_,_,_,_,_,_,_,?_,rfl⟩
    refine⟨j1,by omega,congrArg (Value.int .i64) (by omega),?_⟩
    exact hM8
   case measure=>simp[Go.RowKit.intOf];omega
def tmL (k:Nat) (a:N4):List Value:=[.int .u64 (wd k 0:Int),.int .u64 (wd k 1:Int),.int .u64 (wd k 2:Int),.int .u64 (wd k 3:Int)]++pl4 a
def z20:Array Value:=(List.replicate 20 (Value.int .u64 0)).toArray
theorem JN (k:Nat) (a:N4):((tmL k a).toArray).all (·.oneCell')=true:=by kernel_rfl
theorem NY (W:World):(Instr.alloc 139 true (.tuple #[])).run Tryz.prog W=.ok (.pointer (some ⟨W.heap.size,0,none⟩)) (W.alloc (.cells z20 139 (0,0))):=by
 kernel_rfl
theorem Hg:De Tryz.prog 139 20:=⟨.inl ⟨_,Tryz.underlying139⟩,by kernel_rfl⟩
theorem Oj:Di Tryz.prog 184:=⟨⟨_,Tryz.underlying184,rfl⟩,by kernel_rfl⟩
theorem Ic:Di Tryz.prog 185:=⟨⟨_,Tryz.underlying185,rfl⟩,by kernel_rfl⟩
theorem G5:Di Tryz.prog 189:=⟨⟨_,Tryz.underlying189,rfl⟩,by kernel_rfl⟩
theorem JS (b:Nat) (W:World):(Instr.fieldAt 139 (.pointer (some ⟨b,0,none⟩)) 0).run Tryz.prog W=.ok (.pointer (some ⟨b,0,none⟩)) W:=by
 go_simp
theorem R0 (b:Nat) (W:World):(Instr.fieldAt 139 (.pointer (some ⟨b,0,none⟩)) 1).run Tryz.prog W=.ok (.pointer (some ⟨b,4,none⟩)) W:=by
 go_simp
theorem aw (b off j:Nat) (hj:j<16) (W:World):(Instr.indexAt 190 (.pointer (some ⟨b,off,none⟩)) (.int .u64 (j:Int))).run Tryz.prog W=.ok (.pointer (some ⟨b,off+16*j,none⟩)) W:=by
 have h1:(0:Int)≤(j:Int):=by omega
 have h2:(j:Int)<16:=by omega
 have e:(⟨b,off,none⟩:Addr).add (j*16)=⟨b,off+16*j,none⟩:=by unfold Addr.add;rw[Nat.mul_comm];split <;> simp_all
 go_simp
theorem ff (g cap:Nat) (W:World):(Instr.indexAt 189 (.slice (some ⟨g,0,none⟩) 1 cap) (.int .i64 0)).run Tryz.prog W=.ok (.pointer (some ⟨g,0,none⟩)) W:=by
 go_simp
theorem cu (g cap:Nat) (W:World):(Instr.indexAt 189 (.slice (some ⟨g,0,none⟩) 2 cap) (.int .i64 0)).run Tryz.prog W=.ok (.pointer (some ⟨g,0,none⟩)) W:=by
 go_simp
theorem cm (g cap:Nat) (W:World):(Instr.indexAt 189 (.slice (some ⟨g,0,none⟩) 2 cap) (.int .i64 1)).run Tryz.prog W=.ok (.pointer (some ⟨g,256,none⟩)) W:=by
 go_simp
theorem QW (a:N4) (j:Nat) (hj:j<16) (r:List Value):(((CT a 16++r).toArray).toList.drop (0+16*j)).take (pc4 (tab a j)).size=(pc4 (tab a j)).toList:=by
 rw[Nat.zero_add]
 exact Pq a 16 j hj r
theorem Vk (a b:N4) (j:Nat) (hj:j<16) (r:List Value):(((CT a 16++(CT b 16++r)).toArray).toList.drop (256+16*j)).take (pc4 (tab b j)).size=(pc4 (tab b j)).toList:=by
 show ((CT a 16++(CT b 16++r)).drop (256+16*j)).take 16=pl4 (tab b j)
 rw[← List.drop_drop,List.drop_left' (CO a 16)]
 exact Pq b 16 j hj r
theorem UV (w0 w:World) (g b8 gt b5 b3 b2 b1 cap s:Nat) (r:List Value) {a:N4} {p:Pt} (ha:Ok4 a p) (k:Nat) {o:N4} {po:Pt} (ho:Ok4 o po) (hs:s≤63) (hg:w0.heap[g]?=some (.cells (tmL k a).toArray 139 (0,0))) (hM:Mem w0 [(b8,.cells (pc4 o) 39 (0,0)),(gt,.cells ((CT a 16++r).toArray) 190 (0,0)),(b5,.cells #[.slice (some ⟨gt,0,none⟩) 1 cap] 189 (0,0)),(b3,.cells (#[Value.func (.func 157) #[Aa dN] #[]]) 185 (0,0)),(b2,.cells z16 39 (0,0)),(b1,.cells #[.slice (some ⟨g,0,none⟩) 1 1] 184 (0,0))] w) :
    Calls Tryz.prog 160 #[.int .i64 (s:Int),.pointer (some ⟨b8,0,none⟩),.pointer (some ⟨b1,0,none⟩),.pointer (some ⟨b3,0,none⟩),.pointer (some ⟨b5,0,none⟩)] w fun E w'=>E=.returned (.tuple #[])∧Mem w0 [(b8,.cells (pc4 (F8 k a o s)) 39 (0,0)),(gt,.cells ((CT a 16++r).toArray) 190 (0,0)),(b5,.cells #[.slice (some ⟨gt,0,none⟩) 1 cap] 189 (0,0)),(b3,.cells (#[Value.func (.func 157) #[Aa dN] #[]]) 185 (0,0)),(b2,.cells z16 39 (0,0)),(b1,.cells #[.slice (some ⟨g,0,none⟩) 1 1] 184 (0,0))] w':=by
 have HMIX:=Lh (show Tryz.prog.follows .mixedOrders=true by kernel_rfl)
 obtain⟨jk,ejk⟩:=exza (k/16^s%16)
 have hjk:jk<16:=by rw[ejk];exact Nat.mod_lt _ (by decide)
 obtain⟨ta,eta⟩:=exza (tab a jk)
 have kta:=ED ha jk
 rw[← eta] at kta
 have KBk:=Lh (fun W=>I3 k s hs W)
 rw[← ejk] at KBk
 go_enter Tryz.func160,Tryz.ntmps160
 ((iterate 3 go_step);refine wp_region_lit ?_)
 refine Ad (.int .i64 0) ?_
 simp only[nmA]
 refine wpList_nil ?_
 ((iterate 3 go_step);refine wp_loop_rounds 5 ?_)
 rw[rounds_succ]
 (go_step;refine wp_region_lit ?_)
 refine Ac (v:=.bool true) (fun W=>by go_simp) rfl ?_
 simp only[nmA]
 refine wpList_nil ?_
 ((iterate 9 go_step);refine wp_region_lit ?_)
 refine AD hM 0 (v:=pv4 o) rfl rfl rfl rfl AS rfl ?_
 simp only[nmA]
 obtain⟨o1,eo1⟩:=exza (IX o)
 have ko1:=Ek ho
 rw[← eo1] at ko1
 have Ko1:=Lh (fun W=>F9 ho W)
 rw[← eo1] at Ko1
 refine Ah hM (args:=#[pv4 o]) (v:=pv4 o1) (rcf (enters_of Tryz.func161 rfl rfl)) (Ko1.out w) rfl fun W1 hM1=>?_
 simp only[nmA]
 refine Av hM1 0 (cs:=((pc4 o1))) rfl rfl rfl rfl AS rfl (Cf _) rfl rfl fun W2 hM2=>?_
 simp only[nm2,nm3] at hM2
 refine wpList_nil ?_
 (go_step;go_step;refine wp_region_lit ?_)
 refine Ac (v:=.int .i64 1) (fun W=>by go_simp;decide) rfl ?_
 simp only[nmA]
 refine Ad (.int .i64 1) ?_
 simp only[nmA]
 refine wpList_nil ?_
 go_step
 rw[rounds_succ]
 (go_step;refine wp_region_lit ?_)
 refine Ac (v:=.bool true) (fun W=>by go_simp) rfl ?_
 simp only[nmA]
 refine wpList_nil ?_
 ((iterate 9 go_step);refine wp_region_lit ?_)
 refine AD hM2 0 (v:=pv4 o1) rfl rfl rfl rfl AS rfl ?_
 simp only[nmA]
 obtain⟨o2,eo2⟩:=exza (IX o1)
 have ko2:=Ek ko1
 rw[← eo2] at ko2
 have Ko2:=Lh (fun W=>F9 ko1 W)
 rw[← eo2] at Ko2
 refine Ah hM2 (args:=#[pv4 o1]) (v:=pv4 o2) (rcf (enters_of Tryz.func161 rfl rfl)) (Ko2.out W2) rfl fun W3 hM3=>?_
 simp only[nmA]
 refine Av hM3 0 (cs:=((pc4 o2))) rfl rfl rfl rfl AS rfl (Cf _) rfl rfl fun W4 hM4=>?_
 simp only[nm2,nm3] at hM4
 refine wpList_nil ?_
 (go_step;go_step;refine wp_region_lit ?_)
 refine Ac (v:=.int .i64 2) (fun W=>by go_simp;decide) rfl ?_
 simp only[nmA]
 refine Ad (.int .i64 2) ?_
 simp only[nmA]
 refine wpList_nil ?_
 go_step
 rw[rounds_succ]
 (go_step;refine wp_region_lit ?_)
 refine Ac (v:=.bool true) (fun W=>by go_simp) rfl ?_
 simp only[nmA]
 refine wpList_nil ?_
 ((iterate 9 go_step);refine wp_region_lit ?_)
 refine AD hM4 0 (v:=pv4 o2) rfl rfl rfl rfl AS rfl ?_
 simp only[nmA]
 obtain⟨o3,eo3⟩:=exza (IX o2)
 have ko3:=Ek ko2
 rw[← eo3] at ko3
 have Ko3:=Lh (fun W=>F9 ko2 W)
 rw[← eo3] at Ko3
 refine Ah hM4 (args:=#[pv4 o2]) (v:=pv4 o3) (rcf (enters_of Tryz.func161 rfl rfl)) (Ko3.out W4) rfl fun W5 hM5=>?_
 simp only[nmA]
 refine Av hM5 0 (cs:=((pc4 o3))) rfl rfl rfl rfl AS rfl (Cf _) rfl rfl fun W6 hM6=>?_
 simp only[nm2,nm3] at hM6
 refine wpList_nil ?_
 (go_step;go_step;refine wp_region_lit ?_)
 refine Ac (v:=.int .i64 3) (fun W=>by go_simp;decide) rfl ?_
 simp only[nmA]
 refine Ad (.int .i64 3) ?_
 simp only[nmA]
 refine wpList_nil ?_
 go_step
 rw[rounds_succ]
 (go_step;refine wp_region_lit ?_)
 refine Ac (v:=.bool true) (fun W=>by go_simp) rfl ?_
 simp only[nmA]
 refine wpList_nil ?_
 ((iterate 9 go_step);refine wp_region_lit ?_)
 refine AD hM6 0 (v:=pv4 o3) rfl rfl rfl rfl AS rfl ?_
 simp only[nmA]
 obtain⟨o4,eo4⟩:=exza (IX o3)
 have ko4:=Ek ko3
 rw[← eo4] at ko4
 have Ko4:=Lh (fun W=>F9 ko3 W)
 rw[← eo4] at Ko4
 refine Ah hM6 (args:=#[pv4 o3]) (v:=pv4 o4) (rcf (enters_of Tryz.func161 rfl rfl)) (Ko4.out W6) rfl fun W7 hM7=>?_
 simp only[nmA]
 refine Av hM7 0 (cs:=((pc4 o4))) rfl rfl rfl rfl AS rfl (Cf _) rfl rfl fun W8 hM8=>?_
 simp only[nm2,nm3] at hM8
 refine wpList_nil ?_
 (go_step;go_step;refine wp_region_lit ?_)
 refine Ac (v:=.int .i64 4) (fun W=>by go_simp;decide) rfl ?_
 simp only[nmA]
 refine Ad (.int .i64 4) ?_
 simp only[nmA]
 refine wpList_nil ?_
 go_step
 rw[rounds_succ]
 (go_step;refine wp_region_lit ?_)
 refine Ac (v:=.bool false) (fun W=>by go_simp) rfl ?_
 simp only[nmA]
 refine wpList_nil ?_
 ((iterate 8 go_step);refine wp_region_lit ?_)
 refine Bc hM8 5 (v:=.slice (some ⟨g,0,none⟩) 1 1) rfl rfl rfl rfl Oj rfl ?_
 simp only[nmA]
 refine Ac (v:=.int .i64 1) (fun W=>by go_simp) rfl ?_
 simp only[nmA]
 refine Ad (.int .i64 0) ?_
 simp only[nmA]
 refine wpList_nil ?_
 ((iterate 3 go_step);refine wp_loop_rounds 2 ?_)
 rw[rounds_succ]
 (go_step;refine wp_region_lit ?_)
 refine Ac (v:=.bool true) (fun W=>by go_simp) rfl ?_
 simp only[nmA]
 refine wpList_nil ?_
 ((iterate 10 go_step);refine wp_region_lit ?_)
 refine Ad (.int .i64 0) ?_
 simp only[nmA]
 refine Ac (v:=.pointer (some ⟨g,0,none⟩)) (fun W=>by go_simp) rfl ?_
 simp only[nmA]
 refine IR (hM8.old hg) (v:=.agg (tmL k a).toArray) (sub:=(tmL k a).toArray) rfl rfl rfl rfl Hg rfl ?_
 simp only[nmA]
 refine At hM8 (ob:=.cells z20 139 (0,0)) (fun W=>Ab rfl (NY W)) rfl fun b1 W9 hM9=>?_
 simp only[nmA]
 refine Ad (.int .i64 0) ?_
 simp only[nmA]
 refine Av hM9 0 (cs:=((tmL k a).toArray)) rfl rfl rfl rfl Hg rfl (JN k a) rfl rfl fun W10 hM10=>?_
 simp only[nm2,nm3] at hM10
 refine wpList_nil ?_
 (go_step;go_step;refine Ak 12 HMIX.out (by decide) (by kernel_rfl) (by kernel_rfl) ?_)
 refine Cv hM10 4 (v:=.func (.func 157) #[Aa dN] #[]) rfl rfl rfl rfl Ic rfl rfl ?_;simp only[nmA]
 refine Ao hM10 1 (v:=pv4 o4) rfl rfl rfl rfl AS rfl rfl ?_;simp only[nmA]
 refine Cv hM10 3 (v:=.slice (some ⟨gt,0,none⟩) 1 cap) rfl rfl rfl rfl G5 rfl rfl ?_;simp only[nmA]
 refine AM (.int .i64 0) ?_;simp only[nmA]
 refine As (v:=.pointer (some ⟨b1,0,none⟩)) (fun W=>AJ rfl rfl (JS b1 W)) rfl rfl ?_;simp only[nmA]
 refine BJ hM10 0 (v:=Aa k) (sub:=(elR k)) rfl rfl rfl rfl rfl Bx rfl rfl ?_;simp only[nmA]
 refine AM (.int .i64 (s:Int)) ?_;simp only[nmA]
 refine Am (args:=#[Aa k,.int .i64 (s:Int)]) (v:=.int .u64 (jk:Int)) (rcf (enters_of Tryz.func162 rfl rfl)) (fun W _=>KBk.out W) rfl rfl ?_;simp only[nmA]
 refine As (v:=.pointer (some ⟨gt,0,none⟩)) (fun W=>Ar rfl rfl rfl (ff gt cap W)) rfl rfl ?_;simp only[nmA]
 refine As (v:=.pointer (some ⟨gt,0+16*jk,none⟩)) (fun W=>Ar rfl rfl rfl (aw gt 0 jk hjk W)) rfl rfl ?_;simp only[nmA]
 refine BJ hM10 2 (v:=pv4 ta) (sub:=((pc4 ta))) rfl rfl rfl rfl (by rw[eta];exact QW a _ hjk r) AS rfl rfl ?_;simp only[nmA]
 obtain⟨o5,eo5⟩:=exza (MX o4 ta)
 have ko5:=Fd ko4 kta
 rw[← eo5] at ko5
 have Ko5:=Lh (fun W=>Ip ko4 kta W)
 rw[← eo5] at Ko5
 refine Am (args:=#[Aa dN,pv4 o4,pv4 ta]) (v:=pv4 o5) (fun W=>Ca W (enters_of Tryz.func157 rfl rfl) rfl rfl (by simp[Act.eval];rfl) rfl) (fun W _=>Ko5.out W) rfl rfl ?_;simp only[nmA]
 refine AO fun d os=>?_
 refine Az fun hap=>?_
 have hM11:=hM10.calls (below_regrown W10 d os)
 clear hap 
 generalize grow (redrawn W10 d) os=W11 at hM11 ⊢
 change wpAny _ _ _ _ 1 _ _ _
 refine A7 (n:=12) (by kernel_rfl) rfl hM11 1 (cs:=((pc4 o5))) rfl rfl rfl rfl AS rfl (Cf _) rfl rfl fun W12 hM12=>?_
 simp only[nm2,nm3] at hM12
 refine wpAny_done (by kernel_rfl) ?_ _
 (go_step;go_step;refine wp_region_lit ?_)
 refine Ac (v:=.int .i64 1) (fun W=>by go_simp;decide) rfl ?_
 simp only[nmA]
 refine Ad (.int .i64 1) ?_
 simp only[nmA]
 refine wpList_nil ?_
 go_step
 rw[rounds_succ]
 (go_step;refine wp_region_lit ?_)
 refine Ac (v:=.bool false) (fun W=>by go_simp) rfl ?_
 simp only[nmA]
 refine wpList_nil ?_
 have hF:=hM12.tail
 rw[show o5=F8 k a o s by unfold F8 N0;rw[eo5,eo4,eo3,eo2,eo1,eta,ejk]] at hF
 ((iterate 6 go_step);refine bodyPost_end (v:=.tuple #[]) (results_none Tryz.results160 _ _ _) rfl ⟨rfl,hF⟩)
theorem Vq (w0 w:World) (g b8 gt b5 b3 b2 b1 cap s:Nat) (r:List Value) {a b:N4} {p q:Pt} (ha:Ok4 a p) (hb:Ok4 b q) (k l:Nat) {o:N4} {po:Pt} (ho:Ok4 o po) (hs:s≤63) (hg:w0.heap[g]?=some (.cells (tmL k a++tmL l b).toArray 139 (0,0))) (hM:Mem w0 [(b8,.cells (pc4 o) 39 (0,0)),(gt,.cells ((CT a 16++(CT b 16++r)).toArray) 190 (0,0)),(b5,.cells #[.slice (some ⟨gt,0,none⟩) 2 cap] 189 (0,0)),(b3,.cells (#[Value.func (.func 157) #[Aa dN] #[]]) 185 (0,0)),(b2,.cells z16 39 (0,0)),(b1,.cells #[.slice (some ⟨g,0,none⟩) 2 2] 184 (0,0))] w) :
    Calls Tryz.prog 160 #[.int .i64 (s:Int),.pointer (some ⟨b8,0,none⟩),.pointer (some ⟨b1,0,none⟩),.pointer (some ⟨b3,0,none⟩),.pointer (some ⟨b5,0,none⟩)] w fun E w'=>E=.returned (.tuple #[])∧Mem w0 [(b8,.cells (pc4 (Gc k l a b o s)) 39 (0,0)),(gt,.cells ((CT a 16++(CT b 16++r)).toArray) 190 (0,0)),(b5,.cells #[.slice (some ⟨gt,0,none⟩) 2 cap] 189 (0,0)),(b3,.cells (#[Value.func (.func 157) #[Aa dN] #[]]) 185 (0,0)),(b2,.cells z16 39 (0,0)),(b1,.cells #[.slice (some ⟨g,0,none⟩) 2 2] 184 (0,0))] w':=by
 have HMIX:=Lh (show Tryz.prog.follows .mixedOrders=true by kernel_rfl)
 obtain⟨jk,ejk⟩:=exza (k/16^s%16)
 have hjk:jk<16:=by rw[ejk];exact Nat.mod_lt _ (by decide)
 obtain⟨ta,eta⟩:=exza (tab a jk)
 have kta:=ED ha jk
 rw[← eta] at kta
 have KBk:=Lh (fun W=>I3 k s hs W)
 rw[← ejk] at KBk
 obtain⟨jl,ejl⟩:=exza (l/16^s%16)
 have hjl:jl<16:=by rw[ejl];exact Nat.mod_lt _ (by decide)
 obtain⟨tb,etb⟩:=exza (tab b jl)
 have ktb:=ED hb jl
 rw[← etb] at ktb
 have KBl:=Lh (fun W=>I3 l s hs W)
 rw[← ejl] at KBl
 go_enter Tryz.func160,Tryz.ntmps160
 ((iterate 3 go_step);refine wp_region_lit ?_)
 refine Ad (.int .i64 0) ?_
 simp only[nmA]
 refine wpList_nil ?_
 ((iterate 3 go_step);refine wp_loop_rounds 5 ?_)
 rw[rounds_succ]
 (go_step;refine wp_region_lit ?_)
 refine Ac (v:=.bool true) (fun W=>by go_simp) rfl ?_
 simp only[nmA]
 refine wpList_nil ?_
 ((iterate 9 go_step);refine wp_region_lit ?_)
 refine AD hM 0 (v:=pv4 o) rfl rfl rfl rfl AS rfl ?_
 simp only[nmA]
 obtain⟨o1,eo1⟩:=exza (IX o)
 have ko1:=Ek ho
 rw[← eo1] at ko1
 have Ko1:=Lh (fun W=>F9 ho W)
 rw[← eo1] at Ko1
 refine Ah hM (args:=#[pv4 o]) (v:=pv4 o1) (rcf (enters_of Tryz.func161 rfl rfl)) (Ko1.out w) rfl fun W1 hM1=>?_
 simp only[nmA]
 refine Av hM1 0 (cs:=((pc4 o1))) rfl rfl rfl rfl AS rfl (Cf _) rfl rfl fun W2 hM2=>?_
 simp only[nm2,nm3] at hM2
 refine wpList_nil ?_
 (go_step;go_step;refine wp_region_lit ?_)
 refine Ac (v:=.int .i64 1) (fun W=>by go_simp;decide) rfl ?_
 simp only[nmA]
 refine Ad (.int .i64 1) ?_
 simp only[nmA]
 refine wpList_nil ?_
 go_step
 rw[rounds_succ]
 (go_step;refine wp_region_lit ?_)
 refine Ac (v:=.bool true) (fun W=>by go_simp) rfl ?_
 simp only[nmA]
 refine wpList_nil ?_
 ((iterate 9 go_step);refine wp_region_lit ?_)
 refine AD hM2 0 (v:=pv4 o1) rfl rfl rfl rfl AS rfl ?_
 simp only[nmA]
 obtain⟨o2,eo2⟩:=exza (IX o1)
 have ko2:=Ek ko1
 rw[← eo2] at ko2
 have Ko2:=Lh (fun W=>F9 ko1 W)
 rw[← eo2] at Ko2
 refine Ah hM2 (args:=#[pv4 o1]) (v:=pv4 o2) (rcf (enters_of Tryz.func161 rfl rfl)) (Ko2.out W2) rfl fun W3 hM3=>?_
 simp only[nmA]
 refine Av hM3 0 (cs:=((pc4 o2))) rfl rfl rfl rfl AS rfl (Cf _) rfl rfl fun W4 hM4=>?_
 simp only[nm2,nm3] at hM4
 refine wpList_nil ?_
 (go_step;go_step;refine wp_region_lit ?_)
 refine Ac (v:=.int .i64 2) (fun W=>by go_simp;decide) rfl ?_
 simp only[nmA]
 refine Ad (.int .i64 2) ?_
 simp only[nmA]
 refine wpList_nil ?_
 go_step
 rw[rounds_succ]
 (go_step;refine wp_region_lit ?_)
 refine Ac (v:=.bool true) (fun W=>by go_simp) rfl ?_
 simp only[nmA]
 refine wpList_nil ?_
 ((iterate 9 go_step);refine wp_region_lit ?_)
 refine AD hM4 0 (v:=pv4 o2) rfl rfl rfl rfl AS rfl ?_
 simp only[nmA]
 obtain⟨o3,eo3⟩:=exza (IX o2)
 have ko3:=Ek ko2
 rw[← eo3] at ko3
 have Ko3:=Lh (fun W=>F9 ko2 W)
 rw[← eo3] at Ko3
 refine Ah hM4 (args:=#[pv4 o2]) (v:=pv4 o3) (rcf (enters_of Tryz.func161 rfl rfl)) (Ko3.out W4) rfl fun W5 hM5=>?_
 simp only[nmA]
 refine Av hM5 0 (cs:=((pc4 o3))) rfl rfl rfl rfl AS rfl (Cf _) rfl rfl fun W6 hM6=>?_
 simp only[nm2,nm3] at hM6
 refine wpList_nil ?_
 (go_step;go_step;refine wp_region_lit ?_)
 refine Ac (v:=.int .i64 3) (fun W=>by go_simp;decide) rfl ?_
 simp only[nmA]
 refine Ad (.int .i64 3) ?_
 simp only[nmA]
 refine wpList_nil ?_
 go_step
 rw[rounds_succ]
 (go_step;refine wp_region_lit ?_)
 refine Ac (v:=.bool true) (fun W=>by go_simp) rfl ?_
 simp only[nmA]
 refine wpList_nil ?_
 ((iterate 9 go_step);refine wp_region_lit ?_)
 refine AD hM6 0 (v:=pv4 o3) rfl rfl rfl rfl AS rfl ?_
 simp only[nmA]
 obtain⟨o4,eo4⟩:=exza (IX o3)
 have ko4:=Ek ko3
 rw[← eo4] at ko4
 have Ko4:=Lh (fun W=>F9 ko3 W)
 rw[← eo4] at Ko4
 refine Ah hM6 (args:=#[pv4 o3]) (v:=pv4 o4) (rcf (enters_of Tryz.func161 rfl rfl)) (Ko4.out W6) rfl fun W7 hM7=>?_
 simp only[nmA]
 refine Av hM7 0 (cs:=((pc4 o4))) rfl rfl rfl rfl AS rfl (Cf _) rfl rfl fun W8 hM8=>?_
 simp only[nm2,nm3] at hM8
 refine wpList_nil ?_
 (go_step;go_step;refine wp_region_lit ?_)
 refine Ac (v:=.int .i64 4) (fun W=>by go_simp;decide) rfl ?_
 simp only[nmA]
 refine Ad (.int .i64 4) ?_
 simp only[nmA]
 refine wpList_nil ?_
 go_step
 rw[rounds_succ]
 (go_step;refine wp_region_lit ?_)
 refine Ac (v:=.bool false) (fun W=>by go_simp) rfl ?_
 simp only[nmA]
 refine wpList_nil ?_
 ((iterate 8 go_step);refine wp_region_lit ?_)
 refine Bc hM8 5 (v:=.slice (some ⟨g,0,none⟩) 2 2) rfl rfl rfl rfl Oj rfl ?_
 simp only[nmA]
 refine Ac (v:=.int .i64 2) (fun W=>by go_simp) rfl ?_
 simp only[nmA]
 refine Ad (.int .i64 0) ?_
 simp only[nmA]
 refine wpList_nil ?_
 ((iterate 3 go_step);refine wp_loop_rounds 3 ?_)
 rw[rounds_succ]
 (go_step;refine wp_region_lit ?_)
 refine Ac (v:=.bool true) (fun W=>by go_simp) rfl ?_
 simp only[nmA]
 refine wpList_nil ?_
 ((iterate 10 go_step);refine wp_region_lit ?_)
 refine Ad (.int .i64 0) ?_
 simp only[nmA]
 refine Ac (v:=.pointer (some ⟨g,0,none⟩)) (fun W=>by go_simp) rfl ?_
 simp only[nmA]
 refine IR (hM8.old hg) (v:=.agg (tmL k a).toArray) (sub:=(tmL k a).toArray) rfl rfl rfl rfl Hg rfl ?_
 simp only[nmA]
 refine At hM8 (ob:=.cells z20 139 (0,0)) (fun W=>Ab rfl (NY W)) rfl fun b1 W9 hM9=>?_
 simp only[nmA]
 refine Ad (.int .i64 0) ?_
 simp only[nmA]
 refine Av hM9 0 (cs:=((tmL k a).toArray)) rfl rfl rfl rfl Hg rfl (JN k a) rfl rfl fun W10 hM10=>?_
 simp only[nm2,nm3] at hM10
 refine wpList_nil ?_
 (go_step;go_step;refine Ak 12 HMIX.out (by decide) (by kernel_rfl) (by kernel_rfl) ?_)
 refine Cv hM10 4 (v:=.func (.func 157) #[Aa dN] #[]) rfl rfl rfl rfl Ic rfl rfl ?_;simp only[nmA]
 refine Ao hM10 1 (v:=pv4 o4) rfl rfl rfl rfl AS rfl rfl ?_;simp only[nmA]
 refine Cv hM10 3 (v:=.slice (some ⟨gt,0,none⟩) 2 cap) rfl rfl rfl rfl G5 rfl rfl ?_;simp only[nmA]
 refine AM (.int .i64 0) ?_;simp only[nmA]
 refine As (v:=.pointer (some ⟨b1,0,none⟩)) (fun W=>AJ rfl rfl (JS b1 W)) rfl rfl ?_;simp only[nmA]
 refine BJ hM10 0 (v:=Aa k) (sub:=(elR k)) rfl rfl rfl rfl rfl Bx rfl rfl ?_;simp only[nmA]
 refine AM (.int .i64 (s:Int)) ?_;simp only[nmA]
 refine Am (args:=#[Aa k,.int .i64 (s:Int)]) (v:=.int .u64 (jk:Int)) (rcf (enters_of Tryz.func162 rfl rfl)) (fun W _=>KBk.out W) rfl rfl ?_;simp only[nmA]
 refine As (v:=.pointer (some ⟨gt,0,none⟩)) (fun W=>Ar rfl rfl rfl (cu gt cap W)) rfl rfl ?_;simp only[nmA]
 refine As (v:=.pointer (some ⟨gt,0+16*jk,none⟩)) (fun W=>Ar rfl rfl rfl (aw gt 0 jk hjk W)) rfl rfl ?_;simp only[nmA]
 refine BJ hM10 2 (v:=pv4 ta) (sub:=((pc4 ta))) rfl rfl rfl rfl (by rw[eta];exact QW a _ hjk _) AS rfl rfl ?_;simp only[nmA]
 obtain⟨o5,eo5⟩:=exza (MX o4 ta)
 have ko5:=Fd ko4 kta
 rw[← eo5] at ko5
 have Ko5:=Lh (fun W=>Ip ko4 kta W)
 rw[← eo5] at Ko5
 refine Am (args:=#[Aa dN,pv4 o4,pv4 ta]) (v:=pv4 o5) (fun W=>Ca W (enters_of Tryz.func157 rfl rfl) rfl rfl (by simp[Act.eval];rfl) rfl) (fun W _=>Ko5.out W) rfl rfl ?_;simp only[nmA]
 refine AO fun d os=>?_
 refine Az fun hap=>?_
 have hM11:=hM10.calls (below_regrown W10 d os)
 clear hap 
 generalize grow (redrawn W10 d) os=W11 at hM11 ⊢
 change wpAny _ _ _ _ 1 _ _ _
 refine A7 (n:=12) (by kernel_rfl) rfl hM11 1 (cs:=((pc4 o5))) rfl rfl rfl rfl AS rfl (Cf _) rfl rfl fun W12 hM12=>?_
 simp only[nm2,nm3] at hM12
 refine wpAny_done (by kernel_rfl) ?_ _
 (go_step;go_step;refine wp_region_lit ?_)
 refine Ac (v:=.int .i64 1) (fun W=>by go_simp;decide) rfl ?_
 simp only[nmA]
 refine Ad (.int .i64 1) ?_
 simp only[nmA]
 refine wpList_nil ?_
 go_step
 rw[rounds_succ]
 (go_step;refine wp_region_lit ?_)
 refine Ac (v:=.bool true) (fun W=>by go_simp) rfl ?_
 simp only[nmA]
 refine wpList_nil ?_
 ((iterate 10 go_step);refine wp_region_lit ?_)
 refine Ad (.int .i64 1) ?_
 simp only[nmA]
 refine Ac (v:=.pointer (some ⟨g,20,none⟩)) (fun W=>by go_simp) rfl ?_
 simp only[nmA]
 refine IR (hM12.old hg) (v:=.agg (tmL l b).toArray) (sub:=(tmL l b).toArray) rfl rfl rfl rfl Hg rfl ?_
 simp only[nmA]
 refine At hM12 (ob:=.cells z20 139 (0,0)) (fun W=>Ab rfl (NY W)) rfl fun b2 W13 hM13=>?_
 simp only[nmA]
 refine Ad (.int .i64 1) ?_
 simp only[nmA]
 refine Av hM13 0 (cs:=((tmL l b).toArray)) rfl rfl rfl rfl Hg rfl (JN l b) rfl rfl fun W14 hM14=>?_
 simp only[nm2,nm3] at hM14
 refine wpList_nil ?_
 (go_step;go_step;refine Ak 12 HMIX.out (by decide) (by kernel_rfl) (by kernel_rfl) ?_)
 refine Cv hM14 5 (v:=.func (.func 157) #[Aa dN] #[]) rfl rfl rfl rfl Ic rfl rfl ?_;simp only[nmA]
 refine Ao hM14 2 (v:=pv4 o5) rfl rfl rfl rfl AS rfl rfl ?_;simp only[nmA]
 refine Cv hM14 4 (v:=.slice (some ⟨gt,0,none⟩) 2 cap) rfl rfl rfl rfl G5 rfl rfl ?_;simp only[nmA]
 refine AM (.int .i64 1) ?_;simp only[nmA]
 refine As (v:=.pointer (some ⟨b2,0,none⟩)) (fun W=>AJ rfl rfl (JS b2 W)) rfl rfl ?_;simp only[nmA]
 refine BJ hM14 0 (v:=Aa l) (sub:=(elR l)) rfl rfl rfl rfl rfl Bx rfl rfl ?_;simp only[nmA]
 refine AM (.int .i64 (s:Int)) ?_;simp only[nmA]
 refine Am (args:=#[Aa l,.int .i64 (s:Int)]) (v:=.int .u64 (jl:Int)) (rcf (enters_of Tryz.func162 rfl rfl)) (fun W _=>KBl.out W) rfl rfl ?_;simp only[nmA]
 refine As (v:=.pointer (some ⟨gt,256,none⟩)) (fun W=>Ar rfl rfl rfl (cm gt cap W)) rfl rfl ?_;simp only[nmA]
 refine As (v:=.pointer (some ⟨gt,256+16*jl,none⟩)) (fun W=>Ar rfl rfl rfl (aw gt 256 jl hjl W)) rfl rfl ?_;simp only[nmA]
 refine BJ hM14 3 (v:=pv4 tb) (sub:=((pc4 tb))) rfl rfl rfl rfl (by rw[etb];exact Vk a b _ hjl r) AS rfl rfl ?_;simp only[nmA]
 obtain⟨o6,eo6⟩:=exza (MX o5 tb)
 have ko6:=Fd ko5 ktb
 rw[← eo6] at ko6
 have Ko6:=Lh (fun W=>Ip ko5 ktb W)
 rw[← eo6] at Ko6
 refine Am (args:=#[Aa dN,pv4 o5,pv4 tb]) (v:=pv4 o6) (fun W=>Ca W (enters_of Tryz.func157 rfl rfl) rfl rfl (by simp[Act.eval];rfl) rfl) (fun W _=>Ko6.out W) rfl rfl ?_;simp only[nmA]
 refine AO fun d os=>?_
 refine Az fun hap=>?_
 have hM15:=hM14.calls (below_regrown W14 d os)
 clear hap 
 generalize grow (redrawn W14 d) os=W15 at hM15 ⊢
 change wpAny _ _ _ _ 1 _ _ _
 refine A7 (n:=12) (by kernel_rfl) rfl hM15 2 (cs:=((pc4 o6))) rfl rfl rfl rfl AS rfl (Cf _) rfl rfl fun W16 hM16=>?_
 simp only[nm2,nm3] at hM16
 refine wpAny_done (by kernel_rfl) ?_ _
 (go_step;go_step;refine wp_region_lit ?_)
 refine Ac (v:=.int .i64 2) (fun W=>by go_simp;decide) rfl ?_
 simp only[nmA]
 refine Ad (.int .i64 2) ?_
 simp only[nmA]
 refine wpList_nil ?_
 go_step
 rw[rounds_succ]
 (go_step;refine wp_region_lit ?_)
 refine Ac (v:=.bool false) (fun W=>by go_simp) rfl ?_
 simp only[nmA]
 refine wpList_nil ?_
 have hF:=hM16.tail.tail
 rw[show o6=Gc k l a b o s by unfold Gc N0;rw[eo6,eo5,eo4,eo3,eo2,eo1,eta,ejk,etb,ejl]] at hF
 ((iterate 6 go_step);refine bodyPost_end (v:=.tuple #[]) (results_none Tryz.results160 _ _ _) rfl ⟨rfl,hF⟩)
structure RowOk (xs r:List Value) (size n cap:Nat):Prop where
 len:xs.length=n*size
 all:(xs++r).length=cap*size
 le:n≤cap
 max:cap≤maxLen
section
variable {P:Program} {w w0 w' W:World} {M:List Blk} {o:Oper} {A:Act}
theorem Xf {row:Option Nat} (hg:w.grownBy w' row) (hr:row=none):Below w.heap.size w w':=by
 subst hr
 exact⟨hg.os,hg.tape,hg.output,hg.size,fun k hk=>hg.block k hk (by simp)⟩
theorem Qm {e:TypeId} {size m:Nat} {v':Value} {news:List Value} (hM:Mem w0 M w) (hm:0<m) (hown:w'.ownsRow w.heap.size e size v' m news) (hg:w.grownBy w' none):∃ g cap r,v'=.slice (some ⟨g,0,none⟩) m cap∧RowOk news r size m cap∧Mem w0 ((g,.cells (news++r).toArray e (0,0))::M) w':=by
 obtain⟨hl,h⟩:=hown
 rcases h with ⟨_,h0⟩ | ⟨g,cap,cur,rfl,hb,hh,hn,hmx,hs,ht⟩
 ·omega
 ·have hc:cur.toList=news++cur.toList.drop (m*size):=by rw[← ht,List.take_append_drop]
  have hc2:cur=(news++cur.toList.drop (m*size)).toArray:=by rw[← hc,Array.toArray_toList]
  refine⟨g,cap,cur.toList.drop (m*size),rfl,⟨hl,by rw[← hc,Array.length_toList];exact hs,hn,hmx⟩,hM.news1 (Xf hg rfl) hb ?_⟩
  rw[← hc2]
  exact hh
theorem Rd {e:TypeId} {size n m g:Nat} {v':Value} {xs r news:List Value} (hM:Mem w0 ((g,.cells (xs++r).toArray e (0,0))::M) w) (hm:0<n+m) (hown:w'.ownsRow w0.heap.size e size v' (n+m) (xs++news)) (hg:w.grownBy w' (some g)) (hat:v'.ownBlock=some g∨v'.ownBlock=some w.heap.size):∃ g' cap' r',v'=.slice (some ⟨g',0,none⟩) (n+m) cap'∧RowOk (xs++news) r' size (n+m) cap'∧Mem w0 ((g',.cells (xs++news++r').toArray e (0,0))::M) w':=by
 obtain⟨hl,h⟩:=hown
 rcases h with ⟨_,h0⟩ | ⟨g',cap',cur,rfl,hb,hh,hn,hmx,hs,ht⟩
 ·omega
 ·have hc:cur.toList=xs++news++cur.toList.drop ((n+m)*size):=by rw[← ht,List.take_append_drop]
  have hc2:cur=(xs++news++cur.toList.drop ((n+m)*size)).toArray:=by rw[← hc,Array.toArray_toList]
  refine⟨g',cap',cur.toList.drop ((n+m)*size),rfl,⟨hl,by rw[← hc,Array.length_toList];exact hs,hn,hmx⟩,?_⟩
  rw[← hc2]
  have hlow:=hM.low (g,.cells (xs++r).toArray e (0,0)) (by simp)
  have hnod:=List.pairwise_cons.1 hM.nod
  have hne:∀ p ∈ M,p.1≠g:=fun p hp=>(hnod.1 p hp).symm
  have hlt:∀ p ∈ M,p.1<w.heap.size:=fun p hp=>hM.lt (List.mem_cons_of_mem _ hp)
  have hg':g'=g∨g'=w.heap.size:=by simpa [Value.ownBlock] using hat
  refine⟨RJ hM.below hg hlow,fun p hp=>?_,List.pairwise_cons.2 ⟨fun p hp=>?_,hnod.2⟩,fun p hp=>?_⟩
  ·rcases List.mem_cons.1 hp with rfl | hp
   ·exact hb
   ·exact hM.low p (List.mem_cons_of_mem _ hp)
  ·rcases hg' with rfl | rfl
   ·exact (hne p hp).symm
   ·have:=hlt p hp
    omega
  ·rcases List.mem_cons.1 hp with rfl | hp
   ·exact hh
   ·rw[hg.block p.1 (hlt p hp) (by intro e;cases e;exact hne p hp rfl)]
    exact hM.at_ p (List.mem_cons_of_mem _ hp)
theorem T5 {b:Nat} {cs:Array Value} {t:TypeId} {fr:Nat × Nat} (h:w.heap[b]?=some (.cells cs t fr)):∀ j u,cs.toList[j]?=some u→w.cell? ((⟨b,0,none⟩:Addr).add j)=some u:=fun j u hu=>by
 have hadd:(⟨b,0,none⟩:Addr).add j=⟨b,j,none⟩:=by unfold Addr.add;split <;> simp_all
 rw[hadd,cell_of_row w b j cs t fr h]
 simpa using hu
variable {ops:Array Oper} {md:Region.Mode} {fuel:Nat} {listed:Array Bool} {Q:Exit→Act→World→Prop} {n:Nat}
theorem Kn (hr:Region.ready md ops listed=[n]) (hn:ops[n]?=some o) (hM:Mem w0 M w) {s x:Operand} {t:TypeId} (ho:o.op=.call { callee:=.builtin .append,args:=#[s,x],argTypes:=#[t,t] }) (hgd:o.guard=none) {tm:Tmp} (hd:o.dst=some tm) {e:TypeId} {i:TypeInfo} {z:Value} {size bytes:Nat} (ht:P.underlying t=some (.slice e)) (hi:P.info? e=some i) (hz:i.zero=some z)
    (hsize:i.size=size) (hby:i.bytes=bytes) (hzs:z.cells.size=size) (hsz:0<size) (hs:A.eval s=.slice none 0 0) {b m c:Nat} {news:List Value} {t':TypeId} {fr:Nat × Nat} (hx:A.eval x=.slice (some ⟨b,0,none⟩) m c) (hb:w.heap[b]?=some (.cells news.toArray t' fr)) (hm:0<m) (hl:news.length=m*size) (h1:news.toArray.all (·.oneCell')=true) (h63:m≤maxLen) (hbytes:m*bytes≤140737488355328)
    (hk:∀ g cap r W,RowOk news r size m cap→Mem w0 ((g,.cells (news++r).toArray e (0,0))::M) W→wpAny P md ops Q fuel (listed.setIfInBounds n true) (A.put (some tm) (.slice (some ⟨g,0,none⟩) m cap)) W):wpAny P md ops Q (fuel+1) listed A w :=
 Ej hr hn fun K hK=>by
  rw[if_pos (by simp[Region.wanted,hgd])]
  obtain⟨v',w',hrun,h2,h3,_,_⟩:=run_append_own_at (P:=P) w w.heap.size t o.type e i z size bytes ht hi hz hsize hby hzs hsz (.slice none 0 0) 0 [] (World.ownsRow_nil _ _ _ _) ⟨b,0,none⟩ m c news hl (fun j u hu=>T5 hb j u (by simpa using hu)) (fun u hu=>by
   have:=Array.all_eq_true'.1 h1 u (by simpa using hu)
   exact this) (by omega) (by rw[Nat.zero_add];exact hbytes) (Nat.le_refl _)
  rw[Nat.zero_add,List.nil_append] at h2
  obtain⟨g,cap,r,rfl,hok,hM'⟩:=Qm hM hm h2 h3
  unfold Oper.wp execOp
  simp only[ho,resolve,invoke,builtin,Sem.run_bind,Sem.run_pure,Result.andThen_ok,List.map_toArray,List.map_cons,List.map_nil,hs,hx,hrun]
  have hk2:=hk g cap r w' hok hM'
  rw[← hd] at hk2
  exact hK _ _ hk2
theorem QV (hr:Region.ready md ops listed=[n]) (hn:ops[n]?=some o) {g cap k:Nat} {xs r:List Value} {e:TypeId} {size:Nat} (hM:Mem w0 ((g,.cells (xs++r).toArray e (0,0))::M) w) (hok:RowOk xs r size k cap) {s x:Operand} {t:TypeId} (ho:o.op=.call { callee:=.builtin .append,args:=#[s,x],argTypes:=#[t,t] }) (hgd:o.guard=none) {tm:Tmp} (hd:o.dst=some tm) {i:TypeInfo} {z:Value} {bytes:Nat} (ht:P.underlying t=some (.slice e)) (hi:P.info? e=some i) (hz:i.zero=some z)
    (hsize:i.size=size) (hby:i.bytes=bytes) (hzs:z.cells.size=size) (hsz:0<size) (hs:A.eval s=.slice (some ⟨g,0,none⟩) k cap) {b m c:Nat} {news:List Value} {t':TypeId} {fr:Nat × Nat} (hx:A.eval x=.slice (some ⟨b,0,none⟩) m c) (hb:w.heap[b]?=some (.cells news.toArray t' fr)) (hm:0<m) (hl:news.length=m*size) (h1:news.toArray.all (·.oneCell')=true) (h63:k+m≤maxLen) (hbytes:(k+m)*bytes≤140737488355328)
    (hk:∀ g' cap' r' W,RowOk (xs++news) r' size (k+m) cap'→Mem w0 ((g',.cells (xs++news++r').toArray e (0,0))::M) W→wpAny P md ops Q fuel (listed.setIfInBounds n true) (A.put (some tm) (.slice (some ⟨g',0,none⟩) (k+m) cap')) W):wpAny P md ops Q (fuel+1) listed A w :=
 Ej hr hn fun K hK=>by
  rw[if_pos (by simp[Region.wanted,hgd])]
  have hgo:=hM.get 0 rfl
  have hlow:=hM.low (g,.cells (xs++r).toArray e (0,0)) (by simp)
  obtain⟨v',w',hrun,h2,h3,_,h5⟩:=run_append_own_at (P:=P) w w0.heap.size t o.type e i z size bytes ht hi hz hsize hby hzs hsz (.slice (some ⟨g,0,none⟩) k cap) k xs ⟨hok.len,.inr ⟨g,cap,_,rfl,hlow,hgo,hok.le,hok.max,by rw[List.size_toArray];exact hok.all,by rw[← hok.len];exact List.take_left⟩⟩ ⟨b,0,none⟩ m c news hl (fun j u hu=>T5 hb j u (by simpa using hu)) (fun u hu=>by
   have:=Array.all_eq_true'.1 h1 u (by simpa using hu)
   exact this) h63 hbytes hM.below.size
  obtain⟨g',cap',r',rfl,hok',hM'⟩:=Rd hM (by omega) h2 h3 h5
  unfold Oper.wp execOp
  simp only[ho,resolve,invoke,builtin,Sem.run_bind,Sem.run_pure,Result.andThen_ok,List.map_toArray,List.map_cons,List.map_nil,hs,hx,hrun]
  have hk2:=hk g' cap' r' w' hok' hM'
  rw[← hd] at hk2
  exact hK _ _ hk2
end
theorem JV {ops:Array Oper} {w:World} {A:Act} {K:Act→Prop} {j:Nat} {t:Tmp} {v0:Nat→Value} {ob:Obj} {ps:List PkW} (hd:AW ops j=some t) (h:∀ b,w.heap[b]?=some ob→Ct ops w ps (A.put (some t) (v0 b)) K):Ct ops w ((j,fun u w'=>∃ b,u=v0 b∧w'.heap[b]?=some ob)::ps) A K:=by
 rintro u ⟨b,rfl,hb⟩
 show Ct ops w ps (A.put (AW ops j) (v0 b)) K
 rw[hd]
 exact h b hb
end Go.Proofs.YtnaldciakclccaaGreat
