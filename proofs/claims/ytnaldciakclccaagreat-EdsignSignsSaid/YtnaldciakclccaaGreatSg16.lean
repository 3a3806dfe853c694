/- Lemmas of this proof. -/
import Derived.Maps.AppendAt
import Derived.Test.YtnaldciakclccaaGreatSg15
namespace Go.Proofs.YtnaldciakclccaaGreat
set_option maxRecDepth 20000
set_option maxHeartbeats 8000000
set_option linter.unusedSimpArgs false
set_option linter.unusedVariables false
open Go.RowKit Go.Sort
def tmL (k:Nat) (a:N4):List Value:=[.int .u64 (wd k 0:Int),.int .u64 (wd k 1:Int),.int .u64 (wd k 2:Int),.int .u64 (wd k 3:Int)]++pl4 a
def z20:Array Value:=(List.replicate 20 (Value.int .u64 0)).toArray
theorem Jy (k:Nat) (a:N4):((tmL k a).toArray).all (·.oneCell')=true:=by kernel_rfl
theorem Nb (W:World):(Instr.alloc 139 true (.tuple #[])).run Tryz.prog W=.ok (.pointer (some ⟨W.heap.size,0,none⟩)) (W.alloc (.cells z20 139 (0,0))):=by
 kernel_rfl
theorem GV:C9 Tryz.prog 139 20:=⟨.inl ⟨_,Tryz.underlying139⟩,by kernel_rfl⟩
theorem NJ:Df Tryz.prog 184:=⟨⟨_,Tryz.underlying184,rfl⟩,by kernel_rfl⟩
theorem Hh:Df Tryz.prog 185:=⟨⟨_,Tryz.underlying185,rfl⟩,by kernel_rfl⟩
theorem Gu:Df Tryz.prog 189:=⟨⟨_,Tryz.underlying189,rfl⟩,by kernel_rfl⟩
theorem JG (b:Nat) (W:World):(Instr.fieldAt 139 (.pointer (some ⟨b,0,none⟩)) 0).run Tryz.prog W=.ok (.pointer (some ⟨b,0,none⟩)) W:=by
 go_simp
theorem Ru (b:Nat) (W:World):(Instr.fieldAt 139 (.pointer (some ⟨b,0,none⟩)) 1).run Tryz.prog W=.ok (.pointer (some ⟨b,4,none⟩)) W:=by
 go_simp
theorem Zx (b off j:Nat) (hj:j<16) (W:World):(Instr.indexAt 190 (.pointer (some ⟨b,off,none⟩)) (.int .u64 (j:Int))).run Tryz.prog W=.ok (.pointer (some ⟨b,off+16*j,none⟩)) W:=by
 have h1:(0:Int)≤(j:Int):=by omega
 have h2:(j:Int)<16:=by omega
 have e:(⟨b,off,none⟩:Addr).add (j*16)=⟨b,off+16*j,none⟩:=by unfold Addr.add;rw[Nat.mul_comm];split <;> simp_all
 go_simp
theorem ei (g cap:Nat) (W:World):(Instr.indexAt 189 (.slice (some ⟨g,0,none⟩) 1 cap) (.int .i64 0)).run Tryz.prog W=.ok (.pointer (some ⟨g,0,none⟩)) W:=by
 go_simp
theorem cX (g cap:Nat) (W:World):(Instr.indexAt 189 (.slice (some ⟨g,0,none⟩) 2 cap) (.int .i64 0)).run Tryz.prog W=.ok (.pointer (some ⟨g,0,none⟩)) W:=by
 go_simp
theorem cF (g cap:Nat) (W:World):(Instr.indexAt 189 (.slice (some ⟨g,0,none⟩) 2 cap) (.int .i64 1)).run Tryz.prog W=.ok (.pointer (some ⟨g,256,none⟩)) W:=by
 go_simp
theorem Pf (a:N4) (j:Nat) (hj:j<16) (r:List Value):(((CT a 16++r).toArray).toList.drop (0+16*j)).take (pc4 (tab a j)).size=(pc4 (tab a j)).toList:=by
 rw[Nat.zero_add]
 exact Oa a 16 j hj r
theorem Wf (a b:N4) (j:Nat) (hj:j<16) (r:List Value):(((CT a 16++(CT b 16++r)).toArray).toList.drop (256+16*j)).take (pc4 (tab b j)).size=(pc4 (tab b j)).toList:=by
 show ((CT a 16++(CT b 16++r)).drop (256+16*j)).take 16=pl4 (tab b j)
 rw[← List.drop_drop,List.drop_left' (CO a 16)]
 exact Oa b 16 j hj r
theorem Vy (w0 w:World) (g b8 gt b5 b3 b2 b1 cap s:Nat) (r:List Value) {a:N4} {p:Pt} (ha:Ok4 a p) (k:Nat) {o:N4} {po:Pt} (ho:Ok4 o po) (hs:s≤63) (hg:w0.heap[g]?=some (.cells (tmL k a).toArray 139 (0,0))) (hM:Mem w0 [(b8,.cells (pc4 o) 39 (0,0)),(gt,.cells ((CT a 16++r).toArray) 190 (0,0)),(b5,.cells #[.slice (some ⟨gt,0,none⟩) 1 cap] 189 (0,0)),(b3,.cells (#[Value.func (.func 157) #[Aa dN] #[]]) 185 (0,0)),(b2,.cells z16 39 (0,0)),(b1,.cells #[.slice (some ⟨g,0,none⟩) 1 1] 184 (0,0))] w) :
    Calls Tryz.prog 160 #[.int .i64 (s:Int),.pointer (some ⟨b8,0,none⟩),.pointer (some ⟨b1,0,none⟩),.pointer (some ⟨b3,0,none⟩),.pointer (some ⟨b5,0,none⟩)] w fun E w'=>E=.returned (.tuple #[])∧Mem w0 [(b8,.cells (pc4 (FO k a o s)) 39 (0,0)),(gt,.cells ((CT a 16++r).toArray) 190 (0,0)),(b5,.cells #[.slice (some ⟨gt,0,none⟩) 1 cap] 189 (0,0)),(b3,.cells (#[Value.func (.func 157) #[Aa dN] #[]]) 185 (0,0)),(b2,.cells z16 39 (0,0)),(b1,.cells #[.slice (some ⟨g,0,none⟩) 1 1] 184 (0,0))] w':=by
 have HMIX:=Lh (show Tryz.prog.follows .mixedOrders=true by kernel_rfl)
 obtain⟨jk,ejk⟩:=exza (k/16^s%16)
 have hjk:jk<16:=by rw[ejk];exact Nat.mod_lt _ (by decide)
 obtain⟨ta,eta⟩:=exza (tab a jk)
 have kta:=Ey ha jk
 rw[← eta] at kta
 have KBk:=Lh (fun W=>IB k s hs W)
 rw[← ejk] at KBk
 go_enter Tryz.func160,Tryz.ntmps160
 ((iterate 3 go_step);refine wp_region_lit ?_)
 refine Ad (.int .i64 0) ?_
 simp only[nmA]
 refine wpList_nil ?_
 ((iterate 3 go_step);refine wp_loop_rounds 5 ?_)
 rw[rounds_succ]
 (go_step;refine wp_region_lit ?_)
 refine Ac (v:=.bool true) (fun W=>by go_simp) rfl ?_
 simp only[nmA]
 refine wpList_nil ?_
 ((iterate 9 go_step);refine wp_region_lit ?_)
 refine AG hM 0 (v:=pv4 o) rfl rfl rfl rfl AS rfl ?_
 simp only[nmA]
 obtain⟨o1,eo1⟩:=exza (IG o)
 have ko1:=Ej ho
 rw[← eo1] at ko1
 have Ko1:=Lh (fun W=>FM ho W)
 rw[← eo1] at Ko1
 refine Aj hM (args:=#[pv4 o]) (v:=pv4 o1) (rcf (enters_of Tryz.func161 rfl rfl)) (Ko1.out w) rfl fun W1 hM1=>?_
 simp only[nmA]
 refine Ax hM1 0 (cs:=((pc4 o1))) rfl rfl rfl rfl AS rfl (Cd _) rfl rfl fun W2 hM2=>?_
 simp only[nm2,nm3] at hM2
 refine wpList_nil ?_
 (go_step;go_step;refine wp_region_lit ?_)
 refine Ac (v:=.int .i64 1) (fun W=>by go_simp;decide) rfl ?_
 simp only[nmA]
 refine Ad (.int .i64 1) ?_
 simp only[nmA]
 refine wpList_nil ?_
 go_step
 rw[rounds_succ]
 (go_step;refine wp_region_lit ?_)
 refine Ac (v:=.bool true) (fun W=>by go_simp) rfl ?_
 simp only[nmA]
 refine wpList_nil ?_
 ((iterate 9 go_step);refine wp_region_lit ?_)
 refine AG hM2 0 (v:=pv4 o1) rfl rfl rfl rfl AS rfl ?_
 simp only[nmA]
 obtain⟨o2,eo2⟩:=exza (IG o1)
 have ko2:=Ej ko1
 rw[← eo2] at ko2
 have Ko2:=Lh (fun W=>FM ko1 W)
 rw[← eo2] at Ko2
 refine Aj hM2 (args:=#[pv4 o1]) (v:=pv4 o2) (rcf (enters_of Tryz.func161 rfl rfl)) (Ko2.out W2) rfl fun W3 hM3=>?_
 simp only[nmA]
 refine Ax hM3 0 (cs:=((pc4 o2))) rfl rfl rfl rfl AS rfl (Cd _) rfl rfl fun W4 hM4=>?_
 simp only[nm2,nm3] at hM4
 refine wpList_nil ?_
 (go_step;go_step;refine wp_region_lit ?_)
 refine Ac (v:=.int .i64 2) (fun W=>by go_simp;decide) rfl ?_
 simp only[nmA]
 refine Ad (.int .i64 2) ?_
 simp only[nmA]
 refine wpList_nil ?_
 go_step
 rw[rounds_succ]
 (go_step;refine wp_region_lit ?_)
 refine Ac (v:=.bool true) (fun W=>by go_simp) rfl ?_
 simp only[nmA]
 refine wpList_nil ?_
 ((iterate 9 go_step);refine wp_region_lit ?_)
 refine AG hM4 0 (v:=pv4 o2) rfl rfl rfl rfl AS rfl ?_
 simp only[nmA]
 obtain⟨o3,eo3⟩:=exza (IG o2)
 have ko3:=Ej ko2
 rw[← eo3] at ko3
 have Ko3:=Lh (fun W=>FM ko2 W)
 rw[← eo3] at Ko3
 refine Aj hM4 (args:=#[pv4 o2]) (v:=pv4 o3) (rcf (enters_of Tryz.func161 rfl rfl)) (Ko3.out W4) rfl fun W5 hM5=>?_
 simp only[nmA]
 refine Ax hM5 0 (cs:=((pc4 o3))) rfl rfl rfl rfl AS rfl (Cd _) rfl rfl fun W6 hM6=>?_
 simp only[nm2,nm3] at hM6
 refine wpList_nil ?_
 (go_step;go_step;refine wp_region_lit ?_)
 refine Ac (v:=.int .i64 3) (fun W=>by go_simp;decide) rfl ?_
 simp only[nmA]
 refine Ad (.int .i64 3) ?_
 simp only[nmA]
 refine wpList_nil ?_
 go_step
 rw[rounds_succ]
 (go_step;refine wp_region_lit ?_)
 refine Ac (v:=.bool true) (fun W=>by go_simp) rfl ?_
 simp only[nmA]
 refine wpList_nil ?_
 ((iterate 9 go_step);refine wp_region_lit ?_)
 refine AG hM6 0 (v:=pv4 o3) rfl rfl rfl rfl AS rfl ?_
 simp only[nmA]
 obtain⟨o4,eo4⟩:=exza (IG o3)
 have ko4:=Ej ko3
 rw[← eo4] at ko4
 have Ko4:=Lh (fun W=>FM ko3 W)
 rw[← eo4] at Ko4
 refine Aj hM6 (args:=#[pv4 o3]) (v:=pv4 o4) (rcf (enters_of Tryz.func161 rfl rfl)) (Ko4.out W6) rfl fun W7 hM7=>?_
 simp only[nmA]
 refine Ax hM7 0 (cs:=((pc4 o4))) rfl rfl rfl rfl AS rfl (Cd _) rfl rfl fun W8 hM8=>?_
 simp only[nm2,nm3] at hM8
 refine wpList_nil ?_
 (go_step;go_step;refine wp_region_lit ?_)
 refine Ac (v:=.int .i64 4) (fun W=>by go_simp;decide) rfl ?_
 simp only[nmA]
 refine Ad (.int .i64 4) ?_
 simp only[nmA]
 refine wpList_nil ?_
 go_step
 rw[rounds_succ]
 (go_step;refine wp_region_lit ?_)
 refine Ac (v:=.bool false) (fun W=>by go_simp) rfl ?_
 simp only[nmA]
 refine wpList_nil ?_
 ((iterate 8 go_step);refine wp_region_lit ?_)
 refine Bv hM8 5 (v:=.slice (some ⟨g,0,none⟩) 1 1) rfl rfl rfl rfl NJ rfl ?_
 simp only[nmA]
 refine Ac (v:=.int .i64 1) (fun W=>by go_simp) rfl ?_
 simp only[nmA]
 refine Ad (.int .i64 0) ?_
 simp only[nmA]
 refine wpList_nil ?_
 ((iterate 3 go_step);refine wp_loop_rounds 2 ?_)
 rw[rounds_succ]
 (go_step;refine wp_region_lit ?_)
 refine Ac (v:=.bool true) (fun W=>by go_simp) rfl ?_
 simp only[nmA]
 refine wpList_nil ?_
 ((iterate 10 go_step);refine wp_region_lit ?_)
 refine Ad (.int .i64 0) ?_
 simp only[nmA]
 refine Ac (v:=.pointer (some ⟨g,0,none⟩)) (fun W=>by go_simp) rfl ?_
 simp only[nmA]
 refine IE (hM8.old hg) (v:=.agg (tmL k a).toArray) (sub:=(tmL k a).toArray) rfl rfl rfl rfl GV rfl ?_
 simp only[nmA]
 refine Au hM8 (ob:=.cells z20 139 (0,0)) (fun W=>Ab rfl (Nb W)) rfl fun b1 W9 hM9=>?_
 simp only[nmA]
 refine Ad (.int .i64 0) ?_
 simp only[nmA]
 refine Ax hM9 0 (cs:=((tmL k a).toArray)) rfl rfl rfl rfl GV rfl (Jy k a) rfl rfl fun W10 hM10=>?_
 simp only[nm2,nm3] at hM10
 refine wpList_nil ?_
 (go_step;go_step;refine An 12 HMIX.out (by decide) (by kernel_rfl) (by kernel_rfl) ?_)
 refine Cr hM10 4 (v:=.func (.func 157) #[Aa dN] #[]) rfl rfl rfl rfl Hh rfl rfl ?_;simp only[nmA]
 refine Ar hM10 1 (v:=pv4 o4) rfl rfl rfl rfl AS rfl rfl ?_;simp only[nmA]
 refine Cr hM10 3 (v:=.slice (some ⟨gt,0,none⟩) 1 cap) rfl rfl rfl rfl Gu rfl rfl ?_;simp only[nmA]
 refine Az (.int .i64 0) ?_;simp only[nmA]
 refine As (v:=.pointer (some ⟨b1,0,none⟩)) (fun W=>AM rfl rfl (JG b1 W)) rfl rfl ?_;simp only[nmA]
 refine B0 hM10 0 (v:=Aa k) (sub:=(elR k)) rfl rfl rfl rfl rfl Bw rfl rfl ?_;simp only[nmA]
 refine Az (.int .i64 (s:Int)) ?_;simp only[nmA]
 refine Aq (args:=#[Aa k,.int .i64 (s:Int)]) (v:=.int .u64 (jk:Int)) (rcf (enters_of Tryz.func162 rfl rfl)) (fun W _=>KBk.out W) rfl rfl ?_;simp only[nmA]
 refine As (v:=.pointer (some ⟨gt,0,none⟩)) (fun W=>Ay rfl rfl rfl (ei gt cap W)) rfl rfl ?_;simp only[nmA]
 refine As (v:=.pointer (some ⟨gt,0+16*jk,none⟩)) (fun W=>Ay rfl rfl rfl (Zx gt 0 jk hjk W)) rfl rfl ?_;simp only[nmA]
 refine B0 hM10 2 (v:=pv4 ta) (sub:=((pc4 ta))) rfl rfl rfl rfl (by rw[eta];exact Pf a _ hjk r) AS rfl rfl ?_;simp only[nmA]
 obtain⟨o5,eo5⟩:=exza (Lc o4 ta)
 have ko5:=E7 ko4 kta
 rw[← eo5] at ko5
 have Ko5:=Lh (fun W=>Ib ko4 kta W)
 rw[← eo5] at Ko5
 refine Aq (args:=#[Aa dN,pv4 o4,pv4 ta]) (v:=pv4 o5) (fun W=>BX W (enters_of Tryz.func157 rfl rfl) rfl rfl (by simp[Act.eval];rfl) rfl) (fun W _=>Ko5.out W) rfl rfl ?_;simp only[nmA]
 refine AX fun d os=>?_
 refine AF fun hap=>?_
 have hM11:=hM10.calls (below_regrown W10 d os)
 clear hap 
 generalize grow (redrawn W10 d) os=W11 at hM11 ⊢
 change wpAny _ _ _ _ 1 _ _ _
 refine A8 (n:=12) (by kernel_rfl) rfl hM11 1 (cs:=((pc4 o5))) rfl rfl rfl rfl AS rfl (Cd _) rfl rfl fun W12 hM12=>?_
 simp only[nm2,nm3] at hM12
 refine wpAny_done (by kernel_rfl) ?_ _
 (go_step;go_step;refine wp_region_lit ?_)
 refine Ac (v:=.int .i64 1) (fun W=>by go_simp;decide) rfl ?_
 simp only[nmA]
 refine Ad (.int .i64 1) ?_
 simp only[nmA]
 refine wpList_nil ?_
 go_step
 rw[rounds_succ]
 (go_step;refine wp_region_lit ?_)
 refine Ac (v:=.bool false) (fun W=>by go_simp) rfl ?_
 simp only[nmA]
 refine wpList_nil ?_
 have hF:=hM12.tail
 rw[show o5=FO k a o s by unfold FO Na;rw[eo5,eo4,eo3,eo2,eo1,eta,ejk]] at hF
 ((iterate 6 go_step);refine bodyPost_end (v:=.tuple #[]) (results_none Tryz.results160 _ _ _) rfl ⟨rfl,hF⟩)
theorem Vw (w0 w:World) (g b8 gt b5 b3 b2 b1 cap s:Nat) (r:List Value) {a b:N4} {p q:Pt} (ha:Ok4 a p) (hb:Ok4 b q) (k l:Nat) {o:N4} {po:Pt} (ho:Ok4 o po) (hs:s≤63) (hg:w0.heap[g]?=some (.cells (tmL k a++tmL l b).toArray 139 (0,0))) (hM:Mem w0 [(b8,.cells (pc4 o) 39 (0,0)),(gt,.cells ((CT a 16++(CT b 16++r)).toArray) 190 (0,0)),(b5,.cells #[.slice (some ⟨gt,0,none⟩) 2 cap] 189 (0,0)),(b3,.cells (#[Value.func (.func 157) #[Aa dN] #[]]) 185 (0,0)),(b2,.cells z16 39 (0,0)),(b1,.cells #[.slice (some ⟨g,0,none⟩) 2 2] 184 (0,0))] w) :
    Calls Tryz.prog 160 #[.int .i64 (s:Int),.pointer (some ⟨b8,0,none⟩),.pointer (some ⟨b1,0,none⟩),.pointer (some ⟨b3,0,none⟩),.pointer (some ⟨b5,0,none⟩)] w fun E w'=>E=.returned (.tuple #[])∧Mem w0 [(b8,.cells (pc4 (FK k l a b o s)) 39 (0,0)),(gt,.cells ((CT a 16++(CT b 16++r)).toArray) 190 (0,0)),(b5,.cells #[.slice (some ⟨gt,0,none⟩) 2 cap] 189 (0,0)),(b3,.cells (#[Value.func (.func 157) #[Aa dN] #[]]) 185 (0,0)),(b2,.cells z16 39 (0,0)),(b1,.cells #[.slice (some ⟨g,0,none⟩) 2 2] 184 (0,0))] w':=by
 have HMIX:=Lh (show Tryz.prog.follows .mixedOrders=true by kernel_rfl)
 obtain⟨jk,ejk⟩:=exza (k/16^s%16)
 have hjk:jk<16:=by rw[ejk];exact Nat.mod_lt _ (by decide)
 obtain⟨ta,eta⟩:=exza (tab a jk)
 have kta:=Ey ha jk
 rw[← eta] at kta
 have KBk:=Lh (fun W=>IB k s hs W)
 rw[← ejk] at KBk
 obtain⟨jl,ejl⟩:=exza (l/16^s%16)
 have hjl:jl<16:=by rw[ejl];exact Nat.mod_lt _ (by decide)
 obtain⟨tb,etb⟩:=exza (tab b jl)
 have ktb:=Ey hb jl
 rw[← etb] at ktb
 have KBl:=Lh (fun W=>IB l s hs W)
 rw[← ejl] at KBl
 go_enter Tryz.func160,Tryz.ntmps160
 ((iterate 3 go_step);refine wp_region_lit ?_)
 refine Ad (.int .i64 0) ?_
 simp only[nmA]
 refine wpList_nil ?_
 ((iterate 3 go_step);refine wp_loop_rounds 5 ?_)
 rw[rounds_succ]
 (go_step;refine wp_region_lit ?_)
 refine Ac (v:=.bool true) (fun W=>by go_simp) rfl ?_
 simp only[nmA]
 refine wpList_nil ?_
 ((iterate 9 go_step);refine wp_region_lit ?_)
 refine AG hM 0 (v:=pv4 o) rfl rfl rfl rfl AS rfl ?_
 simp only[nmA]
 obtain⟨o1,eo1⟩:=exza (IG o)
 have ko1:=Ej ho
 rw[← eo1] at ko1
 have Ko1:=Lh (fun W=>FM ho W)
 rw[← eo1] at Ko1
 refine Aj hM (args:=#[pv4 o]) (v:=pv4 o1) (rcf (enters_of Tryz.func161 rfl rfl)) (Ko1.out w) rfl fun W1 hM1=>?_
 simp only[nmA]
 refine Ax hM1 0 (cs:=((pc4 o1))) rfl rfl rfl rfl AS rfl (Cd _) rfl rfl fun W2 hM2=>?_
 simp only[nm2,nm3] at hM2
 refine wpList_nil ?_
 (go_step;go_step;refine wp_region_lit ?_)
 refine Ac (v:=.int .i64 1) (fun W=>by go_simp;decide) rfl ?_
 simp only[nmA]
 refine Ad (.int .i64 1) ?_
 simp only[nmA]
 refine wpList_nil ?_
 go_step
 rw[rounds_succ]
 (go_step;refine wp_region_lit ?_)
 refine Ac (v:=.bool true) (fun W=>by go_simp) rfl ?_
 simp only[nmA]
 refine wpList_nil ?_
 ((iterate 9 go_step);refine wp_region_lit ?_)
 refine AG hM2 0 (v:=pv4 o1) rfl rfl rfl rfl AS rfl ?_
 simp only[nmA]
 obtain⟨o2,eo2⟩:=exza (IG o1)
 have ko2:=Ej ko1
 rw[← eo2] at ko2
 have Ko2:=Lh (fun W=>FM ko1 W)
 rw[← eo2] at Ko2
 refine Aj hM2 (args:=#[pv4 o1]) (v:=pv4 o2) (rcf (enters_of Tryz.func161 rfl rfl)) (Ko2.out W2) rfl fun W3 hM3=>?_
 simp only[nmA]
 refine Ax hM3 0 (cs:=((pc4 o2))) rfl rfl rfl rfl AS rfl (Cd _) rfl rfl fun W4 hM4=>?_
 simp only[nm2,nm3] at hM4
 refine wpList_nil ?_
 (go_step;go_step;refine wp_region_lit ?_)
 refine Ac (v:=.int .i64 2) (fun W=>by go_simp;decide) rfl ?_
 simp only[nmA]
 refine Ad (.int .i64 2) ?_
 simp only[nmA]
 refine wpList_nil ?_
 go_step
 rw[rounds_succ]
 (go_step;refine wp_region_lit ?_)
 refine Ac (v:=.bool true) (fun W=>by go_simp) rfl ?_
 simp only[nmA]
 refine wpList_nil ?_
 ((iterate 9 go_step);refine wp_region_lit ?_)
 refine AG hM4 0 (v:=pv4 o2) rfl rfl rfl rfl AS rfl ?_
 simp only[nmA]
 obtain⟨o3,eo3⟩:=exza (IG o2)
 have ko3:=Ej ko2
 rw[← eo3] at ko3
 have Ko3:=Lh (fun W=>FM ko2 W)
 rw[← eo3] at Ko3
 refine Aj hM4 (args:=#[pv4 o2]) (v:=pv4 o3) (rcf (enters_of Tryz.func161 rfl rfl)) (Ko3.out W4) rfl fun W5 hM5=>?_
 simp only[nmA]
 refine Ax hM5 0 (cs:=((pc4 o3))) rfl rfl rfl rfl AS rfl (Cd _) rfl rfl fun W6 hM6=>?_
 simp only[nm2,nm3] at hM6
 refine wpList_nil ?_
 (go_step;go_step;refine wp_region_lit ?_)
 refine Ac (v:=.int .i64 3) (fun W=>by go_simp;decide) rfl ?_
 simp only[nmA]
 refine Ad (.int .i64 3) ?_
 simp only[nmA]
 refine wpList_nil ?_
 go_step
 rw[rounds_succ]
 (go_step;refine wp_region_lit ?_)
 refine Ac (v:=.bool true) (fun W=>by go_simp) rfl ?_
 simp only[nmA]
 refine wpList_nil ?_
 ((iterate 9 go_step);refine wp_region_lit ?_)
 refine AG hM6 0 (v:=pv4 o3) rfl rfl rfl rfl AS rfl ?_
 simp only[nmA]
 obtain⟨o4,eo4⟩:=exza (IG o3)
 have ko4:=Ej ko3
 rw[← eo4] at ko4
 have Ko4:=Lh (fun W=>FM ko3 W)
 rw[← eo4] at Ko4
 refine Aj hM6 (args:=#[pv4 o3]) (v:=pv4 o4) (rcf (enters_of Tryz.func161 rfl rfl)) (Ko4.out W6) rfl fun W7 hM7=>?_
 simp only[nmA]
 refine Ax hM7 0 (cs:=((pc4 o4))) rfl rfl rfl rfl AS rfl (Cd _) rfl rfl fun W8 hM8=>?_
 simp only[nm2,nm3] at hM8
 refine wpList_nil ?_
 (go_step;go_step;refine wp_region_lit ?_)
 refine Ac (v:=.int .i64 4) (fun W=>by go_simp;decide) rfl ?_
 simp only[nmA]
 refine Ad (.int .i64 4) ?_
 simp only[nmA]
 refine wpList_nil ?_
 go_step
 rw[rounds_succ]
 (go_step;refine wp_region_lit ?_)
 refine Ac (v:=.bool false) (fun W=>by go_simp) rfl ?_
 simp only[nmA]
 refine wpList_nil ?_
 ((iterate 8 go_step);refine wp_region_lit ?_)
 refine Bv hM8 5 (v:=.slice (some ⟨g,0,none⟩) 2 2) rfl rfl rfl rfl NJ rfl ?_
 simp only[nmA]
 refine Ac (v:=.int .i64 2) (fun W=>by go_simp) rfl ?_
 simp only[nmA]
 refine Ad (.int .i64 0) ?_
 simp only[nmA]
 refine wpList_nil ?_
 ((iterate 3 go_step);refine wp_loop_rounds 3 ?_)
 rw[rounds_succ]
 (go_step;refine wp_region_lit ?_)
 refine Ac (v:=.bool true) (fun W=>by go_simp) rfl ?_
 simp only[nmA]
 refine wpList_nil ?_
 ((iterate 10 go_step);refine wp_region_lit ?_)
 refine Ad (.int .i64 0) ?_
 simp only[nmA]
 refine Ac (v:=.pointer (some ⟨g,0,none⟩)) (fun W=>by go_simp) rfl ?_
 simp only[nmA]
 refine IE (hM8.old hg) (v:=.agg (tmL k a).toArray) (sub:=(tmL k a).toArray) rfl rfl rfl rfl GV rfl ?_
 simp only[nmA]
 refine Au hM8 (ob:=.cells z20 139 (0,0)) (fun W=>Ab rfl (Nb W)) rfl fun b1 W9 hM9=>?_
 simp only[nmA]
 refine Ad (.int .i64 0) ?_
 simp only[nmA]
 refine Ax hM9 0 (cs:=((tmL k a).toArray)) rfl rfl rfl rfl GV rfl (Jy k a) rfl rfl fun W10 hM10=>?_
 simp only[nm2,nm3] at hM10
 refine wpList_nil ?_
 (go_step;go_step;refine An 12 HMIX.out (by decide) (by kernel_rfl) (by kernel_rfl) ?_)
 refine Cr hM10 4 (v:=.func (.func 157) #[Aa dN] #[]) rfl rfl rfl rfl Hh rfl rfl ?_;simp only[nmA]
 refine Ar hM10 1 (v:=pv4 o4) rfl rfl rfl rfl AS rfl rfl ?_;simp only[nmA]
 refine Cr hM10 3 (v:=.slice (some ⟨gt,0,none⟩) 2 cap) rfl rfl rfl rfl Gu rfl rfl ?_;simp only[nmA]
 refine Az (.int .i64 0) ?_;simp only[nmA]
 refine As (v:=.pointer (some ⟨b1,0,none⟩)) (fun W=>AM rfl rfl (JG b1 W)) rfl rfl ?_;simp only[nmA]
 refine B0 hM10 0 (v:=Aa k) (sub:=(elR k)) rfl rfl rfl rfl rfl Bw rfl rfl ?_;simp only[nmA]
 refine Az (.int .i64 (s:Int)) ?_;simp only[nmA]
 refine Aq (args:=#[Aa k,.int .i64 (s:Int)]) (v:=.int .u64 (jk:Int)) (rcf (enters_of Tryz.func162 rfl rfl)) (fun W _=>KBk.out W) rfl rfl ?_;simp only[nmA]
 refine As (v:=.pointer (some ⟨gt,0,none⟩)) (fun W=>Ay rfl rfl rfl (cX gt cap W)) rfl rfl ?_;simp only[nmA]
 refine As (v:=.pointer (some ⟨gt,0+16*jk,none⟩)) (fun W=>Ay rfl rfl rfl (Zx gt 0 jk hjk W)) rfl rfl ?_;simp only[nmA]
 refine B0 hM10 2 (v:=pv4 ta) (sub:=((pc4 ta))) rfl rfl rfl rfl (by rw[eta];exact Pf a _ hjk _) AS rfl rfl ?_;simp only[nmA]
 obtain⟨o5,eo5⟩:=exza (Lc o4 ta)
 have ko5:=E7 ko4 kta
 rw[← eo5] at ko5
 have Ko5:=Lh (fun W=>Ib ko4 kta W)
 rw[← eo5] at Ko5
 refine Aq (args:=#[Aa dN,pv4 o4,pv4 ta]) (v:=pv4 o5) (fun W=>BX W (enters_of Tryz.func157 rfl rfl) rfl rfl (by simp[Act.eval];rfl) rfl) (fun W _=>Ko5.out W) rfl rfl ?_;simp only[nmA]
 refine AX fun d os=>?_
 refine AF fun hap=>?_
 have hM11:=hM10.calls (below_regrown W10 d os)
 clear hap 
 generalize grow (redrawn W10 d) os=W11 at hM11 ⊢
 change wpAny _ _ _ _ 1 _ _ _
 refine A8 (n:=12) (by kernel_rfl) rfl hM11 1 (cs:=((pc4 o5))) rfl rfl rfl rfl AS rfl (Cd _) rfl rfl fun W12 hM12=>?_
 simp only[nm2,nm3] at hM12
 refine wpAny_done (by kernel_rfl) ?_ _
 (go_step;go_step;refine wp_region_lit ?_)
 refine Ac (v:=.int .i64 1) (fun W=>by go_simp;decide) rfl ?_
 simp only[nmA]
 refine Ad (.int .i64 1) ?_
 simp only[nmA]
 refine wpList_nil ?_
 go_step
 rw[rounds_succ]
 (go_step;refine wp_region_lit ?_)
 refine Ac (v:=.bool true) (fun W=>by go_simp) rfl ?_
 simp only[nmA]
 refine wpList_nil ?_
 ((iterate 10 go_step);refine wp_region_lit ?_)
 refine Ad (.int .i64 1) ?_
 simp only[nmA]
 refine Ac (v:=.pointer (some ⟨g,20,none⟩)) (fun W=>by go_simp) rfl ?_
 simp only[nmA]
 refine IE (hM12.old hg) (v:=.agg (tmL l b).toArray) (sub:=(tmL l b).toArray) rfl rfl rfl rfl GV rfl ?_
 simp only[nmA]
 refine Au hM12 (ob:=.cells z20 139 (0,0)) (fun W=>Ab rfl (Nb W)) rfl fun b2 W13 hM13=>?_
 simp only[nmA]
 refine Ad (.int .i64 1) ?_
 simp only[nmA]
 refine Ax hM13 0 (cs:=((tmL l b).toArray)) rfl rfl rfl rfl GV rfl (Jy l b) rfl rfl fun W14 hM14=>?_
 simp only[nm2,nm3] at hM14
 refine wpList_nil ?_
 (go_step;go_step;refine An 12 HMIX.out (by decide) (by kernel_rfl) (by kernel_rfl) ?_)
 refine Cr hM14 5 (v:=.func (.func 157) #[Aa dN] #[]) rfl rfl rfl rfl Hh rfl rfl ?_;simp only[nmA]
 refine Ar hM14 2 (v:=pv4 o5) rfl rfl rfl rfl AS rfl rfl ?_;simp only[nmA]
 refine Cr hM14 4 (v:=.slice (some ⟨gt,0,none⟩) 2 cap) rfl rfl rfl rfl Gu rfl rfl ?_;simp only[nmA]
 refine Az (.int .i64 1) ?_;simp only[nmA]
 refine As (v:=.pointer (some ⟨b2,0,none⟩)) (fun W=>AM rfl rfl (JG b2 W)) rfl rfl ?_;simp only[nmA]
 refine B0 hM14 0 (v:=Aa l) (sub:=(elR l)) rfl rfl rfl rfl rfl Bw rfl rfl ?_;simp only[nmA]
 refine Az (.int .i64 (s:Int)) ?_;simp only[nmA]
 refine Aq (args:=#[Aa l,.int .i64 (s:Int)]) (v:=.int .u64 (jl:Int)) (rcf (enters_of Tryz.func162 rfl rfl)) (fun W _=>KBl.out W) rfl rfl ?_;simp only[nmA]
 refine As (v:=.pointer (some ⟨gt,256,none⟩)) (fun W=>Ay rfl rfl rfl (cF gt cap W)) rfl rfl ?_;simp only[nmA]
 refine As (v:=.pointer (some ⟨gt,256+16*jl,none⟩)) (fun W=>Ay rfl rfl rfl (Zx gt 256 jl hjl W)) rfl rfl ?_;simp only[nmA]
 refine B0 hM14 3 (v:=pv4 tb) (sub:=((pc4 tb))) rfl rfl rfl rfl (by rw[etb];exact Wf a b _ hjl r) AS rfl rfl ?_;simp only[nmA]
 obtain⟨o6,eo6⟩:=exza (Lc o5 tb)
 have ko6:=E7 ko5 ktb
 rw[← eo6] at ko6
 have Ko6:=Lh (fun W=>Ib ko5 ktb W)
 rw[← eo6] at Ko6
 refine Aq (args:=#[Aa dN,pv4 o5,pv4 tb]) (v:=pv4 o6) (fun W=>BX W (enters_of Tryz.func157 rfl rfl) rfl rfl (by simp[Act.eval];rfl) rfl) (fun W _=>Ko6.out W) rfl rfl ?_;simp only[nmA]
 refine AX fun d os=>?_
 refine AF fun hap=>?_
 have hM15:=hM14.calls (below_regrown W14 d os)
 clear hap 
 generalize grow (redrawn W14 d) os=W15 at hM15 ⊢
 change wpAny _ _ _ _ 1 _ _ _
 refine A8 (n:=12) (by kernel_rfl) rfl hM15 2 (cs:=((pc4 o6))) rfl rfl rfl rfl AS rfl (Cd _) rfl rfl fun W16 hM16=>?_
 simp only[nm2,nm3] at hM16
 refine wpAny_done (by kernel_rfl) ?_ _
 (go_step;go_step;refine wp_region_lit ?_)
 refine Ac (v:=.int .i64 2) (fun W=>by go_simp;decide) rfl ?_
 simp only[nmA]
 refine Ad (.int .i64 2) ?_
 simp only[nmA]
 refine wpList_nil ?_
 go_step
 rw[rounds_succ]
 (go_step;refine wp_region_lit ?_)
 refine Ac (v:=.bool false) (fun W=>by go_simp) rfl ?_
 simp only[nmA]
 refine wpList_nil ?_
 have hF:=hM16.tail.tail
 rw[show o6=FK k l a b o s by unfold FK Na;rw[eo6,eo5,eo4,eo3,eo2,eo1,eta,ejk,etb,ejl]] at hF
 ((iterate 6 go_step);refine bodyPost_end (v:=.tuple #[]) (results_none Tryz.results160 _ _ _) rfl ⟨rfl,hF⟩)
structure RowOk (xs r:List Value) (size n cap:Nat):Prop where
 len:xs.length=n*size
 all:(xs++r).length=cap*size
 le:n≤cap
 max:cap≤maxLen
section
variable {P:Program} {w w0 w' W:World} {M:List Blk} {o:Oper} {A:Act}
theorem Vx {row:Option Nat} (hg:w.grownBy w' row) (hr:row=none):Below w.heap.size w w':=by
 subst hr
 exact⟨hg.os,hg.tape,hg.output,hg.size,fun k hk=>hg.block k hk (by simp)⟩
theorem QS {e:TypeId} {size m:Nat} {v':Value} {news:List Value} (hM:Mem w0 M w) (hm:0<m) (hown:w'.ownsRow w.heap.size e size v' m news) (hg:w.grownBy w' none):∃ g cap r,v'=.slice (some ⟨g,0,none⟩) m cap∧RowOk news r size m cap∧Mem w0 ((g,.cells (news++r).toArray e (0,0))::M) w':=by
 obtain⟨hl,h⟩:=hown
 rcases h with ⟨_,h0⟩ | ⟨g,cap,cur,rfl,hb,hh,hn,hmx,hs,ht⟩
 ·omega
 ·have hc:cur.toList=news++cur.toList.drop (m*size):=by rw[← ht,List.take_append_drop]
  have hc2:cur=(news++cur.toList.drop (m*size)).toArray:=by rw[← hc,Array.toArray_toList]
  refine⟨g,cap,cur.toList.drop (m*size),rfl,⟨hl,by rw[← hc,Array.length_toList];exact hs,hn,hmx⟩,hM.news1 (Vx hg rfl) hb ?_⟩
  rw[← hc2]
  exact hh
theorem PD {e:TypeId} {size n m g:Nat} {v':Value} {xs r news:List Value} (hM:Mem w0 ((g,.cells (xs++r).toArray e (0,0))::M) w) (hm:0<n+m) (hown:w'.ownsRow w0.heap.size e size v' (n+m) (xs++news)) (hg:w.grownBy w' (some g)) (hat:v'.ownBlock=some g∨v'.ownBlock=some w.heap.size):∃ g' cap' r',v'=.slice (some ⟨g',0,none⟩) (n+m) cap'∧RowOk (xs++news) r' size (n+m) cap'∧Mem w0 ((g',.cells (xs++news++r').toArray e (0,0))::M) w':=by
 obtain⟨hl,h⟩:=hown
 rcases h with ⟨_,h0⟩ | ⟨g',cap',cur,rfl,hb,hh,hn,hmx,hs,ht⟩
 ·omega
 ·have hc:cur.toList=xs++news++cur.toList.drop ((n+m)*size):=by rw[← ht,List.take_append_drop]
  have hc2:cur=(xs++news++cur.toList.drop ((n+m)*size)).toArray:=by rw[← hc,Array.toArray_toList]
  refine⟨g',cap',cur.toList.drop ((n+m)*size),rfl,⟨hl,by rw[← hc,Array.length_toList];exact hs,hn,hmx⟩,?_⟩
  rw[← hc2]
  have hlow:=hM.low (g,.cells (xs++r).toArray e (0,0)) (by simp)
  have hnod:=List.pairwise_cons.1 hM.nod
  have hne:∀ p ∈ M,p.1≠g:=fun p hp=>(hnod.1 p hp).symm
  have hlt:∀ p ∈ M,p.1<w.heap.size:=fun p hp=>hM.lt (List.mem_cons_of_mem _ hp)
  have hg':g'=g∨g'=w.heap.size:=by simpa [Value.ownBlock] using hat
  refine⟨Ra hM.below hg hlow,fun p hp=>?_,List.pairwise_cons.2 ⟨fun p hp=>?_,hnod.2⟩,fun p hp=>?_⟩
  ·rcases List.mem_cons.1 hp with rfl | hp
   ·exact hb
   ·exact hM.low p (List.mem_cons_of_mem _ hp)
  ·rcases hg' with rfl | rfl
   ·exact (hne p hp).symm
   ·have:=hlt p hp
    omega
  ·rcases List.mem_cons.1 hp with rfl | hp
   ·exact hh
   ·rw[hg.block p.1 (hlt p hp) (by intro e;cases e;exact hne p hp rfl)]
    exact hM.at_ p (List.mem_cons_of_mem _ hp)
theorem TI {b:Nat} {cs:Array Value} {t:TypeId} {fr:Nat × Nat} (h:w.heap[b]?=some (.cells cs t fr)):∀ j u,cs.toList[j]?=some u→w.cell? ((⟨b,0,none⟩:Addr).add j)=some u:=fun j u hu=>by
 have hadd:(⟨b,0,none⟩:Addr).add j=⟨b,j,none⟩:=by unfold Addr.add;split <;> simp_all
 rw[hadd,cell_of_row w b j cs t fr h]
 simpa using hu
variable {ops:Array Oper} {md:Region.Mode} {fuel:Nat} {listed:Array Bool} {Q:Exit→Act→World→Prop} {n:Nat}
theorem J3 (hr:Region.ready md ops listed=[n]) (hn:ops[n]?=some o) (hM:Mem w0 M w) {s x:Operand} {t:TypeId} (ho:o.op=.call { callee:=.builtin .append,args:=#[s,x],argTypes:=#[t,t] }) (hgd:o.guard=none) {tm:Tmp} (hd:o.dst=some tm) {e:TypeId} {i:TypeInfo} {z:Value} {size bytes:Nat} (ht:P.underlying t=some (.slice e)) (hi:P.info? e=some i) (hz:i.zero=some z)
    (hsize:i.size=size) (hby:i.bytes=bytes) (hzs:z.cells.size=size) (hsz:0<size) (hs:A.eval s=.slice none 0 0) {b m c:Nat} {news:List Value} {t':TypeId} {fr:Nat × Nat} (hx:A.eval x=.slice (some ⟨b,0,none⟩) m c) (hb:w.heap[b]?=some (.cells news.toArray t' fr)) (hm:0<m) (hl:news.length=m*size) (h1:news.toArray.all (·.oneCell')=true) (h63:m≤maxLen) (hbytes:m*bytes≤140737488355328)
    (hk:∀ g cap r W,RowOk news r size m cap→Mem w0 ((g,.cells (news++r).toArray e (0,0))::M) W→wpAny P md ops Q fuel (listed.setIfInBounds n true) (A.put (some tm) (.slice (some ⟨g,0,none⟩) m cap)) W):wpAny P md ops Q (fuel+1) listed A w :=
 Eh hr hn fun K hK=>by
  rw[if_pos (by simp[Region.wanted,hgd])]
  obtain⟨v',w',hrun,h2,h3,_,_⟩:=run_append_own_at (P:=P) w w.heap.size t o.type e i z size bytes ht hi hz hsize hby hzs hsz (.slice none 0 0) 0 [] (World.ownsRow_nil _ _ _ _) ⟨b,0,none⟩ m c news hl (fun j u hu=>TI hb j u (by simpa using hu)) (fun u hu=>by
   have:=Array.all_eq_true'.1 h1 u (by simpa using hu)
   exact this) (by omega) (by rw[Nat.zero_add];exact hbytes) (Nat.le_refl _)
  rw[Nat.zero_add,List.nil_append] at h2
  obtain⟨g,cap,r,rfl,hok,hM'⟩:=QS hM hm h2 h3
  unfold Oper.wp execOp
  simp only[ho,resolve,invoke,builtin,Sem.run_bind,Sem.run_pure,Result.andThen_ok,List.map_toArray,List.map_cons,List.map_nil,hs,hx,hrun]
  have hk2:=hk g cap r w' hok hM'
  rw[← hd] at hk2
  exact hK _ _ hk2
theorem PP (hr:Region.ready md ops listed=[n]) (hn:ops[n]?=some o) {g cap k:Nat} {xs r:List Value} {e:TypeId} {size:Nat} (hM:Mem w0 ((g,.cells (xs++r).toArray e (0,0))::M) w) (hok:RowOk xs r size k cap) {s x:Operand} {t:TypeId} (ho:o.op=.call { callee:=.builtin .append,args:=#[s,x],argTypes:=#[t,t] }) (hgd:o.guard=none) {tm:Tmp} (hd:o.dst=some tm) {i:TypeInfo} {z:Value} {bytes:Nat} (ht:P.underlying t=some (.slice e)) (hi:P.info? e=some i) (hz:i.zero=some z)
    (hsize:i.size=size) (hby:i.bytes=bytes) (hzs:z.cells.size=size) (hsz:0<size) (hs:A.eval s=.slice (some ⟨g,0,none⟩) k cap) {b m c:Nat} {news:List Value} {t':TypeId} {fr:Nat × Nat} (hx:A.eval x=.slice (some ⟨b,0,none⟩) m c) (hb:w.heap[b]?=some (.cells news.toArray t' fr)) (hm:0<m) (hl:news.length=m*size) (h1:news.toArray.all (·.oneCell')=true) (h63:k+m≤maxLen) (hbytes:(k+m)*bytes≤140737488355328)
    (hk:∀ g' cap' r' W,RowOk (xs++news) r' size (k+m) cap'→Mem w0 ((g',.cells (xs++news++r').toArray e (0,0))::M) W→wpAny P md ops Q fuel (listed.setIfInBounds n true) (A.put (some tm) (.slice (some ⟨g',0,none⟩) (k+m) cap')) W):wpAny P md ops Q (fuel+1) listed A w :=
 Eh hr hn fun K hK=>by
  rw[if_pos (by simp[Region.wanted,hgd])]
  have hgo:=hM.get 0 rfl
  have hlow:=hM.low (g,.cells (xs++r).toArray e (0,0)) (by simp)
  obtain⟨v',w',hrun,h2,h3,_,h5⟩:=run_append_own_at (P:=P) w w0.heap.size t o.type e i z size bytes ht hi hz hsize hby hzs hsz (.slice (some ⟨g,0,none⟩) k cap) k xs ⟨hok.len,.inr ⟨g,cap,_,rfl,hlow,hgo,hok.le,hok.max,by rw[List.size_toArray];exact hok.all,by rw[← hok.len];exact List.take_left⟩⟩ ⟨b,0,none⟩ m c news hl (fun j u hu=>TI hb j u (by simpa using hu)) (fun u hu=>by
   have:=Array.all_eq_true'.1 h1 u (by simpa using hu)
   exact this) h63 hbytes hM.below.size
  obtain⟨g',cap',r',rfl,hok',hM'⟩:=PD hM (by omega) h2 h3 h5
  unfold Oper.wp execOp
  simp only[ho,resolve,invoke,builtin,Sem.run_bind,Sem.run_pure,Result.andThen_ok,List.map_toArray,List.map_cons,List.map_nil,hs,hx,hrun]
  have hk2:=hk g' cap' r' w' hok' hM'
  rw[← hd] at hk2
  exact hK _ _ hk2
end
theorem JS {ops:Array Oper} {w:World} {A:Act} {K:Act→Prop} {j:Nat} {t:Tmp} {v0:Nat→Value} {ob:Obj} {ps:List PkW} (hd:AV ops j=some t) (h:∀ b,w.heap[b]?=some ob→Co ops w ps (A.put (some t) (v0 b)) K):Co ops w ((j,fun u w'=>∃ b,u=v0 b∧w'.heap[b]?=some ob)::ps) A K:=by
 rintro u ⟨b,rfl,hb⟩
 show Co ops w ps (A.put (AV ops j) (v0 b)) K
 rw[hd]
 exact h b hb
end Go.Proofs.YtnaldciakclccaaGreat
