/- Lemmas of this proof. -/
import Derived.Deep.DeepCutAuto
import Derived.Lib.QuietBelow
import Derived.Test.YtnaldciakclccaaGreatSg18
import Derived.Test.YtnaldciakclccaaGreatSg02
import Derived.Test.YtnaldciakclccaaGreatSg03
import Derived.Test.YtnaldciakclccaaGreatSg14
import Derived.Test.YtnaldciakclccaaGreatSg04
namespace Go.Proofs.YtnaldciakclccaaGreat
set_option maxRecDepth 20000
set_option maxHeartbeats 8000000
set_option linter.unusedSimpArgs false
set_option linter.unusedVariables false
open Go.RowKit
theorem Lx (n:Nat):∀ k m,leN ((List.range k).map fun i=>UInt8.ofNat (n/256^(m+i)%256))=n/256^m%256^k
 | 0,m=>by simp[leN,Nat.mod_one]
 | k+1,m=>by
   rw[List.range_succ_eq_map,List.map_cons,List.map_map,leN]
   have h:=Lx n k (m+1)
   have e:(fun i=>UInt8.ofNat (n/256^(m+i)%256)) ∘ Nat.succ=fun i=>UInt8.ofNat (n/256^(m+1+i)%256):=by
    funext i
    simp only[Function.comp]
    rw[show m+Nat.succ i=m+1+i by omega]
   rw[e,h,Nat.add_zero,UInt8.toNat_ofNat',show (256:Nat)^(k+1)=256*256^k by rw[Nat.pow_succ,Nat.mul_comm],Nat.mod_mul,Nat.pow_succ 256 m,← Nat.div_div_eq_div_mul]
   have h8:n/256^m%256%2^8=n/256^m%256:=Nat.mod_eq_of_lt (Nat.mod_lt _ (by decide))
   rw[h8]
theorem Kp (n:Nat) (h:n<B64^4):leN (byL n)=n:=by
 have:=Lx n 32 0
 simp only[Nat.zero_add,Nat.pow_zero,Nat.div_one] at this
 unfold byL
 rw[this,Nat.mod_eq_of_lt (by rw[show 256^32=B64^4 by decide];exact h)]
open Go.RowKit Go.Sort
theorem Ee {P:Program} {fn:Func} {R:Ending→World→Prop} {A:Act} {w:World} {f:FuncId} {cap:Array Value} (hd:A.defers=[{ target:=.fn (.func f) cap,args:=#[] }]) (hE:Enters P f) (h:CallsD P f cap .returning w fun E u w'=>u=.returning∧(E=.returned (.tuple #[])∧∃ v,(results fn A.tmps).run P w'=.ok v w'∧R (.returned v) w')):bodyPostD P fn R .ret A w:=by
 show Leaves P fn A.tmps R A.defers .returning w
 rw[hd]
 refine leaves_cons (by simp) (f:=f) (args:=cap) (by have:=hE cap w;simpa [invoke] using this) (h.mono ?_)
 rintro E u w' ⟨rfl,rfl,v,hv,hR⟩
 exact⟨v,hv,hR⟩
theorem Ex (n:Nat):(⟨(byL n).toArray⟩:ByteArray).size=32:=by show (byL n).toArray.size=32;simp[byL]
theorem Ou (m:Nat) (h:m<PN) (w:World):Calls Tryz.prog 30 #[.string ⟨(byL m).toArray⟩] w fun e w'=>e=.returned (.tuple #[Aa m,.int .i64 0])∧Below w.heap.size w w':=by
 have h1:=Tb ⟨(byL m).toArray⟩ w (Ex m)
 rw[show leN (⟨(byL m).toArray⟩:ByteArray).data.toList=m from Kp m (Nat.lt_trans h UE),if_pos h] at h1
 exact h1
theorem bK (m:Nat) (h:¬ m<PN) (hB:m<B64^4) (w:World):Calls Tryz.prog 30 #[.string ⟨(byL m).toArray⟩] w fun e w'=>e=.returned (.tuple #[Aa 0,.int .i64 2])∧Below w.heap.size w w':=by
 have h1:=Tb ⟨(byL m).toArray⟩ w (Ex m)
 rw[show leN (⟨(byL m).toArray⟩:ByteArray).data.toList=m from Kp m hB,if_neg h] at h1
 exact h1
theorem L7 (N:Nat) (b:Nat) (hb:CE N 255=b) (w:World):Calls Tryz.prog 29 #[Aa N,.int .i64 255] w fun e w'=>e=.returned (.int .u64 (b:Int))∧Below w.heap.size w w':=by
 rw[← hb]
 exact I7 N 255 w (by decide)
theorem Sj (x y:Operand) (W:World):(do eqGuard .eql 61 x y (.int .u64 ((0:Nat):Int)) (.int .u64 1);binOp .eql 61 (.int .u64 ((0:Nat):Int)) (.int .u64 1):Sem Value).run Tryz.prog W=.ok (.bool false) W:=by
 go_simp
theorem LP (x y:Operand) (W:World):(do eqGuard .eql 61 x y (.int .u64 ((1:Nat):Int)) (.int .u64 1);binOp .eql 61 (.int .u64 ((1:Nat):Int)) (.int .u64 1):Sem Value).run Tryz.prog W=.ok (.bool true) W:=by
 go_simp
theorem Zj (N:Nat):(OF N=false→CE N 255=0)∧(OF N=true→CE N 255=1):=by
 have h:=EF N 255
 unfold OF
 exact⟨fun h1=>by have:=of_decide_eq_false h1;omega,of_decide_eq_true⟩
theorem L2 (b:Nat) (x y:Operand) (W:World):(do eqGuard .eql 61 x y (.int .u64 (b:Int)) (.int .u64 1);binOp .eql 61 (.int .u64 (b:Int)) (.int .u64 1):Sem Value).run Tryz.prog W=.ok (.bool (decide (b=1))) W:=by
 have e:((b:Int) == 1)=decide (b=1):=by
  rw[Bool.eq_iff_iff]
  simp
  omega
 go_simp
theorem UK (s:ByteArray) (hs:s.size=32) (N m bb:Nat) (hN:leN s.data.toList=N) (em:m=N%(9223372036854775808*B64^3)) (hmB:m<B64^4) (hbit:CE N 255=bb) (hm:¬ m<PN) (w:World):Calls Tryz.prog 10 #[.string s] w fun E w'=>E=.returned (.tuple #[pv4 Cp,.int .i64 2])∧Below w.heap.size w w':=by
 have HMIX:=Lh (show Tryz.prog.follows .mixedOrders=true by kernel_rfl)
 have KO:=Lh (fun w=>FW s w hs)
 rw[hN] at KO
 clear hN
 go_enter_defers Tryz.func10,Tryz.ntmps10
 have hM0:=Mem.start w
 (go_step;go_step;refine wp_region_lit ?_)
 refine Au hM0 (ob:=.cells z16 39 (0,0)) (fun W=>Ab rfl (En W)) rfl fun b1 W1 hM1=>?_
 simp only[nmA]
 refine Au hM1 (ob:=.cells #[.int .i64 0] 27 (0,0)) (fun W=>Ab rfl (LY W)) rfl fun b2 W2 hM2=>?_
 simp only[nmA]
 refine wpList_nil ?_
 ((iterate 3 go_step);refine wp_region_lit ?_)
 refine Ac (v:=.func (.func 26) #[] #[.pointer (some ⟨b2,0,none⟩),.pointer (some ⟨b1,0,none⟩)]) (fun W=>Bs rfl (by simp[Instr.makeFunc,Act.eval])) rfl ?_
 simp only[nmA]
 refine Hd (d:={ target:=.fn (.func 26) #[.pointer (some ⟨b2,0,none⟩),.pointer (some ⟨b1,0,none⟩)],args:=#[] }) (fun W=>ED W rfl rfl) rfl rfl ?_
 dsimp only
 refine wpList_nil ?_
 ((iterate 3 go_step);refine wp_region_lit ?_)
 refine Ad (.string s) ?_
 simp only[nmA]
 refine Aj hM2 (args:=#[.string s]) (v:=.tuple #[Aa N,.int .i64 0]) (rcf (enters_of Tryz.func28 rfl rfl)) (KO.out W2) rfl fun W3 hM3=>?_
 simp only[nmA]
 refine Ad (.tuple #[Aa N,.int .i64 0]) ?_
 simp only[nmA]
 refine Ad (Aa N) ?_
 simp only[nmA]
 refine Ad (.int .i64 0) ?_
 simp only[nmA]
 refine Au hM3 (ob:=.cells z4 24 (0,0)) (fun W=>Ab rfl (FJ W)) rfl fun b3 W4 hM4=>?_
 simp only[nmA]
 refine Ax hM4 0 (cs:=(elR N)) rfl rfl rfl rfl Bw rfl (AB N) rfl rfl fun W5 hM5=>?_
 simp only[nm2,nm3] at hM5
 refine Bh hM5 1 (cs':=#[.int .i64 0]) rfl rfl rfl rfl (by show 0<1;decide) (rfl) Ba rfl rfl rfl fun W6 hM6=>?_
 simp only[nm2,nm3] at hM6
 refine wpList_nil ?_
 ((iterate 4 go_step);refine wp_region_lit ?_)
 refine Bv hM6 1 (v:=.int .i64 0) rfl rfl rfl rfl Ba rfl ?_
 simp only[nmA]
 refine Ac (v:=.bool false) (fun W=>BY W rfl rfl rfl rfl) rfl ?_
 simp only[nmA]
 refine wpList_nil ?_
 ((iterate 7 go_step);refine wp_region_lit ?_)
 refine AG hM6 0 (v:=Aa N) rfl rfl rfl rfl Bw rfl ?_
 simp only[nmA]
 refine Aj hM6 (args:=#[Aa N,.int .i64 255]) (v:=.int .u64 ((bb:Nat):Int)) (rcf (enters_of Tryz.func29 rfl rfl)) (L7 N bb hbit W6) rfl fun W7 hM7=>?_
 simp only[nmA]
 obtain⟨c1,hc1⟩:=exza (decide (bb=1))
 refine Ac (v:=.bool c1) (fun W=>Ai rfl rfl rfl (by rw[hc1];exact L2 bb _ _ W)) rfl ?_
 simp only[nmA]
 refine Ad (.bool c1) ?_
 simp only[nmA]
 refine wpList_nil ?_
 ((iterate 3 go_step);refine wp_region_lit ?_)
 refine Ac (v:=.pointer (some ⟨b3,3,none⟩)) (fun W=>Ay rfl rfl rfl (DY b3 W)) rfl ?_
 simp only[nmA]
 refine Bv hM7 0 (v:=.int .u64 (wd N 3:Int)) rfl rfl rfl rfl CA rfl ?_
 simp only[nmA]
 refine Ac (v:=.int .u64 (((wd N 3)%9223372036854775808:Nat):Int)) (fun W=>Ai rfl rfl rfl (Hg (wd N 3) (Cq _ _) _ _ W)) rfl ?_
 simp only[nmA]
 refine Ac (v:=.pointer (some ⟨b3,3,none⟩)) (fun W=>Ay rfl rfl rfl (DY b3 W)) rfl ?_
 simp only[nmA]
 refine Bh hM7 0 (cs':=(elR m)) rfl rfl rfl rfl (by show 3<4;decide) (by rw[em];exact Jp N) CA rfl rfl rfl fun W8 hM8=>?_
 simp only[nm2,nm3] at hM8
 refine wpList_nil ?_
 ((iterate 3 go_step);refine wp_region_lit ?_)
 refine AG hM8 0 (v:=Aa m) rfl rfl rfl rfl Bw rfl ?_
 simp only[nmA]
 refine Aj hM8 (args:=#[Aa m]) (v:=.string ⟨(byL m).toArray⟩) (rcf (enters_of Tryz.func31 rfl rfl)) (Ep m W8) rfl fun W9 hM9=>?_
 simp only[nmA]
 refine Aj hM9 (args:=#[.string ⟨(byL m).toArray⟩]) (v:=.tuple #[Aa 0,.int .i64 2]) (rcf (enters_of Tryz.func30 rfl rfl)) (bK m hm hmB W9) rfl fun W10 hM10=>?_
 simp only[nmA]
 refine Ad (.tuple #[Aa 0,.int .i64 2]) ?_
 simp only[nmA]
 refine Ad (Aa 0) ?_
 simp only[nmA]
 refine Ad (.int .i64 2) ?_
 simp only[nmA]
 refine Au hM10 (ob:=.cells z4 36 (0,0)) (fun W=>Ab rfl (Bj W)) rfl fun b4 W11 hM11=>?_
 simp only[nmA]
 refine Ax hM11 0 (cs:=(elR 0)) rfl rfl rfl rfl Av rfl (AB 0) rfl rfl fun W12 hM12=>?_
 simp only[nm2,nm3] at hM12
 refine Bh hM12 2 (cs':=#[.int .i64 2]) rfl rfl rfl rfl (by show 0<1;decide) (rfl) Ba rfl rfl rfl fun W13 hM13=>?_
 simp only[nm2,nm3] at hM13
 refine wpList_nil ?_
 ((iterate 4 go_step);refine wp_region_lit ?_)
 refine Bv hM13 2 (v:=.int .i64 2) rfl rfl rfl rfl Ba rfl ?_
 simp only[nmA]
 refine Ac (v:=.bool true) (fun W=>BY W rfl rfl rfl rfl) rfl ?_
 simp only[nmA]
 refine wpList_nil ?_
 have hMd:=hM13.drew
 ((iterate 4 go_step);refine wp_region_noPanic (wp_region_held_drew HMIX.out (S:=fun w1=>w1.heap[b1]?=some (.cells z16 39 (0,0))∧w1.heap[b2]?=some (.cells #[.int .i64 2] 27 (0,0))) (⟨hMd.get 3 rfl,hMd.get 2 rfl⟩) fun hS=>?_))
 change wpAnyH _ _ _ _ _ 4 _ _ _
 generalize W13.drew=W14 at hMd hS ⊢
 have hM14:=hMd
 clear hMd
 refine JU 0 34 #[true,false,false,false] (by kernel_rfl) (v:=.agg z16) (cs:=z16) (b:=b1) rfl rfl rfl rfl (fun W hW=>hW.1) rfl AS (by kernel_rfl) (by kernel_rfl) (by kernel_rfl) rfl hS ?_
 simp only[nmA]
 refine Ki 1 35 #[true,true,false,false] (by kernel_rfl) (v:=.int .i64 2) (cs:=#[.int .i64 2]) (b:=b2) rfl rfl rfl rfl (fun W hW=>hW.2) rfl Ba (by kernel_rfl) (by kernel_rfl) (by kernel_rfl) rfl hS ?_
 simp only[nmA]
 refine GN (n:=2) #[true,true,true,false] (by kernel_rfl) (by kernel_rfl) rfl hM14 3 (cs:=z16) rfl rfl rfl rfl AS rfl Uf rfl rfl (fun W hW=>⟨hW.get 3 rfl,hW.get 2 rfl⟩) fun W15 hM15=>?_
 simp only[nm2,nm3] at hM15
 refine Jo (n:=3) #[true,true,true,true] (by kernel_rfl) (by kernel_rfl) rfl hM15 2 (cs':=#[.int .i64 2]) rfl rfl rfl rfl (by show 0<1;decide) (rfl) Ba rfl rfl rfl (fun W hW=>⟨hW.get 3 rfl,hW.get 2 rfl⟩) fun W16 hM16=>?_
 simp only[nm2,nm3] at hM16
 refine wpAnyH_done (by kernel_rfl) ?_ _
 refine NoPanic.normal ?_
 ((iterate 3 go_step);refine Ee rfl (enters_of Tryz.func26 rfl rfl) ((Hn _ _ _ 2 3 _ _ 2 _ hM16 rfl rfl rfl).mono ?_))
 rintro E u w' ⟨rfl,rfl,hMF⟩
 rw[if_neg (by decide)] at hMF
 simp only[nm2,nm3] at hMF
 exact⟨rfl,rfl,_,CI Tryz.results10 rfl rfl (hMF.load 3 rfl AS) (Fv (hMF.get 2 rfl) rfl Ba),rfl,hMF.below⟩
theorem fK (s:ByteArray) (hs:s.size=32) (N m bb x:Nat) (hN:leN s.data.toList=N) (em:m=N%(9223372036854775808*B64^3)) (hbit:CE N 255=bb) (hm:m<PN) (ex:x=By iV (sqR m)) (hok:okN iV (sqR m)=false) (w:World):Calls Tryz.prog 10 #[.string s] w fun E w'=>E=.returned (.tuple #[pv4 Cp,.int .i64 22])∧Below w.heap.size w w':=by
 have HMIX:=Lh (show Tryz.prog.follows .mixedOrders=true by kernel_rfl)
 have KO:=Lh (fun w=>FW s w hs)
 rw[hN] at KO
 clear hN
 have hx:x<PN:=by rw[ex];exact Cz _
 have KB:=Lh (fun w=>Gv m w hm)
 rw[← ex,hok] at KB
 go_enter_defers Tryz.func10,Tryz.ntmps10
 have hM0:=Mem.start w
 (go_step;go_step;refine wp_region_lit ?_)
 refine Au hM0 (ob:=.cells z16 39 (0,0)) (fun W=>Ab rfl (En W)) rfl fun b1 W1 hM1=>?_
 simp only[nmA]
 refine Au hM1 (ob:=.cells #[.int .i64 0] 27 (0,0)) (fun W=>Ab rfl (LY W)) rfl fun b2 W2 hM2=>?_
 simp only[nmA]
 refine wpList_nil ?_
 ((iterate 3 go_step);refine wp_region_lit ?_)
 refine Ac (v:=.func (.func 26) #[] #[.pointer (some ⟨b2,0,none⟩),.pointer (some ⟨b1,0,none⟩)]) (fun W=>Bs rfl (by simp[Instr.makeFunc,Act.eval])) rfl ?_
 simp only[nmA]
 refine Hd (d:={ target:=.fn (.func 26) #[.pointer (some ⟨b2,0,none⟩),.pointer (some ⟨b1,0,none⟩)],args:=#[] }) (fun W=>ED W rfl rfl) rfl rfl ?_
 dsimp only
 refine wpList_nil ?_
 ((iterate 3 go_step);refine wp_region_lit ?_)
 refine Ad (.string s) ?_
 simp only[nmA]
 refine Aj hM2 (args:=#[.string s]) (v:=.tuple #[Aa N,.int .i64 0]) (rcf (enters_of Tryz.func28 rfl rfl)) (KO.out W2) rfl fun W3 hM3=>?_
 simp only[nmA]
 refine Ad (.tuple #[Aa N,.int .i64 0]) ?_
 simp only[nmA]
 refine Ad (Aa N) ?_
 simp only[nmA]
 refine Ad (.int .i64 0) ?_
 simp only[nmA]
 refine Au hM3 (ob:=.cells z4 24 (0,0)) (fun W=>Ab rfl (FJ W)) rfl fun b3 W4 hM4=>?_
 simp only[nmA]
 refine Ax hM4 0 (cs:=(elR N)) rfl rfl rfl rfl Bw rfl (AB N) rfl rfl fun W5 hM5=>?_
 simp only[nm2,nm3] at hM5
 refine Bh hM5 1 (cs':=#[.int .i64 0]) rfl rfl rfl rfl (by show 0<1;decide) (rfl) Ba rfl rfl rfl fun W6 hM6=>?_
 simp only[nm2,nm3] at hM6
 refine wpList_nil ?_
 ((iterate 4 go_step);refine wp_region_lit ?_)
 refine Bv hM6 1 (v:=.int .i64 0) rfl rfl rfl rfl Ba rfl ?_
 simp only[nmA]
 refine Ac (v:=.bool false) (fun W=>BY W rfl rfl rfl rfl) rfl ?_
 simp only[nmA]
 refine wpList_nil ?_
 ((iterate 7 go_step);refine wp_region_lit ?_)
 refine AG hM6 0 (v:=Aa N) rfl rfl rfl rfl Bw rfl ?_
 simp only[nmA]
 refine Aj hM6 (args:=#[Aa N,.int .i64 255]) (v:=.int .u64 ((bb:Nat):Int)) (rcf (enters_of Tryz.func29 rfl rfl)) (L7 N bb hbit W6) rfl fun W7 hM7=>?_
 simp only[nmA]
 obtain⟨c1,hc1⟩:=exza (decide (bb=1))
 refine Ac (v:=.bool c1) (fun W=>Ai rfl rfl rfl (by rw[hc1];exact L2 bb _ _ W)) rfl ?_
 simp only[nmA]
 refine Ad (.bool c1) ?_
 simp only[nmA]
 refine wpList_nil ?_
 ((iterate 3 go_step);refine wp_region_lit ?_)
 refine Ac (v:=.pointer (some ⟨b3,3,none⟩)) (fun W=>Ay rfl rfl rfl (DY b3 W)) rfl ?_
 simp only[nmA]
 refine Bv hM7 0 (v:=.int .u64 (wd N 3:Int)) rfl rfl rfl rfl CA rfl ?_
 simp only[nmA]
 refine Ac (v:=.int .u64 (((wd N 3)%9223372036854775808:Nat):Int)) (fun W=>Ai rfl rfl rfl (Hg (wd N 3) (Cq _ _) _ _ W)) rfl ?_
 simp only[nmA]
 refine Ac (v:=.pointer (some ⟨b3,3,none⟩)) (fun W=>Ay rfl rfl rfl (DY b3 W)) rfl ?_
 simp only[nmA]
 refine Bh hM7 0 (cs':=(elR m)) rfl rfl rfl rfl (by show 3<4;decide) (by rw[em];exact Jp N) CA rfl rfl rfl fun W8 hM8=>?_
 simp only[nm2,nm3] at hM8
 refine wpList_nil ?_
 ((iterate 3 go_step);refine wp_region_lit ?_)
 refine AG hM8 0 (v:=Aa m) rfl rfl rfl rfl Bw rfl ?_
 simp only[nmA]
 refine Aj hM8 (args:=#[Aa m]) (v:=.string ⟨(byL m).toArray⟩) (rcf (enters_of Tryz.func31 rfl rfl)) (Ep m W8) rfl fun W9 hM9=>?_
 simp only[nmA]
 refine Aj hM9 (args:=#[.string ⟨(byL m).toArray⟩]) (v:=.tuple #[Aa m,.int .i64 0]) (rcf (enters_of Tryz.func30 rfl rfl)) (Ou m hm W9) rfl fun W10 hM10=>?_
 simp only[nmA]
 refine Ad (.tuple #[Aa m,.int .i64 0]) ?_
 simp only[nmA]
 refine Ad (Aa m) ?_
 simp only[nmA]
 refine Ad (.int .i64 0) ?_
 simp only[nmA]
 refine Au hM10 (ob:=.cells z4 36 (0,0)) (fun W=>Ab rfl (Bj W)) rfl fun b4 W11 hM11=>?_
 simp only[nmA]
 refine Ax hM11 0 (cs:=(elR m)) rfl rfl rfl rfl Av rfl (AB m) rfl rfl fun W12 hM12=>?_
 simp only[nm2,nm3] at hM12
 refine Bh hM12 2 (cs':=#[.int .i64 0]) rfl rfl rfl rfl (by show 0<1;decide) (rfl) Ba rfl rfl rfl fun W13 hM13=>?_
 simp only[nm2,nm3] at hM13
 refine wpList_nil ?_
 ((iterate 4 go_step);refine wp_region_lit ?_)
 refine Bv hM13 2 (v:=.int .i64 0) rfl rfl rfl rfl Ba rfl ?_
 simp only[nmA]
 refine Ac (v:=.bool false) (fun W=>BY W rfl rfl rfl rfl) rfl ?_
 simp only[nmA]
 refine wpList_nil ?_
 ((iterate 7 go_step);refine wp_region_lit ?_)
 refine AG hM13 0 (v:=Aa m) rfl rfl rfl rfl Av rfl ?_
 simp only[nmA]
 refine Aj hM13 (args:=#[Aa m]) (v:=.tuple #[Aa x,.bool false]) (rcf (enters_of Tryz.func32 rfl rfl)) (KB.out W13) rfl fun W14 hM14=>?_
 simp only[nmA]
 refine Ad (.tuple #[Aa x,.bool false]) ?_
 simp only[nmA]
 refine Ad (Aa x) ?_
 simp only[nmA]
 refine Ad (.bool false) ?_
 simp only[nmA]
 refine Au hM14 (ob:=.cells z4 36 (0,0)) (fun W=>Ab rfl (Bj W)) rfl fun b5 W15 hM15=>?_
 simp only[nmA]
 refine Ax hM15 0 (cs:=(elR x)) rfl rfl rfl rfl Av rfl (AB x) rfl rfl fun W16 hM16=>?_
 simp only[nm2,nm3] at hM16
 refine Ad (.bool false) ?_
 simp only[nmA]
 refine wpList_nil ?_
 ((iterate 4 go_step);refine wp_region_lit ?_)
 refine Ad (.bool false) ?_
 simp only[nmA]
 refine Ac (v:=.bool true) (fun W=>GM W rfl rfl rfl) rfl ?_
 simp only[nmA]
 refine wpList_nil ?_
 ((iterate 4 go_step);refine wp_region_lit ?_)
 refine AG hM16 4 (v:=.agg z16) rfl rfl rfl rfl AS rfl ?_
 simp only[nmA]
 refine Ax hM16 4 (cs:=z16) rfl rfl rfl rfl AS rfl Uf rfl rfl fun W17 hM17=>?_
 simp only[nm2,nm3] at hM17
 refine Bh hM17 3 (cs':=#[.int .i64 22]) rfl rfl rfl rfl (by show 0<1;decide) (rfl) Ba rfl rfl rfl fun W18 hM18=>?_
 simp only[nm2,nm3] at hM18
 refine wpList_nil ?_
 ((iterate 3 go_step);refine Ee rfl (enters_of Tryz.func26 rfl rfl) ((Hn _ _ _ 3 4 _ _ 22 _ hM18 rfl rfl rfl).mono ?_))
 rintro E u w' ⟨rfl,rfl,hMF⟩
 rw[if_neg (by decide)] at hMF
 simp only[nm2,nm3] at hMF
 exact⟨rfl,rfl,_,CI Tryz.results10 rfl rfl (hMF.load 4 rfl AS) (Fv (hMF.get 3 rfl) rfl Ba),rfl,hMF.below⟩
theorem cP (s:ByteArray) (hs:s.size=32) (N m x:Nat) (hN:leN s.data.toList=N) (em:m=N%(9223372036854775808*B64^3)) (hbit:CE N 255=1) (hm:m<PN) (ex:x=By iV (sqR m)) (hok:okN iV (sqR m)=true) (h0:x=0) (w:World):Calls Tryz.prog 10 #[.string s] w fun E w'=>E=.returned (.tuple #[pv4 Cp,.int .i64 22])∧Below w.heap.size w w':=by
 have HMIX:=Lh (show Tryz.prog.follows .mixedOrders=true by kernel_rfl)
 have KO:=Lh (fun w=>FW s w hs)
 rw[hN] at KO
 clear hN
 have hx:x<PN:=by rw[ex];exact Cz _
 have KB:=Lh (fun w=>Gv m w hm)
 rw[← ex,hok] at KB
 have hon:On (fz x,fz m):=by rw[ex];exact KJ m hok
 have oka:Ok4 (x,m,1,x*m%PN) ((fz x,fz m):Pt):=JM x m _ hx hm hon rfl rfl
 have KM:=Lh (fun w=>L5 x m hx hm hon w)
 obtain⟨a,ea⟩:=exza (((x,m,1,x*m%PN):N4))
 rw[← ea] at oka KM
 clear hon ex hok
 go_enter_defers Tryz.func10,Tryz.ntmps10
 have hM0:=Mem.start w
 (go_step;go_step;refine wp_region_lit ?_)
 refine Au hM0 (ob:=.cells z16 39 (0,0)) (fun W=>Ab rfl (En W)) rfl fun b1 W1 hM1=>?_
 simp only[nmA]
 refine Au hM1 (ob:=.cells #[.int .i64 0] 27 (0,0)) (fun W=>Ab rfl (LY W)) rfl fun b2 W2 hM2=>?_
 simp only[nmA]
 refine wpList_nil ?_
 ((iterate 3 go_step);refine wp_region_lit ?_)
 refine Ac (v:=.func (.func 26) #[] #[.pointer (some ⟨b2,0,none⟩),.pointer (some ⟨b1,0,none⟩)]) (fun W=>Bs rfl (by simp[Instr.makeFunc,Act.eval])) rfl ?_
 simp only[nmA]
 refine Hd (d:={ target:=.fn (.func 26) #[.pointer (some ⟨b2,0,none⟩),.pointer (some ⟨b1,0,none⟩)],args:=#[] }) (fun W=>ED W rfl rfl) rfl rfl ?_
 dsimp only
 refine wpList_nil ?_
 ((iterate 3 go_step);refine wp_region_lit ?_)
 refine Ad (.string s) ?_
 simp only[nmA]
 refine Aj hM2 (args:=#[.string s]) (v:=.tuple #[Aa N,.int .i64 0]) (rcf (enters_of Tryz.func28 rfl rfl)) (KO.out W2) rfl fun W3 hM3=>?_
 simp only[nmA]
 refine Ad (.tuple #[Aa N,.int .i64 0]) ?_
 simp only[nmA]
 refine Ad (Aa N) ?_
 simp only[nmA]
 refine Ad (.int .i64 0) ?_
 simp only[nmA]
 refine Au hM3 (ob:=.cells z4 24 (0,0)) (fun W=>Ab rfl (FJ W)) rfl fun b3 W4 hM4=>?_
 simp only[nmA]
 refine Ax hM4 0 (cs:=(elR N)) rfl rfl rfl rfl Bw rfl (AB N) rfl rfl fun W5 hM5=>?_
 simp only[nm2,nm3] at hM5
 refine Bh hM5 1 (cs':=#[.int .i64 0]) rfl rfl rfl rfl (by show 0<1;decide) (rfl) Ba rfl rfl rfl fun W6 hM6=>?_
 simp only[nm2,nm3] at hM6
 refine wpList_nil ?_
 ((iterate 4 go_step);refine wp_region_lit ?_)
 refine Bv hM6 1 (v:=.int .i64 0) rfl rfl rfl rfl Ba rfl ?_
 simp only[nmA]
 refine Ac (v:=.bool false) (fun W=>BY W rfl rfl rfl rfl) rfl ?_
 simp only[nmA]
 refine wpList_nil ?_
 ((iterate 7 go_step);refine wp_region_lit ?_)
 refine AG hM6 0 (v:=Aa N) rfl rfl rfl rfl Bw rfl ?_
 simp only[nmA]
 refine Aj hM6 (args:=#[Aa N,.int .i64 255]) (v:=.int .u64 ((1:Nat):Int)) (rcf (enters_of Tryz.func29 rfl rfl)) (L7 N 1 hbit W6) rfl fun W7 hM7=>?_
 simp only[nmA]
 refine Ac (v:=.bool true) (fun W=>Ai rfl rfl rfl (LP _ _ W)) rfl ?_
 simp only[nmA]
 refine Ad (.bool true) ?_
 simp only[nmA]
 refine wpList_nil ?_
 ((iterate 3 go_step);refine wp_region_lit ?_)
 refine Ac (v:=.pointer (some ⟨b3,3,none⟩)) (fun W=>Ay rfl rfl rfl (DY b3 W)) rfl ?_
 simp only[nmA]
 refine Bv hM7 0 (v:=.int .u64 (wd N 3:Int)) rfl rfl rfl rfl CA rfl ?_
 simp only[nmA]
 refine Ac (v:=.int .u64 (((wd N 3)%9223372036854775808:Nat):Int)) (fun W=>Ai rfl rfl rfl (Hg (wd N 3) (Cq _ _) _ _ W)) rfl ?_
 simp only[nmA]
 refine Ac (v:=.pointer (some ⟨b3,3,none⟩)) (fun W=>Ay rfl rfl rfl (DY b3 W)) rfl ?_
 simp only[nmA]
 refine Bh hM7 0 (cs':=(elR m)) rfl rfl rfl rfl (by show 3<4;decide) (by rw[em];exact Jp N) CA rfl rfl rfl fun W8 hM8=>?_
 simp only[nm2,nm3] at hM8
 refine wpList_nil ?_
 ((iterate 3 go_step);refine wp_region_lit ?_)
 refine AG hM8 0 (v:=Aa m) rfl rfl rfl rfl Bw rfl ?_
 simp only[nmA]
 refine Aj hM8 (args:=#[Aa m]) (v:=.string ⟨(byL m).toArray⟩) (rcf (enters_of Tryz.func31 rfl rfl)) (Ep m W8) rfl fun W9 hM9=>?_
 simp only[nmA]
 refine Aj hM9 (args:=#[.string ⟨(byL m).toArray⟩]) (v:=.tuple #[Aa m,.int .i64 0]) (rcf (enters_of Tryz.func30 rfl rfl)) (Ou m hm W9) rfl fun W10 hM10=>?_
 simp only[nmA]
 refine Ad (.tuple #[Aa m,.int .i64 0]) ?_
 simp only[nmA]
 refine Ad (Aa m) ?_
 simp only[nmA]
 refine Ad (.int .i64 0) ?_
 simp only[nmA]
 refine Au hM10 (ob:=.cells z4 36 (0,0)) (fun W=>Ab rfl (Bj W)) rfl fun b4 W11 hM11=>?_
 simp only[nmA]
 refine Ax hM11 0 (cs:=(elR m)) rfl rfl rfl rfl Av rfl (AB m) rfl rfl fun W12 hM12=>?_
 simp only[nm2,nm3] at hM12
 refine Bh hM12 2 (cs':=#[.int .i64 0]) rfl rfl rfl rfl (by show 0<1;decide) (rfl) Ba rfl rfl rfl fun W13 hM13=>?_
 simp only[nm2,nm3] at hM13
 refine wpList_nil ?_
 ((iterate 4 go_step);refine wp_region_lit ?_)
 refine Bv hM13 2 (v:=.int .i64 0) rfl rfl rfl rfl Ba rfl ?_
 simp only[nmA]
 refine Ac (v:=.bool false) (fun W=>BY W rfl rfl rfl rfl) rfl ?_
 simp only[nmA]
 refine wpList_nil ?_
 ((iterate 7 go_step);refine wp_region_lit ?_)
 refine AG hM13 0 (v:=Aa m) rfl rfl rfl rfl Av rfl ?_
 simp only[nmA]
 refine Aj hM13 (args:=#[Aa m]) (v:=.tuple #[Aa x,.bool true]) (rcf (enters_of Tryz.func32 rfl rfl)) (KB.out W13) rfl fun W14 hM14=>?_
 simp only[nmA]
 refine Ad (.tuple #[Aa x,.bool true]) ?_
 simp only[nmA]
 refine Ad (Aa x) ?_
 simp only[nmA]
 refine Ad (.bool true) ?_
 simp only[nmA]
 refine Au hM14 (ob:=.cells z4 36 (0,0)) (fun W=>Ab rfl (Bj W)) rfl fun b5 W15 hM15=>?_
 simp only[nmA]
 refine Ax hM15 0 (cs:=(elR x)) rfl rfl rfl rfl Av rfl (AB x) rfl rfl fun W16 hM16=>?_
 simp only[nm2,nm3] at hM16
 refine Ad (.bool true) ?_
 simp only[nmA]
 refine wpList_nil ?_
 ((iterate 4 go_step);refine wp_region_lit ?_)
 refine Ad (.bool true) ?_
 simp only[nmA]
 refine Ac (v:=.bool false) (fun W=>GM W rfl rfl rfl) rfl ?_
 simp only[nmA]
 refine wpList_nil ?_
 ((iterate 7 go_step);refine wp_region_lit ?_)
 refine AG hM16 0 (v:=Aa x) rfl rfl rfl rfl Av rfl ?_
 simp only[nmA]
 refine AG hM16 1 (v:=Aa m) rfl rfl rfl rfl Av rfl ?_
 simp only[nmA]
 refine Aj hM16 (args:=#[Aa x,Aa m]) (v:=.tuple #[pv4 a,.int .i64 0]) (rcf (enters_of Tryz.func33 rfl rfl)) (KM.out W16) rfl fun W17 hM17=>?_
 simp only[nmA]
 refine Ad (.tuple #[pv4 a,.int .i64 0]) ?_
 simp only[nmA]
 refine Ad (pv4 a) ?_
 simp only[nmA]
 refine Ad (.int .i64 0) ?_
 simp only[nmA]
 refine Ax hM17 4 (cs:=((pc4 a))) rfl rfl rfl rfl AS rfl (Cd _) rfl rfl fun W18 hM18=>?_
 simp only[nm2,nm3] at hM18
 refine Bh hM18 3 (cs':=#[.int .i64 0]) rfl rfl rfl rfl (by show 0<1;decide) (rfl) Ba rfl rfl rfl fun W19 hM19=>?_
 simp only[nm2,nm3] at hM19
 refine wpList_nil ?_
 ((iterate 4 go_step);refine An 6 HMIX.out (by decide) (by kernel_rfl) (by kernel_rfl) ?_)
 refine Az (.bool true) ?_;simp only[nmA]
 refine Az (.bool true) ?_;simp only[nmA]
 refine Ar hM19 0 (v:=Aa x) rfl rfl rfl rfl Av rfl rfl ?_;simp only[nmA]
 refine Aq (args:=#[.int .u64 0]) (v:=Aa 0) (rcf (enters_of Tryz.func34 rfl rfl)) (fun W _=>Cm 0 (by decide) W) rfl rfl ?_;simp only[nmA]
 refine As (v:=.bool true) (fun W=>Ai rfl rfl rfl (by rw[show true=decide (x=0) from (decide_eq_true h0).symm];exact LW x 0 _ _ W (BH hx) (BH Aw))) rfl rfl ?_;simp only[nmA]
 refine Az (.bool true) ?_;simp only[nmA]
 refine AX fun d os=>?_
 refine AF fun hap=>?_
 have hM20:=hM19.calls (below_regrown W19 d os)
 clear hap 
 generalize grow (redrawn W19 d) os=W20 at hM20 ⊢
 refine wpAny_done (by kernel_rfl) ?_ _
 ((iterate 3 go_step);refine wp_region_lit ?_)
 refine Bh hM20 3 (cs':=#[.int .i64 22]) rfl rfl rfl rfl (by show 0<1;decide) (rfl) Ba rfl rfl rfl fun W21 hM21=>?_
 simp only[nm2,nm3] at hM21
 refine wpList_nil ?_
 ((iterate 4 go_step);refine wp_region_lit ?_)
 refine Ad (.bool true) ?_
 simp only[nmA]
 refine wpList_nil ?_
 ((iterate 3 go_step);refine wp_region_lit ?_)
 refine AG hM21 4 (v:=pv4 a) rfl rfl rfl rfl AS rfl ?_
 simp only[nmA]
 refine Aj hM21 (args:=#[pv4 a]) (v:=pv4 ((GG a))) (rcf (enters_of Tryz.func35 rfl rfl)) (ZN oka W21) rfl fun W22 hM22=>?_
 simp only[nmA]
 refine Ax hM22 4 (cs:=((pc4 ((GG a))))) rfl rfl rfl rfl AS rfl (Cd _) rfl rfl fun W23 hM23=>?_
 simp only[nm2,nm3] at hM23
 refine wpList_nil ?_
 have hMd:=hM23.drew
 ((iterate 3 go_step);refine wp_region_noPanic (wp_region_held_drew HMIX.out (S:=fun w1=>w1.heap[b1]?=some (.cells ((pc4 ((GG a)))) 39 (0,0))∧w1.heap[b2]?=some (.cells #[.int .i64 22] 27 (0,0))) (⟨hMd.get 4 rfl,hMd.get 3 rfl⟩) fun hS=>?_))
 change wpAnyH _ _ _ _ _ 4 _ _ _
 generalize W23.drew=W24 at hMd hS ⊢
 have hM24:=hMd
 clear hMd
 refine JU 0 59 #[true,false,false,false] (by kernel_rfl) (v:=pv4 ((GG a))) (cs:=((pc4 ((GG a))))) (b:=b1) rfl rfl rfl rfl (fun W hW=>hW.1) rfl AS (by kernel_rfl) (by kernel_rfl) (by kernel_rfl) rfl hS ?_
 simp only[nmA]
 refine Ki 1 60 #[true,true,false,false] (by kernel_rfl) (v:=.int .i64 22) (cs:=#[.int .i64 22]) (b:=b2) rfl rfl rfl rfl (fun W hW=>hW.2) rfl Ba (by kernel_rfl) (by kernel_rfl) (by kernel_rfl) rfl hS ?_
 simp only[nmA]
 refine GN (n:=2) #[true,true,true,false] (by kernel_rfl) (by kernel_rfl) rfl hM24 4 (cs:=((pc4 ((GG a))))) rfl rfl rfl rfl AS rfl (Cd _) rfl rfl (fun W hW=>⟨hW.get 4 rfl,hW.get 3 rfl⟩) fun W25 hM25=>?_
 simp only[nm2,nm3] at hM25
 refine Jo (n:=3) #[true,true,true,true] (by kernel_rfl) (by kernel_rfl) rfl hM25 3 (cs':=#[.int .i64 22]) rfl rfl rfl rfl (by show 0<1;decide) (rfl) Ba rfl rfl rfl (fun W hW=>⟨hW.get 4 rfl,hW.get 3 rfl⟩) fun W26 hM26=>?_
 simp only[nm2,nm3] at hM26
 refine wpAnyH_done (by kernel_rfl) ?_ _
 refine NoPanic.normal ?_
 ((iterate 3 go_step);refine Ee rfl (enters_of Tryz.func26 rfl rfl) ((Hn _ _ _ 3 4 _ _ 22 _ hM26 rfl rfl rfl).mono ?_))
 rintro E u w' ⟨rfl,rfl,hMF⟩
 rw[if_neg (by decide)] at hMF
 simp only[nm2,nm3] at hMF
 exact⟨rfl,rfl,_,CI Tryz.results10 rfl rfl (hMF.load 4 rfl AS) (Fv (hMF.get 3 rfl) rfl Ba),rfl,hMF.below⟩
theorem Xb (s:ByteArray) (hs:s.size=32) (N m x:Nat) (hN:leN s.data.toList=N) (em:m=N%(9223372036854775808*B64^3)) (hbit:CE N 255=0) (hm:m<PN) (ex:x=By iV (sqR m)) (hok:okN iV (sqR m)=true)  (w:World):Calls Tryz.prog 10 #[.string s] w fun E w'=>E=.returned (.tuple #[pv4 (x,m,1,x*m%PN),.int .i64 0])∧Below w.heap.size w w':=by
 have HMIX:=Lh (show Tryz.prog.follows .mixedOrders=true by kernel_rfl)
 have KO:=Lh (fun w=>FW s w hs)
 rw[hN] at KO
 clear hN
 have hx:x<PN:=by rw[ex];exact Cz _
 have KB:=Lh (fun w=>Gv m w hm)
 rw[← ex,hok] at KB
 have hon:On (fz x,fz m):=by rw[ex];exact KJ m hok
 have oka:Ok4 (x,m,1,x*m%PN) ((fz x,fz m):Pt):=JM x m _ hx hm hon rfl rfl
 have KM:=Lh (fun w=>L5 x m hx hm hon w)
 obtain⟨a,ea⟩:=exza (((x,m,1,x*m%PN):N4))
 rw[← ea] at oka KM ⊢
 clear hon ex hok
 go_enter_defers Tryz.func10,Tryz.ntmps10
 have hM0:=Mem.start w
 (go_step;go_step;refine wp_region_lit ?_)
 refine Au hM0 (ob:=.cells z16 39 (0,0)) (fun W=>Ab rfl (En W)) rfl fun b1 W1 hM1=>?_
 simp only[nmA]
 refine Au hM1 (ob:=.cells #[.int .i64 0] 27 (0,0)) (fun W=>Ab rfl (LY W)) rfl fun b2 W2 hM2=>?_
 simp only[nmA]
 refine wpList_nil ?_
 ((iterate 3 go_step);refine wp_region_lit ?_)
 refine Ac (v:=.func (.func 26) #[] #[.pointer (some ⟨b2,0,none⟩),.pointer (some ⟨b1,0,none⟩)]) (fun W=>Bs rfl (by simp[Instr.makeFunc,Act.eval])) rfl ?_
 simp only[nmA]
 refine Hd (d:={ target:=.fn (.func 26) #[.pointer (some ⟨b2,0,none⟩),.pointer (some ⟨b1,0,none⟩)],args:=#[] }) (fun W=>ED W rfl rfl) rfl rfl ?_
 dsimp only
 refine wpList_nil ?_
 ((iterate 3 go_step);refine wp_region_lit ?_)
 refine Ad (.string s) ?_
 simp only[nmA]
 refine Aj hM2 (args:=#[.string s]) (v:=.tuple #[Aa N,.int .i64 0]) (rcf (enters_of Tryz.func28 rfl rfl)) (KO.out W2) rfl fun W3 hM3=>?_
 simp only[nmA]
 refine Ad (.tuple #[Aa N,.int .i64 0]) ?_
 simp only[nmA]
 refine Ad (Aa N) ?_
 simp only[nmA]
 refine Ad (.int .i64 0) ?_
 simp only[nmA]
 refine Au hM3 (ob:=.cells z4 24 (0,0)) (fun W=>Ab rfl (FJ W)) rfl fun b3 W4 hM4=>?_
 simp only[nmA]
 refine Ax hM4 0 (cs:=(elR N)) rfl rfl rfl rfl Bw rfl (AB N) rfl rfl fun W5 hM5=>?_
 simp only[nm2,nm3] at hM5
 refine Bh hM5 1 (cs':=#[.int .i64 0]) rfl rfl rfl rfl (by show 0<1;decide) (rfl) Ba rfl rfl rfl fun W6 hM6=>?_
 simp only[nm2,nm3] at hM6
 refine wpList_nil ?_
 ((iterate 4 go_step);refine wp_region_lit ?_)
 refine Bv hM6 1 (v:=.int .i64 0) rfl rfl rfl rfl Ba rfl ?_
 simp only[nmA]
 refine Ac (v:=.bool false) (fun W=>BY W rfl rfl rfl rfl) rfl ?_
 simp only[nmA]
 refine wpList_nil ?_
 ((iterate 7 go_step);refine wp_region_lit ?_)
 refine AG hM6 0 (v:=Aa N) rfl rfl rfl rfl Bw rfl ?_
 simp only[nmA]
 refine Aj hM6 (args:=#[Aa N,.int .i64 255]) (v:=.int .u64 ((0:Nat):Int)) (rcf (enters_of Tryz.func29 rfl rfl)) (L7 N 0 hbit W6) rfl fun W7 hM7=>?_
 simp only[nmA]
 refine Ac (v:=.bool false) (fun W=>Ai rfl rfl rfl (Sj _ _ W)) rfl ?_
 simp only[nmA]
 refine Ad (.bool false) ?_
 simp only[nmA]
 refine wpList_nil ?_
 ((iterate 3 go_step);refine wp_region_lit ?_)
 refine Ac (v:=.pointer (some ⟨b3,3,none⟩)) (fun W=>Ay rfl rfl rfl (DY b3 W)) rfl ?_
 simp only[nmA]
 refine Bv hM7 0 (v:=.int .u64 (wd N 3:Int)) rfl rfl rfl rfl CA rfl ?_
 simp only[nmA]
 refine Ac (v:=.int .u64 (((wd N 3)%9223372036854775808:Nat):Int)) (fun W=>Ai rfl rfl rfl (Hg (wd N 3) (Cq _ _) _ _ W)) rfl ?_
 simp only[nmA]
 refine Ac (v:=.pointer (some ⟨b3,3,none⟩)) (fun W=>Ay rfl rfl rfl (DY b3 W)) rfl ?_
 simp only[nmA]
 refine Bh hM7 0 (cs':=(elR m)) rfl rfl rfl rfl (by show 3<4;decide) (by rw[em];exact Jp N) CA rfl rfl rfl fun W8 hM8=>?_
 simp only[nm2,nm3] at hM8
 refine wpList_nil ?_
 ((iterate 3 go_step);refine wp_region_lit ?_)
 refine AG hM8 0 (v:=Aa m) rfl rfl rfl rfl Bw rfl ?_
 simp only[nmA]
 refine Aj hM8 (args:=#[Aa m]) (v:=.string ⟨(byL m).toArray⟩) (rcf (enters_of Tryz.func31 rfl rfl)) (Ep m W8) rfl fun W9 hM9=>?_
 simp only[nmA]
 refine Aj hM9 (args:=#[.string ⟨(byL m).toArray⟩]) (v:=.tuple #[Aa m,.int .i64 0]) (rcf (enters_of Tryz.func30 rfl rfl)) (Ou m hm W9) rfl fun W10 hM10=>?_
 simp only[nmA]
 refine Ad (.tuple #[Aa m,.int .i64 0]) ?_
 simp only[nmA]
 refine Ad (Aa m) ?_
 simp only[nmA]
 refine Ad (.int .i64 0) ?_
 simp only[nmA]
 refine Au hM10 (ob:=.cells z4 36 (0,0)) (fun W=>Ab rfl (Bj W)) rfl fun b4 W11 hM11=>?_
 simp only[nmA]
 refine Ax hM11 0 (cs:=(elR m)) rfl rfl rfl rfl Av rfl (AB m) rfl rfl fun W12 hM12=>?_
 simp only[nm2,nm3] at hM12
 refine Bh hM12 2 (cs':=#[.int .i64 0]) rfl rfl rfl rfl (by show 0<1;decide) (rfl) Ba rfl rfl rfl fun W13 hM13=>?_
 simp only[nm2,nm3] at hM13
 refine wpList_nil ?_
 ((iterate 4 go_step);refine wp_region_lit ?_)
 refine Bv hM13 2 (v:=.int .i64 0) rfl rfl rfl rfl Ba rfl ?_
 simp only[nmA]
 refine Ac (v:=.bool false) (fun W=>BY W rfl rfl rfl rfl) rfl ?_
 simp only[nmA]
 refine wpList_nil ?_
 ((iterate 7 go_step);refine wp_region_lit ?_)
 refine AG hM13 0 (v:=Aa m) rfl rfl rfl rfl Av rfl ?_
 simp only[nmA]
 refine Aj hM13 (args:=#[Aa m]) (v:=.tuple #[Aa x,.bool true]) (rcf (enters_of Tryz.func32 rfl rfl)) (KB.out W13) rfl fun W14 hM14=>?_
 simp only[nmA]
 refine Ad (.tuple #[Aa x,.bool true]) ?_
 simp only[nmA]
 refine Ad (Aa x) ?_
 simp only[nmA]
 refine Ad (.bool true) ?_
 simp only[nmA]
 refine Au hM14 (ob:=.cells z4 36 (0,0)) (fun W=>Ab rfl (Bj W)) rfl fun b5 W15 hM15=>?_
 simp only[nmA]
 refine Ax hM15 0 (cs:=(elR x)) rfl rfl rfl rfl Av rfl (AB x) rfl rfl fun W16 hM16=>?_
 simp only[nm2,nm3] at hM16
 refine Ad (.bool true) ?_
 simp only[nmA]
 refine wpList_nil ?_
 ((iterate 4 go_step);refine wp_region_lit ?_)
 refine Ad (.bool true) ?_
 simp only[nmA]
 refine Ac (v:=.bool false) (fun W=>GM W rfl rfl rfl) rfl ?_
 simp only[nmA]
 refine wpList_nil ?_
 ((iterate 7 go_step);refine wp_region_lit ?_)
 refine AG hM16 0 (v:=Aa x) rfl rfl rfl rfl Av rfl ?_
 simp only[nmA]
 refine AG hM16 1 (v:=Aa m) rfl rfl rfl rfl Av rfl ?_
 simp only[nmA]
 refine Aj hM16 (args:=#[Aa x,Aa m]) (v:=.tuple #[pv4 a,.int .i64 0]) (rcf (enters_of Tryz.func33 rfl rfl)) (KM.out W16) rfl fun W17 hM17=>?_
 simp only[nmA]
 refine Ad (.tuple #[pv4 a,.int .i64 0]) ?_
 simp only[nmA]
 refine Ad (pv4 a) ?_
 simp only[nmA]
 refine Ad (.int .i64 0) ?_
 simp only[nmA]
 refine Ax hM17 4 (cs:=((pc4 a))) rfl rfl rfl rfl AS rfl (Cd _) rfl rfl fun W18 hM18=>?_
 simp only[nm2,nm3] at hM18
 refine Bh hM18 3 (cs':=#[.int .i64 0]) rfl rfl rfl rfl (by show 0<1;decide) (rfl) Ba rfl rfl rfl fun W19 hM19=>?_
 simp only[nm2,nm3] at hM19
 refine wpList_nil ?_
 ((iterate 4 go_step);refine An 6 HMIX.out (by decide) (by kernel_rfl) (by kernel_rfl) ?_)
 refine Az (.bool false) ?_;simp only[nmA]
 refine Az (.bool false) ?_;simp only[nmA]
 refine Bb rfl rfl ?_;simp only[nmA]
 refine Bb rfl rfl ?_;simp only[nmA]
 refine Bb rfl rfl ?_;simp only[nmA]
 refine Az (.bool false) ?_;simp only[nmA]
 refine AX fun d os=>?_
 refine AF fun hap=>?_
 have hM20:=hM19.calls (below_regrown W19 d os)
 clear hap 
 generalize grow (redrawn W19 d) os=W20 at hM20 ⊢
 refine wpAny_done (by kernel_rfl) ?_ _
 ((iterate 8 go_step);refine wp_region_lit ?_)
 refine Ad (.bool false) ?_
 simp only[nmA]
 refine wpList_nil ?_
 have hMd:=hM20.drew
 ((iterate 7 go_step);refine wp_region_noPanic (wp_region_held_drew HMIX.out (S:=fun w1=>w1.heap[b1]?=some (.cells ((pc4 a)) 39 (0,0))∧w1.heap[b2]?=some (.cells #[.int .i64 0] 27 (0,0))) (⟨hMd.get 4 rfl,hMd.get 3 rfl⟩) fun hS=>?_))
 change wpAnyH _ _ _ _ _ 4 _ _ _
 generalize W20.drew=W21 at hMd hS ⊢
 have hM21:=hMd
 clear hMd
 refine JU 0 59 #[true,false,false,false] (by kernel_rfl) (v:=pv4 a) (cs:=((pc4 a))) (b:=b1) rfl rfl rfl rfl (fun W hW=>hW.1) rfl AS (by kernel_rfl) (by kernel_rfl) (by kernel_rfl) rfl hS ?_
 simp only[nmA]
 refine Ki 1 60 #[true,true,false,false] (by kernel_rfl) (v:=.int .i64 0) (cs:=#[.int .i64 0]) (b:=b2) rfl rfl rfl rfl (fun W hW=>hW.2) rfl Ba (by kernel_rfl) (by kernel_rfl) (by kernel_rfl) rfl hS ?_
 simp only[nmA]
 refine GN (n:=2) #[true,true,true,false] (by kernel_rfl) (by kernel_rfl) rfl hM21 4 (cs:=((pc4 a))) rfl rfl rfl rfl AS rfl (Cd _) rfl rfl (fun W hW=>⟨hW.get 4 rfl,hW.get 3 rfl⟩) fun W22 hM22=>?_
 simp only[nm2,nm3] at hM22
 refine Jo (n:=3) #[true,true,true,true] (by kernel_rfl) (by kernel_rfl) rfl hM22 3 (cs':=#[.int .i64 0]) rfl rfl rfl rfl (by show 0<1;decide) (rfl) Ba rfl rfl rfl (fun W hW=>⟨hW.get 4 rfl,hW.get 3 rfl⟩) fun W23 hM23=>?_
 simp only[nm2,nm3] at hM23
 refine wpAnyH_done (by kernel_rfl) ?_ _
 refine NoPanic.normal ?_
 ((iterate 3 go_step);refine Ee rfl (enters_of Tryz.func26 rfl rfl) ((Hn _ _ _ 3 4 _ _ 0 _ hM23 rfl rfl rfl).mono ?_))
 rintro E u w' ⟨rfl,rfl,hMF⟩
 rw[if_pos rfl] at hMF
 exact⟨rfl,rfl,_,CI Tryz.results10 rfl rfl (hMF.load 4 rfl AS) (Fv (hMF.get 3 rfl) rfl Ba),rfl,hMF.below⟩
theorem XM (s:ByteArray) (hs:s.size=32) (N m x:Nat) (hN:leN s.data.toList=N) (em:m=N%(9223372036854775808*B64^3)) (hbit:CE N 255=1) (hm:m<PN) (ex:x=By iV (sqR m)) (hok:okN iV (sqR m)=true) (h0:¬ x=0) (w:World):Calls Tryz.prog 10 #[.string s] w fun E w'=>E=.returned (.tuple #[pv4 ((GG (x,m,1,x*m%PN))),.int .i64 0])∧Below w.heap.size w w':=by
 have HMIX:=Lh (show Tryz.prog.follows .mixedOrders=true by kernel_rfl)
 have KO:=Lh (fun w=>FW s w hs)
 rw[hN] at KO
 clear hN
 have hx:x<PN:=by rw[ex];exact Cz _
 have KB:=Lh (fun w=>Gv m w hm)
 rw[← ex,hok] at KB
 have hon:On (fz x,fz m):=by rw[ex];exact KJ m hok
 have oka:Ok4 (x,m,1,x*m%PN) ((fz x,fz m):Pt):=JM x m _ hx hm hon rfl rfl
 have KM:=Lh (fun w=>L5 x m hx hm hon w)
 obtain⟨a,ea⟩:=exza (((x,m,1,x*m%PN):N4))
 rw[← ea] at oka KM ⊢
 clear hon ex hok
 go_enter_defers Tryz.func10,Tryz.ntmps10
 have hM0:=Mem.start w
 (go_step;go_step;refine wp_region_lit ?_)
 refine Au hM0 (ob:=.cells z16 39 (0,0)) (fun W=>Ab rfl (En W)) rfl fun b1 W1 hM1=>?_
 simp only[nmA]
 refine Au hM1 (ob:=.cells #[.int .i64 0] 27 (0,0)) (fun W=>Ab rfl (LY W)) rfl fun b2 W2 hM2=>?_
 simp only[nmA]
 refine wpList_nil ?_
 ((iterate 3 go_step);refine wp_region_lit ?_)
 refine Ac (v:=.func (.func 26) #[] #[.pointer (some ⟨b2,0,none⟩),.pointer (some ⟨b1,0,none⟩)]) (fun W=>Bs rfl (by simp[Instr.makeFunc,Act.eval])) rfl ?_
 simp only[nmA]
 refine Hd (d:={ target:=.fn (.func 26) #[.pointer (some ⟨b2,0,none⟩),.pointer (some ⟨b1,0,none⟩)],args:=#[] }) (fun W=>ED W rfl rfl) rfl rfl ?_
 dsimp only
 refine wpList_nil ?_
 ((iterate 3 go_step);refine wp_region_lit ?_)
 refine Ad (.string s) ?_
 simp only[nmA]
 refine Aj hM2 (args:=#[.string s]) (v:=.tuple #[Aa N,.int .i64 0]) (rcf (enters_of Tryz.func28 rfl rfl)) (KO.out W2) rfl fun W3 hM3=>?_
 simp only[nmA]
 refine Ad (.tuple #[Aa N,.int .i64 0]) ?_
 simp only[nmA]
 refine Ad (Aa N) ?_
 simp only[nmA]
 refine Ad (.int .i64 0) ?_
 simp only[nmA]
 refine Au hM3 (ob:=.cells z4 24 (0,0)) (fun W=>Ab rfl (FJ W)) rfl fun b3 W4 hM4=>?_
 simp only[nmA]
 refine Ax hM4 0 (cs:=(elR N)) rfl rfl rfl rfl Bw rfl (AB N) rfl rfl fun W5 hM5=>?_
 simp only[nm2,nm3] at hM5
 refine Bh hM5 1 (cs':=#[.int .i64 0]) rfl rfl rfl rfl (by show 0<1;decide) (rfl) Ba rfl rfl rfl fun W6 hM6=>?_
 simp only[nm2,nm3] at hM6
 refine wpList_nil ?_
 ((iterate 4 go_step);refine wp_region_lit ?_)
 refine Bv hM6 1 (v:=.int .i64 0) rfl rfl rfl rfl Ba rfl ?_
 simp only[nmA]
 refine Ac (v:=.bool false) (fun W=>BY W rfl rfl rfl rfl) rfl ?_
 simp only[nmA]
 refine wpList_nil ?_
 ((iterate 7 go_step);refine wp_region_lit ?_)
 refine AG hM6 0 (v:=Aa N) rfl rfl rfl rfl Bw rfl ?_
 simp only[nmA]
 refine Aj hM6 (args:=#[Aa N,.int .i64 255]) (v:=.int .u64 ((1:Nat):Int)) (rcf (enters_of Tryz.func29 rfl rfl)) (L7 N 1 hbit W6) rfl fun W7 hM7=>?_
 simp only[nmA]
 refine Ac (v:=.bool true) (fun W=>Ai rfl rfl rfl (LP _ _ W)) rfl ?_
 simp only[nmA]
 refine Ad (.bool true) ?_
 simp only[nmA]
 refine wpList_nil ?_
 ((iterate 3 go_step);refine wp_region_lit ?_)
 refine Ac (v:=.pointer (some ⟨b3,3,none⟩)) (fun W=>Ay rfl rfl rfl (DY b3 W)) rfl ?_
 simp only[nmA]
 refine Bv hM7 0 (v:=.int .u64 (wd N 3:Int)) rfl rfl rfl rfl CA rfl ?_
 simp only[nmA]
 refine Ac (v:=.int .u64 (((wd N 3)%9223372036854775808:Nat):Int)) (fun W=>Ai rfl rfl rfl (Hg (wd N 3) (Cq _ _) _ _ W)) rfl ?_
 simp only[nmA]
 refine Ac (v:=.pointer (some ⟨b3,3,none⟩)) (fun W=>Ay rfl rfl rfl (DY b3 W)) rfl ?_
 simp only[nmA]
 refine Bh hM7 0 (cs':=(elR m)) rfl rfl rfl rfl (by show 3<4;decide) (by rw[em];exact Jp N) CA rfl rfl rfl fun W8 hM8=>?_
 simp only[nm2,nm3] at hM8
 refine wpList_nil ?_
 ((iterate 3 go_step);refine wp_region_lit ?_)
 refine AG hM8 0 (v:=Aa m) rfl rfl rfl rfl Bw rfl ?_
 simp only[nmA]
 refine Aj hM8 (args:=#[Aa m]) (v:=.string ⟨(byL m).toArray⟩) (rcf (enters_of Tryz.func31 rfl rfl)) (Ep m W8) rfl fun W9 hM9=>?_
 simp only[nmA]
 refine Aj hM9 (args:=#[.string ⟨(byL m).toArray⟩]) (v:=.tuple #[Aa m,.int .i64 0]) (rcf (enters_of Tryz.func30 rfl rfl)) (Ou m hm W9) rfl fun W10 hM10=>?_
 simp only[nmA]
 refine Ad (.tuple #[Aa m,.int .i64 0]) ?_
 simp only[nmA]
 refine Ad (Aa m) ?_
 simp only[nmA]
 refine Ad (.int .i64 0) ?_
 simp only[nmA]
 refine Au hM10 (ob:=.cells z4 36 (0,0)) (fun W=>Ab rfl (Bj W)) rfl fun b4 W11 hM11=>?_
 simp only[nmA]
 refine Ax hM11 0 (cs:=(elR m)) rfl rfl rfl rfl Av rfl (AB m) rfl rfl fun W12 hM12=>?_
 simp only[nm2,nm3] at hM12
 refine Bh hM12 2 (cs':=#[.int .i64 0]) rfl rfl rfl rfl (by show 0<1;decide) (rfl) Ba rfl rfl rfl fun W13 hM13=>?_
 simp only[nm2,nm3] at hM13
 refine wpList_nil ?_
 ((iterate 4 go_step);refine wp_region_lit ?_)
 refine Bv hM13 2 (v:=.int .i64 0) rfl rfl rfl rfl Ba rfl ?_
 simp only[nmA]
 refine Ac (v:=.bool false) (fun W=>BY W rfl rfl rfl rfl) rfl ?_
 simp only[nmA]
 refine wpList_nil ?_
 ((iterate 7 go_step);refine wp_region_lit ?_)
 refine AG hM13 0 (v:=Aa m) rfl rfl rfl rfl Av rfl ?_
 simp only[nmA]
 refine Aj hM13 (args:=#[Aa m]) (v:=.tuple #[Aa x,.bool true]) (rcf (enters_of Tryz.func32 rfl rfl)) (KB.out W13) rfl fun W14 hM14=>?_
 simp only[nmA]
 refine Ad (.tuple #[Aa x,.bool true]) ?_
 simp only[nmA]
 refine Ad (Aa x) ?_
 simp only[nmA]
 refine Ad (.bool true) ?_
 simp only[nmA]
 refine Au hM14 (ob:=.cells z4 36 (0,0)) (fun W=>Ab rfl (Bj W)) rfl fun b5 W15 hM15=>?_
 simp only[nmA]
 refine Ax hM15 0 (cs:=(elR x)) rfl rfl rfl rfl Av rfl (AB x) rfl rfl fun W16 hM16=>?_
 simp only[nm2,nm3] at hM16
 refine Ad (.bool true) ?_
 simp only[nmA]
 refine wpList_nil ?_
 ((iterate 4 go_step);refine wp_region_lit ?_)
 refine Ad (.bool true) ?_
 simp only[nmA]
 refine Ac (v:=.bool false) (fun W=>GM W rfl rfl rfl) rfl ?_
 simp only[nmA]
 refine wpList_nil ?_
 ((iterate 7 go_step);refine wp_region_lit ?_)
 refine AG hM16 0 (v:=Aa x) rfl rfl rfl rfl Av rfl ?_
 simp only[nmA]
 refine AG hM16 1 (v:=Aa m) rfl rfl rfl rfl Av rfl ?_
 simp only[nmA]
 refine Aj hM16 (args:=#[Aa x,Aa m]) (v:=.tuple #[pv4 a,.int .i64 0]) (rcf (enters_of Tryz.func33 rfl rfl)) (KM.out W16) rfl fun W17 hM17=>?_
 simp only[nmA]
 refine Ad (.tuple #[pv4 a,.int .i64 0]) ?_
 simp only[nmA]
 refine Ad (pv4 a) ?_
 simp only[nmA]
 refine Ad (.int .i64 0) ?_
 simp only[nmA]
 refine Ax hM17 4 (cs:=((pc4 a))) rfl rfl rfl rfl AS rfl (Cd _) rfl rfl fun W18 hM18=>?_
 simp only[nm2,nm3] at hM18
 refine Bh hM18 3 (cs':=#[.int .i64 0]) rfl rfl rfl rfl (by show 0<1;decide) (rfl) Ba rfl rfl rfl fun W19 hM19=>?_
 simp only[nm2,nm3] at hM19
 refine wpList_nil ?_
 ((iterate 4 go_step);refine An 6 HMIX.out (by decide) (by kernel_rfl) (by kernel_rfl) ?_)
 refine Az (.bool true) ?_;simp only[nmA]
 refine Az (.bool true) ?_;simp only[nmA]
 refine Ar hM19 0 (v:=Aa x) rfl rfl rfl rfl Av rfl rfl ?_;simp only[nmA]
 refine Aq (args:=#[.int .u64 0]) (v:=Aa 0) (rcf (enters_of Tryz.func34 rfl rfl)) (fun W _=>Cm 0 (by decide) W) rfl rfl ?_;simp only[nmA]
 refine As (v:=.bool false) (fun W=>Ai rfl rfl rfl (by rw[show false=decide (x=0) from (decide_eq_false h0).symm];exact LW x 0 _ _ W (BH hx) (BH Aw))) rfl rfl ?_;simp only[nmA]
 refine Az (.bool false) ?_;simp only[nmA]
 refine AX fun d os=>?_
 refine AF fun hap=>?_
 have hM20:=hM19.calls (below_regrown W19 d os)
 clear hap 
 generalize grow (redrawn W19 d) os=W20 at hM20 ⊢
 refine wpAny_done (by kernel_rfl) ?_ _
 ((iterate 8 go_step);refine wp_region_lit ?_)
 refine Ad (.bool true) ?_
 simp only[nmA]
 refine wpList_nil ?_
 ((iterate 3 go_step);refine wp_region_lit ?_)
 refine AG hM20 4 (v:=pv4 a) rfl rfl rfl rfl AS rfl ?_
 simp only[nmA]
 refine Aj hM20 (args:=#[pv4 a]) (v:=pv4 ((GG a))) (rcf (enters_of Tryz.func35 rfl rfl)) (ZN oka W20) rfl fun W21 hM21=>?_
 simp only[nmA]
 refine Ax hM21 4 (cs:=((pc4 ((GG a))))) rfl rfl rfl rfl AS rfl (Cd _) rfl rfl fun W22 hM22=>?_
 simp only[nm2,nm3] at hM22
 refine wpList_nil ?_
 have hMd:=hM22.drew
 ((iterate 3 go_step);refine wp_region_noPanic (wp_region_held_drew HMIX.out (S:=fun w1=>w1.heap[b1]?=some (.cells ((pc4 ((GG a)))) 39 (0,0))∧w1.heap[b2]?=some (.cells #[.int .i64 0] 27 (0,0))) (⟨hMd.get 4 rfl,hMd.get 3 rfl⟩) fun hS=>?_))
 change wpAnyH _ _ _ _ _ 4 _ _ _
 generalize W22.drew=W23 at hMd hS ⊢
 have hM23:=hMd
 clear hMd
 refine JU 0 59 #[true,false,false,false] (by kernel_rfl) (v:=pv4 ((GG a))) (cs:=((pc4 ((GG a))))) (b:=b1) rfl rfl rfl rfl (fun W hW=>hW.1) rfl AS (by kernel_rfl) (by kernel_rfl) (by kernel_rfl) rfl hS ?_
 simp only[nmA]
 refine Ki 1 60 #[true,true,false,false] (by kernel_rfl) (v:=.int .i64 0) (cs:=#[.int .i64 0]) (b:=b2) rfl rfl rfl rfl (fun W hW=>hW.2) rfl Ba (by kernel_rfl) (by kernel_rfl) (by kernel_rfl) rfl hS ?_
 simp only[nmA]
 refine GN (n:=2) #[true,true,true,false] (by kernel_rfl) (by kernel_rfl) rfl hM23 4 (cs:=((pc4 ((GG a))))) rfl rfl rfl rfl AS rfl (Cd _) rfl rfl (fun W hW=>⟨hW.get 4 rfl,hW.get 3 rfl⟩) fun W24 hM24=>?_
 simp only[nm2,nm3] at hM24
 refine Jo (n:=3) #[true,true,true,true] (by kernel_rfl) (by kernel_rfl) rfl hM24 3 (cs':=#[.int .i64 0]) rfl rfl rfl rfl (by show 0<1;decide) (rfl) Ba rfl rfl rfl (fun W hW=>⟨hW.get 4 rfl,hW.get 3 rfl⟩) fun W25 hM25=>?_
 simp only[nm2,nm3] at hM25
 refine wpAnyH_done (by kernel_rfl) ?_ _
 refine NoPanic.normal ?_
 ((iterate 3 go_step);refine Ee rfl (enters_of Tryz.func26 rfl rfl) ((Hn _ _ _ 3 4 _ _ 0 _ hM25 rfl rfl rfl).mono ?_))
 rintro E u w' ⟨rfl,rfl,hMF⟩
 rw[if_pos rfl] at hMF
 exact⟨rfl,rfl,_,CI Tryz.results10 rfl rfl (hMF.load 4 rfl AS) (Fv (hMF.get 3 rfl) rfl Ba),rfl,hMF.below⟩
theorem U6 (N:Nat):∃ (y x:Nat) (ok b:Bool),y=N%(9223372036854775808*B64^3)∧y≤N∧x=By iV (sqR y)∧okN iV (sqR y)=ok∧OF N=b∧PW N=(if y<PN then (if ok=true then (if b=true∧x=0 then 22 else 0) else 22) else 2)∧YX N=(if b=true then (0+PN-x)%PN else x)∧XU N=(if PW N=0 then (fz (YX N),fz y) else Cf) :=
 ⟨Mk N,By iV (sqR (Mk N)),okN iV (sqR (Mk N)),OF N,rfl,Nat.mod_le _ _,rfl,rfl,rfl,by unfold PW;exact Eq.refl _,by unfold YX;exact Eq.refl _,by unfold XU;exact Eq.refl _⟩
theorem RQ (s:ByteArray) (hs:s.size=32):∃ a:N4,Ok4 a (XU (leN s.data.toList))∧∀ w,Calls Tryz.prog 10 #[.string s] w fun E w'=>E=.returned (.tuple #[pv4 a,.int .i64 (PW (leN s.data.toList):Int)])∧Below w.heap.size w w':=by
 have hNB:=dx s hs
 obtain⟨N,hN⟩:=exzb (leN s.data.toList)
 rw[hN] at hNB ⊢
 obtain⟨b0,b1⟩:=Zj N
 obtain⟨y,x,ok,b,ey,hyN,ex,hok,hb,hE,hX,hP⟩:=U6 N
 have hmB:y<B64^4:=Nat.lt_of_le_of_lt hyN hNB
 have hxl:x<PN:=by rw[ex];exact Cz _
 by_cases hm:y<PN
 ·rw[if_pos hm] at hE
  cases ok
  ·rw[if_neg (by decide)] at hE
   rw[hE,if_neg (by decide)] at hP
   rw[hE,hP]
   exact⟨Cp,Fh,fun w=>fK s hs N y _ x hN ey rfl hm ex hok w⟩
  ·rw[if_pos rfl] at hE
   have hon:On (fz x,fz y):=by rw[ex];exact KJ y hok
   have hat:Ok4 (x,y,1,x*y%PN) (fz x,fz y):=JM x y _ hxl hm hon rfl rfl
   cases b
   ·rw[if_neg (by simp)] at hE
    rw[if_neg (by decide)] at hX
    rw[hE,if_pos rfl,hX] at hP
    rw[hE,hP]
    exact⟨_,hat,fun w=>Xb s hs N y x hN ey (b0 hb) hm ex hok w⟩
   ·by_cases h0:x=0
    ·rw[if_pos ⟨rfl,h0⟩] at hE
     rw[hE,if_neg (by decide)] at hP
     rw[hE,hP]
     exact⟨Cp,Fh,fun w=>cP s hs N y x hN ey (b1 hb) hm ex hok h0 w⟩
    ·rw[if_neg (fun h=>h0 h.2)] at hE
     rw[if_pos rfl] at hX
     rw[hE,if_pos rfl,hX,Hy x hxl] at hP
     have hn:Ok4 (GG (x,y,1,x*y%PN)) (-fz x,fz y):=Td hat
     rw[hE,hP]
     exact⟨_,hn,fun w=>XM s hs N y x hN ey (b1 hb) hm ex hok h0 w⟩
 ·rw[if_neg hm] at hE
  rw[hE,if_neg (by decide)] at hP
  rw[hE,hP]
  exact⟨Cp,Fh,fun w=>UK s hs N y _ hN ey hmB rfl hm w⟩
end Go.Proofs.YtnaldciakclccaaGreat
