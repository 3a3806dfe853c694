/- The curve's Zero, numbersOf, Neg, NewAdder (layer 20): their contracts. The curve's Double and Adder.Add (layer 20): their contracts. -/
import Derived.Test.YtnaldciakclccaaGreatEk08
namespace Go.Proofs.YtnaldciakclccaaGreat
set_option maxRecDepth 20000
set_option linter.unusedSimpArgs false
set_option linter.unusedVariables false
open Go.RowKit Go.Sort
set_option maxRecDepth 20000 in
set_option maxHeartbeats 8000000 in
theorem zero_any (w:World):Calls Tryz.prog 27 #[] w fun E w'=>E=.returned (ptV 0 1 1 0)∧Below w.heap.size w w':=by
 go_enter Tryz.func27,Tryz.ntmps27
 have hM0:=Mem.start w
 (go_step;go_step;refine wp_region_lit ?_)
 refine wl_new hM0 (f:=fun b=>.pointer (some ⟨b,0,none⟩)) (ob:=.cells z16 39 (0,0)) (fun W=>run_alloc_of rfl (al_Pt W)) rfl fun b1 W1 hM1=>?_
 simp only[nm0,nm1,nm2,nm3]
 refine wpList_nil ?_
 (go_step;go_step;go_step;refine wp_region_lit ?_)
 refine wl_call hM1 (args:=#[.int .u64 0]) (v:=numV 0) (fun W=>run_call_fn W (enters_of Tryz.func34 rfl rfl) rfl (by simp[Act.eval])) (psmall_any_ 0 (by decide) W1) rfl fun W2 hM2=>?_
 simp only[nm0,nm1,nm2,nm3]
 refine wl_call hM2 (args:=#[.int .u64 1]) (v:=numV 1) (fun W=>run_call_fn W (enters_of Tryz.func34 rfl rfl) rfl (by simp[Act.eval])) (psmall_any_ 1 (by decide) W2) rfl fun W3 hM3=>?_
 simp only[nm0,nm1,nm2,nm3]
 obtain⟨v1,ev1⟩:∃ x,x=0*1%PN:=⟨_,rfl⟩
 have pv1:v1<PN:=by rw[ev1];exact Nat.mod_lt _ PN_pos
 have KA:=fun W=>at_any 0 1 W (by decide +kernel) (by decide +kernel)
 simp only[← ev1] at KA
 refine wl_call hM3 (args:=#[numV 0,numV 1]) (v:=ptV 0 1 1 v1) (fun W=>run_call_fn W (enters_of Tryz.func73 rfl rfl) rfl (by simp[Act.eval])) (KA W3) rfl fun W4 hM4=>?_
 simp only[nm0,nm1,nm2,nm3]
 refine wl_set hM4 0 (cs:=((ptL 0 1 1 v1).toArray)) rfl rfl rfl rfl rowPt rfl (one_pt 0 1 1 v1) rfl rfl fun W5 hM5=>?_
 simp only[nm2,nm3] at hM5
 refine wpList_nil ?_
 (go_step;go_step;go_step;refine bodyPost_ret (v:=ptV 0 1 1 v1) (results_arr Tryz.results27 rfl (hM5.load 0 rfl rowPt)) rfl ⟨?_,hM5.below⟩)
 exact by rw[ev1,show 0*1%PN=0 from by decide +kernel]
set_option maxRecDepth 20000 in
set_option maxHeartbeats 8000000 in
theorem newadder_any (w:World):Calls Tryz.prog 156 #[] w fun E w'=>E=.returned (numV dN)∧Below w.heap.size w w':=by
 go_enter Tryz.func156,Tryz.ntmps156
 have hM0:=Mem.start w
 (go_step;go_step;refine wp_region_lit ?_)
 refine wl_new hM0 (f:=fun b=>.pointer (some ⟨b,0,none⟩)) (ob:=.cells z4 187 (0,0)) (fun W=>run_alloc_of rfl (al_Ad W)) rfl fun b1 W1 hM1=>?_
 simp only[nm0,nm1,nm2,nm3]
 refine wpList_nil ?_
 (go_step;go_step;go_step;refine wp_region_lit ?_)
 refine wl_call hM1 (args:=#[]) (v:=numV dN) (fun W=>run_call_fn W (enters_of Tryz.func78 rfl rfl) rfl (by simp[Act.eval])) (curD_any W1) rfl fun W2 hM2=>?_
 simp only[nm0,nm1,nm2,nm3]
 refine wl_pure (v:=numV dN) (fun W=>run_build_of rfl (by simp[Act.eval]) (bdA dN W)) rfl ?_
 simp only[nm0,nm1,nm2,nm3]
 refine wl_set hM2 0 (cs:=(elR dN)) rfl rfl rfl rfl rowAd rfl (one_el dN) rfl rfl fun W3 hM3=>?_
 simp only[nm2,nm3] at hM3
 refine wpList_nil ?_
 (go_step;go_step;go_step;refine bodyPost_ret (v:=numV dN) (results_arr Tryz.results156 rfl (hM3.load 0 rfl rowAd)) rfl ⟨?_,hM3.below⟩)
 exact rfl
set_option maxRecDepth 20000 in
set_option maxHeartbeats 8000000 in
theorem numbers_any (X Y Z T:Nat) (hX:X<PN) (hY:Y<PN) (hZ:Z<PN) (hT:T<PN) (hzZ:0<Z) (w:World):Calls Tryz.prog 82 #[ptV X Y Z T] w fun E w'=>E=.returned (.tuple #[numV X,numV Y,numV Z,numV T])∧Below w.heap.size w w':=by
 have HMIX:=Lib.hid (show Tryz.prog.follows .mixedOrders=true by kernel_rfl)
 go_enter Tryz.func82,Tryz.ntmps82
 have hM0:=Mem.start w
 (go_step;go_step;refine wp_region_lit ?_)
 refine wl_new hM0 (f:=fun b=>.pointer (some ⟨b,0,none⟩)) (ob:=.cells ((ptL X Y Z T).toArray) 39 (0,0)) (fun W=>run_box_of rfl rfl (bx_Pt X Y Z T W)) rfl fun b1 W1 hM1=>?_
 simp only[nm0,nm1,nm2,nm3]
 refine wl_new hM1 (f:=fun b=>.pointer (some ⟨b,0,none⟩)) (ob:=.cells z4 36 (0,0)) (fun W=>run_alloc_of rfl (al_El W)) rfl fun b2 W2 hM2=>?_
 simp only[nm0,nm1,nm2,nm3]
 refine wl_new hM2 (f:=fun b=>.pointer (some ⟨b,0,none⟩)) (ob:=.cells z4 36 (0,0)) (fun W=>run_alloc_of rfl (al_El W)) rfl fun b3 W3 hM3=>?_
 simp only[nm0,nm1,nm2,nm3]
 refine wl_new hM3 (f:=fun b=>.pointer (some ⟨b,0,none⟩)) (ob:=.cells z4 36 (0,0)) (fun W=>run_alloc_of rfl (al_El W)) rfl fun b4 W4 hM4=>?_
 simp only[nm0,nm1,nm2,nm3]
 refine wl_new hM4 (f:=fun b=>.pointer (some ⟨b,0,none⟩)) (ob:=.cells z4 36 (0,0)) (fun W=>run_alloc_of rfl (al_El W)) rfl fun b5 W5 hM5=>?_
 simp only[nm0,nm1,nm2,nm3]
 refine wpList_nil ?_
 (go_step;go_step;go_step;go_step;refine wp_region_lit ?_)
 refine wl_row hM5 4 (v:=ptV X Y Z T) rfl rfl rfl rfl rowPt rfl ?_
 simp only[nm0,nm1,nm2,nm3]
 refine wl_pure (v:=.agg z16) (fun W=>run_build_of rfl (by simp[Act.eval]) (bdP0 W)) rfl ?_
 simp only[nm0,nm1,nm2,nm3]
 refine wl_pure (v:=.bool false) (fun W=>run_bin_of rfl rfl rfl (eq_pt_zero X Y Z T _ _ W hX hY hZ hT hzZ)) rfl ?_
 simp only[nm0,nm1,nm2,nm3]
 refine wpList_nil ?_
 have hMd:=hM5.drew
 (go_step;go_step;go_step;go_step;go_step;go_step;go_step;refine wp_region_noPanic (wp_region_held_drew HMIX.out (S:=fun w1=>w1.heap[b1]?=some (.cells ((ptL X Y Z T).toArray) 39 (0,0))) (hMd.get 4 rfl) fun hS=>?_))
 change wpAnyH _ _ _ _ _ 16 _ _ _
 generalize W5.drew=W6 at hMd hS ⊢
 have hM6:=hMd
 clear hMd
 refine hd_take 0 10 #[true,false,false,false,false,false,false,false,false,false,false,false,false,false,false,false] (by kernel_rfl) (v:=.pointer (some ⟨b1,0,none⟩)) rfl rfl (by kernel_rfl) (by kernel_rfl) (by kernel_rfl) rfl (fun W _=>run_field_of rfl rfl (fa_Pt0 b1 W)) hS ?_
 simp only[nm0,nm1,nm2,nm3]
 refine hd_take 1 11 #[true,true,false,false,false,false,false,false,false,false,false,false,false,false,false,false] (by kernel_rfl) (v:=.pointer (some ⟨b1,0,none⟩)) rfl rfl (by kernel_rfl) (by kernel_rfl) (by kernel_rfl) rfl (fun W _=>run_index_of rfl rfl rfl (ix_P0 b1 W)) hS ?_
 simp only[nm0,nm1,nm2,nm3]
 refine hd_part 2 12 #[true,true,true,false,false,false,false,false,false,false,false,false,false,false,false,false] (by kernel_rfl) (v:=numV X) (cs:=((ptL X Y Z T).toArray)) (sub:=elR X) (b:=b1) rfl rfl rfl rfl (fun W hW=>hW) rfl rfl rowEl (by kernel_rfl) (by kernel_rfl) (by kernel_rfl) rfl hS ?_
 simp only[nm0,nm1,nm2,nm3]
 refine hd_take 3 13 #[true,true,true,true,false,false,false,false,false,false,false,false,false,false,false,false] (by kernel_rfl) (v:=.pointer (some ⟨b1,0,none⟩)) rfl rfl (by kernel_rfl) (by kernel_rfl) (by kernel_rfl) rfl (fun W _=>run_field_of rfl rfl (fa_Pt0 b1 W)) hS ?_
 simp only[nm0,nm1,nm2,nm3]
 refine hd_take 4 14 #[true,true,true,true,true,false,false,false,false,false,false,false,false,false,false,false] (by kernel_rfl) (v:=.pointer (some ⟨b1,4,none⟩)) rfl rfl (by kernel_rfl) (by kernel_rfl) (by kernel_rfl) rfl (fun W _=>run_index_of rfl rfl rfl (ix_P1 b1 W)) hS ?_
 simp only[nm0,nm1,nm2,nm3]
 refine hd_part 5 15 #[true,true,true,true,true,true,false,false,false,false,false,false,false,false,false,false] (by kernel_rfl) (v:=numV Y) (cs:=((ptL X Y Z T).toArray)) (sub:=elR Y) (b:=b1) rfl rfl rfl rfl (fun W hW=>hW) rfl rfl rowEl (by kernel_rfl) (by kernel_rfl) (by kernel_rfl) rfl hS ?_
 simp only[nm0,nm1,nm2,nm3]
 refine hd_take 6 16 #[true,true,true,true,true,true,true,false,false,false,false,false,false,false,false,false] (by kernel_rfl) (v:=.pointer (some ⟨b1,0,none⟩)) rfl rfl (by kernel_rfl) (by kernel_rfl) (by kernel_rfl) rfl (fun W _=>run_field_of rfl rfl (fa_Pt0 b1 W)) hS ?_
 simp only[nm0,nm1,nm2,nm3]
 refine hd_take 7 17 #[true,true,true,true,true,true,true,true,false,false,false,false,false,false,false,false] (by kernel_rfl) (v:=.pointer (some ⟨b1,8,none⟩)) rfl rfl (by kernel_rfl) (by kernel_rfl) (by kernel_rfl) rfl (fun W _=>run_index_of rfl rfl rfl (ix_P2 b1 W)) hS ?_
 simp only[nm0,nm1,nm2,nm3]
 refine hd_part 8 18 #[true,true,true,true,true,true,true,true,true,false,false,false,false,false,false,false] (by kernel_rfl) (v:=numV Z) (cs:=((ptL X Y Z T).toArray)) (sub:=elR Z) (b:=b1) rfl rfl rfl rfl (fun W hW=>hW) rfl rfl rowEl (by kernel_rfl) (by kernel_rfl) (by kernel_rfl) rfl hS ?_
 simp only[nm0,nm1,nm2,nm3]
 refine hd_take 9 19 #[true,true,true,true,true,true,true,true,true,true,false,false,false,false,false,false] (by kernel_rfl) (v:=.pointer (some ⟨b1,0,none⟩)) rfl rfl (by kernel_rfl) (by kernel_rfl) (by kernel_rfl) rfl (fun W _=>run_field_of rfl rfl (fa_Pt0 b1 W)) hS ?_
 simp only[nm0,nm1,nm2,nm3]
 refine hd_take 10 20 #[true,true,true,true,true,true,true,true,true,true,true,false,false,false,false,false] (by kernel_rfl) (v:=.pointer (some ⟨b1,12,none⟩)) rfl rfl (by kernel_rfl) (by kernel_rfl) (by kernel_rfl) rfl (fun W _=>run_index_of rfl rfl rfl (ix_P3 b1 W)) hS ?_
 simp only[nm0,nm1,nm2,nm3]
 refine hd_part 11 21 #[true,true,true,true,true,true,true,true,true,true,true,true,false,false,false,false] (by kernel_rfl) (v:=numV T) (cs:=((ptL X Y Z T).toArray)) (sub:=elR T) (b:=b1) rfl rfl rfl rfl (fun W hW=>hW) rfl rfl rowEl (by kernel_rfl) (by kernel_rfl) (by kernel_rfl) rfl hS ?_
 simp only[nm0,nm1,nm2,nm3]
 refine hd_set (n:=12) #[true,true,true,true,true,true,true,true,true,true,true,true,true,false,false,false] (by kernel_rfl) (by kernel_rfl) rfl hM6 3 (cs:=(elR X)) rfl rfl rfl rfl rowEl rfl (one_el X) rfl rfl (fun W hW=>hW.get 4 rfl) fun W7 hM7=>?_
 simp only[nm2,nm3] at hM7
 refine hd_set (n:=13) #[true,true,true,true,true,true,true,true,true,true,true,true,true,true,false,false] (by kernel_rfl) (by kernel_rfl) rfl hM7 2 (cs:=(elR Y)) rfl rfl rfl rfl rowEl rfl (one_el Y) rfl rfl (fun W hW=>hW.get 4 rfl) fun W8 hM8=>?_
 simp only[nm2,nm3] at hM8
 refine hd_set (n:=14) #[true,true,true,true,true,true,true,true,true,true,true,true,true,true,true,false] (by kernel_rfl) (by kernel_rfl) rfl hM8 1 (cs:=(elR Z)) rfl rfl rfl rfl rowEl rfl (one_el Z) rfl rfl (fun W hW=>hW.get 4 rfl) fun W9 hM9=>?_
 simp only[nm2,nm3] at hM9
 refine hd_set (n:=15) #[true,true,true,true,true,true,true,true,true,true,true,true,true,true,true,true] (by kernel_rfl) (by kernel_rfl) rfl hM9 0 (cs:=(elR T)) rfl rfl rfl rfl rowEl rfl (one_el T) rfl rfl (fun W hW=>hW.get 4 rfl) fun W10 hM10=>?_
 simp only[nm2,nm3] at hM10
 refine wpAnyH_done (by kernel_rfl) ?_ _
 refine NoPanic.normal ?_
 (go_step;go_step;go_step;refine bodyPost_ret (v:=.tuple #[numV X,numV Y,numV Z,numV T]) (results_arr4 Tryz.results82 rfl rfl rfl rfl (hM10.load 3 rfl rowEl) (hM10.load 2 rfl rowEl) (hM10.load 1 rfl rowEl) (hM10.load 0 rfl rowEl)) rfl ⟨?_,hM10.below⟩)
 exact rfl
set_option maxRecDepth 20000 in
set_option maxHeartbeats 8000000 in
theorem neg_any (X Y Z T:Nat) (hX:X<PN) (hY:Y<PN) (hZ:Z<PN) (hT:T<PN) (hzZ:0<Z) (w:World):Calls Tryz.prog 35 #[ptV X Y Z T] w fun E w'=>E=.returned (ptV ((0+PN-X)%PN) Y Z ((0+PN-T)%PN))∧Below w.heap.size w w':=by
 have HMIX:=Lib.hid (show Tryz.prog.follows .mixedOrders=true by kernel_rfl)
 go_enter Tryz.func35,Tryz.ntmps35
 have hM0:=Mem.start w
 (go_step;go_step;refine wp_region_lit ?_)
 refine wl_new hM0 (f:=fun b=>.pointer (some ⟨b,0,none⟩)) (ob:=.cells ((ptL X Y Z T).toArray) 39 (0,0)) (fun W=>run_box_of rfl rfl (bx_Pt X Y Z T W)) rfl fun b1 W1 hM1=>?_
 simp only[nm0,nm1,nm2,nm3]
 refine wl_new hM1 (f:=fun b=>.pointer (some ⟨b,0,none⟩)) (ob:=.cells z16 39 (0,0)) (fun W=>run_alloc_of rfl (al_Pt W)) rfl fun b2 W2 hM2=>?_
 simp only[nm0,nm1,nm2,nm3]
 refine wpList_nil ?_
 (go_step;go_step;go_step;refine wp_region_lit ?_)
 refine wl_row hM2 1 (v:=ptV X Y Z T) rfl rfl rfl rfl rowPt rfl ?_
 simp only[nm0,nm1,nm2,nm3]
 refine wl_call hM2 (args:=#[ptV X Y Z T]) (v:=.tuple #[numV X,numV Y,numV Z,numV T]) (fun W=>run_call_fn W (enters_of Tryz.func82 rfl rfl) rfl (by simp[Act.eval])) (numbers_any X Y Z T hX hY hZ hT hzZ W2) rfl fun W3 hM3=>?_
 simp only[nm0,nm1,nm2,nm3]
 refine wl_pure (v:=.tuple #[numV X,numV Y,numV Z,numV T]) (fun _=>rfl) rfl ?_
 simp only[nm0,nm1,nm2,nm3]
 refine wl_pure (v:=numV X) (fun _=>rfl) rfl ?_
 simp only[nm0,nm1,nm2,nm3]
 refine wl_pure (v:=numV Y) (fun _=>rfl) rfl ?_
 simp only[nm0,nm1,nm2,nm3]
 refine wl_pure (v:=numV Z) (fun _=>rfl) rfl ?_
 simp only[nm0,nm1,nm2,nm3]
 refine wl_pure (v:=numV T) (fun _=>rfl) rfl ?_
 simp only[nm0,nm1,nm2,nm3]
 refine wl_new hM3 (f:=fun b=>.pointer (some ⟨b,0,none⟩)) (ob:=.cells z4 36 (0,0)) (fun W=>run_alloc_of rfl (al_El W)) rfl fun b3 W4 hM4=>?_
 simp only[nm0,nm1,nm2,nm3]
 refine wl_new hM4 (f:=fun b=>.pointer (some ⟨b,0,none⟩)) (ob:=.cells z4 36 (0,0)) (fun W=>run_alloc_of rfl (al_El W)) rfl fun b4 W5 hM5=>?_
 simp only[nm0,nm1,nm2,nm3]
 refine wl_new hM5 (f:=fun b=>.pointer (some ⟨b,0,none⟩)) (ob:=.cells z4 36 (0,0)) (fun W=>run_alloc_of rfl (al_El W)) rfl fun b5 W6 hM6=>?_
 simp only[nm0,nm1,nm2,nm3]
 refine wl_new hM6 (f:=fun b=>.pointer (some ⟨b,0,none⟩)) (ob:=.cells z4 36 (0,0)) (fun W=>run_alloc_of rfl (al_El W)) rfl fun b6 W7 hM7=>?_
 simp only[nm0,nm1,nm2,nm3]
 refine wl_set hM7 3 (cs:=(elR X)) rfl rfl rfl rfl rowEl rfl (one_el X) rfl rfl fun W8 hM8=>?_
 simp only[nm2,nm3] at hM8
 refine wl_set hM8 2 (cs:=(elR Y)) rfl rfl rfl rfl rowEl rfl (one_el Y) rfl rfl fun W9 hM9=>?_
 simp only[nm2,nm3] at hM9
 refine wl_set hM9 1 (cs:=(elR Z)) rfl rfl rfl rfl rowEl rfl (one_el Z) rfl rfl fun W10 hM10=>?_
 simp only[nm2,nm3] at hM10
 refine wl_set hM10 0 (cs:=(elR T)) rfl rfl rfl rfl rowEl rfl (one_el T) rfl rfl fun W11 hM11=>?_
 simp only[nm2,nm3] at hM11
 refine wpList_nil ?_
 (go_step;go_step;go_step;refine wp_region_inw 8 HMIX.out (by decide) (by kernel_rfl) (by kernel_rfl) ?_)
 refine inw_row hM11 3 (v:=numV X) rfl rfl rfl rfl rowEl rfl rfl ?_;simp only[nm0,nm1,nm2,nm3]
 obtain⟨v1,ev1⟩:∃ x,x=(0+PN-X)%PN:=⟨_,rfl⟩
 have pv1:v1<PN:=by rw[ev1];exact Nat.mod_lt _ PN_pos
 have Kv1:=fun W=>pneg_any X W hX
 simp only[← ev1] at Kv1
 refine inw_callV (args:=#[numV X]) (v:=numV v1) (fun W=>run_call_fn W (enters_of Tryz.func83 rfl rfl) rfl (by simp[Act.eval])) (fun W _=>Kv1 W) rfl rfl ?_;simp only[nm0,nm1,nm2,nm3]
 refine inw_row hM11 2 (v:=numV Y) rfl rfl rfl rfl rowEl rfl rfl ?_;simp only[nm0,nm1,nm2,nm3]
 refine inw_row hM11 1 (v:=numV Z) rfl rfl rfl rfl rowEl rfl rfl ?_;simp only[nm0,nm1,nm2,nm3]
 refine inw_row hM11 0 (v:=numV T) rfl rfl rfl rfl rowEl rfl rfl ?_;simp only[nm0,nm1,nm2,nm3]
 obtain⟨v2,ev2⟩:∃ x,x=(0+PN-T)%PN:=⟨_,rfl⟩
 have pv2:v2<PN:=by rw[ev2];exact Nat.mod_lt _ PN_pos
 have Kv2:=fun W=>pneg_any T W hT
 simp only[← ev2] at Kv2
 refine inw_callV (args:=#[numV T]) (v:=numV v2) (fun W=>run_call_fn W (enters_of Tryz.func83 rfl rfl) rfl (by simp[Act.eval])) (fun W _=>Kv2 W) rfl rfl ?_;simp only[nm0,nm1,nm2,nm3]
 refine inw_pure (v:=ptV v1 Y Z v2) (fun W=>run_build_of rfl (by simp[Act.eval]) (bd4 v1 Y Z v2 W)) rfl rfl ?_;simp only[nm0,nm1,nm2,nm3]
 refine inw_pure (v:=ptV v1 Y Z v2) (fun W=>run_build_of rfl (by simp[Act.eval]) (bdP v1 Y Z v2 W)) rfl rfl ?_;simp only[nm0,nm1,nm2,nm3]
 refine inw_fin fun d os=>?_
 refine given_nil fun hap=>?_
 have hM12:=hM11.calls (below_regrown W11 d os)
 clear hap 
 generalize grow (redrawn W11 d) os=W12 at hM12 ⊢
 change wpAny _ _ _ _ 1 _ _ _
 refine any_set (n:=8) (by kernel_rfl) rfl hM12 4 (cs:=((ptL v1 Y Z v2).toArray)) rfl rfl rfl rfl rowPt rfl (one_pt v1 Y Z v2) rfl rfl fun W13 hM13=>?_
 simp only[nm2,nm3] at hM13
 refine wpAny_done (by kernel_rfl) ?_ _
 (go_step;go_step;go_step;refine bodyPost_ret (v:=ptV v1 Y Z v2) (results_arr Tryz.results35 rfl (hM13.load 4 rfl rowPt)) rfl ⟨?_,hM13.below⟩)
 exact by rw[ev2,ev1]
set_option maxRecDepth 20000 in
set_option maxHeartbeats 8000000 in
theorem xy_any (X Y Z T:Nat) (hX:X<PN) (hY:Y<PN) (hZ:Z<PN) (hT:T<PN) (hzZ:0<Z) (w:World):Calls Tryz.prog 92 #[ptV X Y Z T] w fun E w'=>E=.returned (.tuple #[numV (X*IV Z%PN),numV (Y*IV Z%PN)])∧Below w.heap.size w w':=by
 have HMIX:=Lib.hid (show Tryz.prog.follows .mixedOrders=true by kernel_rfl)
 go_enter Tryz.func92,Tryz.ntmps92
 have hM0:=Mem.start w
 (go_step;go_step;refine wp_region_lit ?_)
 refine wl_new hM0 (f:=fun b=>.pointer (some ⟨b,0,none⟩)) (ob:=.cells ((ptL X Y Z T).toArray) 39 (0,0)) (fun W=>run_box_of rfl rfl (bx_Pt X Y Z T W)) rfl fun b1 W1 hM1=>?_
 simp only[nm0,nm1,nm2,nm3]
 refine wl_new hM1 (f:=fun b=>.pointer (some ⟨b,0,none⟩)) (ob:=.cells z4 36 (0,0)) (fun W=>run_alloc_of rfl (al_El W)) rfl fun b2 W2 hM2=>?_
 simp only[nm0,nm1,nm2,nm3]
 refine wl_new hM2 (f:=fun b=>.pointer (some ⟨b,0,none⟩)) (ob:=.cells z4 36 (0,0)) (fun W=>run_alloc_of rfl (al_El W)) rfl fun b3 W3 hM3=>?_
 simp only[nm0,nm1,nm2,nm3]
 refine wpList_nil ?_
 (go_step;go_step;go_step;refine wp_region_lit ?_)
 refine wl_row hM3 2 (v:=ptV X Y Z T) rfl rfl rfl rfl rowPt rfl ?_
 simp only[nm0,nm1,nm2,nm3]
 refine wl_call hM3 (args:=#[ptV X Y Z T]) (v:=.tuple #[numV X,numV Y,numV Z,numV T]) (fun W=>run_call_fn W (enters_of Tryz.func82 rfl rfl) rfl (by simp[Act.eval])) (numbers_any X Y Z T hX hY hZ hT hzZ W3) rfl fun W4 hM4=>?_
 simp only[nm0,nm1,nm2,nm3]
 refine wl_pure (v:=.tuple #[numV X,numV Y,numV Z,numV T]) (fun _=>rfl) rfl ?_
 simp only[nm0,nm1,nm2,nm3]
 refine wl_pure (v:=numV X) (fun _=>rfl) rfl ?_
 simp only[nm0,nm1,nm2,nm3]
 refine wl_pure (v:=numV Y) (fun _=>rfl) rfl ?_
 simp only[nm0,nm1,nm2,nm3]
 refine wl_pure (v:=numV Z) (fun _=>rfl) rfl ?_
 simp only[nm0,nm1,nm2,nm3]
 refine wl_pure (v:=numV T) (fun _=>rfl) rfl ?_
 simp only[nm0,nm1,nm2,nm3]
 refine wl_new hM4 (f:=fun b=>.pointer (some ⟨b,0,none⟩)) (ob:=.cells z4 36 (0,0)) (fun W=>run_alloc_of rfl (al_El W)) rfl fun b4 W5 hM5=>?_
 simp only[nm0,nm1,nm2,nm3]
 refine wl_new hM5 (f:=fun b=>.pointer (some ⟨b,0,none⟩)) (ob:=.cells z4 36 (0,0)) (fun W=>run_alloc_of rfl (al_El W)) rfl fun b5 W6 hM6=>?_
 simp only[nm0,nm1,nm2,nm3]
 refine wl_set hM6 3 (cs:=(elR X)) rfl rfl rfl rfl rowEl rfl (one_el X) rfl rfl fun W7 hM7=>?_
 simp only[nm2,nm3] at hM7
 refine wl_set hM7 2 (cs:=(elR Y)) rfl rfl rfl rfl rowEl rfl (one_el Y) rfl rfl fun W8 hM8=>?_
 simp only[nm2,nm3] at hM8
 refine wl_set hM8 1 (cs:=(elR Z)) rfl rfl rfl rfl rowEl rfl (one_el Z) rfl rfl fun W9 hM9=>?_
 simp only[nm2,nm3] at hM9
 refine wl_set hM9 0 (cs:=(elR T)) rfl rfl rfl rfl rowEl rfl (one_el T) rfl rfl fun W10 hM10=>?_
 simp only[nm2,nm3] at hM10
 refine wpList_nil ?_
 (go_step;go_step;go_step;refine wp_region_lit ?_)
 refine wl_row hM10 1 (v:=numV Z) rfl rfl rfl rfl rowEl rfl ?_
 simp only[nm0,nm1,nm2,nm3]
 obtain⟨v1,ev1⟩:∃ x,x=IV Z:=⟨_,rfl⟩
 have pv1:v1<PN:=by rw[ev1];exact IV_lt _
 have Kv1:=fun W=>pinv_any' Z W hZ
 simp only[← ev1] at Kv1
 refine wl_call hM10 (args:=#[numV Z]) (v:=numV v1) (fun W=>run_call_fn W (enters_of Tryz.func81 rfl rfl) rfl (by simp[Act.eval])) (Kv1 W10) rfl fun W11 hM11=>?_
 simp only[nm0,nm1,nm2,nm3]
 refine wl_new hM11 (f:=fun b=>.pointer (some ⟨b,0,none⟩)) (ob:=.cells z4 36 (0,0)) (fun W=>run_alloc_of rfl (al_El W)) rfl fun b6 W12 hM12=>?_
 simp only[nm0,nm1,nm2,nm3]
 refine wl_set hM12 0 (cs:=(elR v1)) rfl rfl rfl rfl rowEl rfl (one_el v1) rfl rfl fun W13 hM13=>?_
 simp only[nm2,nm3] at hM13
 refine wpList_nil ?_
 (go_step;go_step;go_step;refine wp_region_inw 8 HMIX.out (by decide) (by kernel_rfl) (by kernel_rfl) ?_)
 refine inw_row hM13 4 (v:=numV X) rfl rfl rfl rfl rowEl rfl rfl ?_;simp only[nm0,nm1,nm2,nm3]
 refine inw_row hM13 0 (v:=numV v1) rfl rfl rfl rfl rowEl rfl rfl ?_;simp only[nm0,nm1,nm2,nm3]
 refine inw_slice (n:=2) (L:=elR X++elR v1) (T:=36) (fun W=>run_slice_of rfl (by simp[Act.eval]) (bs2 X v1 W)) rfl rfl ?_;simp only[List.nil_append,List.cons_append]
 obtain⟨v2,ev2⟩:∃ x,x=X*v1%PN:=⟨_,rfl⟩
 have pv2:v2<PN:=by rw[ev2];exact Nat.mod_lt _ PN_pos
 have Kv2:=mul_two' X v1 hX pv1
 rw[← ev2] at Kv2
 refine inw_callS 2 18 (v:=numV v2) rfl rfl (fun _=>rfl) (fun b W=>run_call_fn W (enters_of Tryz.func76 rfl rfl) rfl (by simp[Act.eval,Act.put])) (fun b W h=>Kv2 b W h) ?_;simp only[nm0,nm1,nm2,nm3]
 refine inw_row hM13 3 (v:=numV Y) rfl rfl rfl rfl rowEl rfl rfl ?_;simp only[nm0,nm1,nm2,nm3]
 refine inw_row hM13 0 (v:=numV v1) rfl rfl rfl rfl rowEl rfl rfl ?_;simp only[nm0,nm1,nm2,nm3]
 refine inw_slice (n:=2) (L:=elR Y++elR v1) (T:=36) (fun W=>run_slice_of rfl (by simp[Act.eval]) (bs2 Y v1 W)) rfl rfl ?_;simp only[List.nil_append,List.cons_append]
 obtain⟨v3,ev3⟩:∃ x,x=Y*v1%PN:=⟨_,rfl⟩
 have pv3:v3<PN:=by rw[ev3];exact Nat.mod_lt _ PN_pos
 have Kv3:=mul_two' Y v1 hY pv1
 rw[← ev3] at Kv3
 refine inw_callS 6 22 (v:=numV v3) rfl rfl (fun _=>rfl) (fun b W=>run_call_fn W (enters_of Tryz.func76 rfl rfl) rfl (by simp[Act.eval,Act.put])) (fun b W h=>Kv3 b W h) ?_;simp only[nm0,nm1,nm2,nm3]
 refine inw_fin fun d os=>?_
 refine given_mk (t:=18) rfl fun s2=>?_
 refine given_mk (t:=22) rfl fun s6=>?_
 refine given_nil fun hap=>?_
 simp only[nm0,nm1,nm2,nm3] at hap ⊢
 have hM14:=hM13.calls (below_regrown W13 d os)
 clear hap 
 generalize grow (redrawn W13 d) os=W14 at hM14 ⊢
 change wpAny _ _ _ _ 2 _ _ _
 refine any_set (n:=8) (by kernel_rfl) rfl hM14 4 (cs:=(elR v2)) rfl rfl rfl rfl rowEl rfl (one_el v2) rfl rfl fun W15 hM15=>?_
 simp only[nm2,nm3] at hM15
 refine any_set (n:=9) (by kernel_rfl) rfl hM15 3 (cs:=(elR v3)) rfl rfl rfl rfl rowEl rfl (one_el v3) rfl rfl fun W16 hM16=>?_
 simp only[nm2,nm3] at hM16
 refine wpAny_done (by kernel_rfl) ?_ _
 (go_step;go_step;go_step;refine bodyPost_ret (v:=.tuple #[numV v2,numV v3]) (results_arr2 Tryz.results92 rfl rfl (hM16.load 4 rfl rowEl) (hM16.load 3 rfl rowEl)) rfl ⟨?_,hM16.below⟩)
 exact by rw[ev3,ev2,ev1]
/-- What Double comes to. -/
def dblX (X Y Z:Nat):Nat:=(((X*Y%PN)+(X*Y%PN))%PN)*((((Z*Z%PN)+(Z*Z%PN))%PN+PN-(((Y*Y%PN)+PN-(X*X%PN))%PN))%PN)%PN
def dblY (X Y:Nat):Nat:=(((Y*Y%PN)+PN-(X*X%PN))%PN)*(((Y*Y%PN)+(X*X%PN))%PN)%PN
def dblZ (X Y Z:Nat):Nat:=((((Z*Z%PN)+(Z*Z%PN))%PN+PN-(((Y*Y%PN)+PN-(X*X%PN))%PN))%PN)*(((Y*Y%PN)+PN-(X*X%PN))%PN)%PN
def dblT (X Y:Nat):Nat:=(((X*Y%PN)+(X*Y%PN))%PN)*(((Y*Y%PN)+(X*X%PN))%PN)%PN
set_option maxRecDepth 20000 in
set_option maxHeartbeats 8000000 in
theorem double_any (X Y Z T:Nat) (hX:X<PN) (hY:Y<PN) (hZ:Z<PN) (hT:T<PN) (hzZ:0<Z) (w:World):Calls Tryz.prog 161 #[ptV X Y Z T] w fun E w'=>E=.returned (ptV (dblX X Y Z) (dblY X Y) (dblZ X Y Z) (dblT X Y))∧Below w.heap.size w w':=by
 unfold dblX dblY dblZ dblT
 have HMIX:=Lib.hid (show Tryz.prog.follows .mixedOrders=true by kernel_rfl)
 go_enter Tryz.func161,Tryz.ntmps161
 have hM0:=Mem.start w
 (go_step;go_step;refine wp_region_lit ?_)
 refine wl_new hM0 (f:=fun b=>.pointer (some ⟨b,0,none⟩)) (ob:=.cells ((ptL X Y Z T).toArray) 39 (0,0)) (fun W=>run_box_of rfl rfl (bx_Pt X Y Z T W)) rfl fun b1 W1 hM1=>?_
 simp only[nm0,nm1,nm2,nm3]
 refine wl_new hM1 (f:=fun b=>.pointer (some ⟨b,0,none⟩)) (ob:=.cells z16 39 (0,0)) (fun W=>run_alloc_of rfl (al_Pt W)) rfl fun b2 W2 hM2=>?_
 simp only[nm0,nm1,nm2,nm3]
 refine wpList_nil ?_
 (go_step;go_step;go_step;refine wp_region_lit ?_)
 refine wl_row hM2 1 (v:=ptV X Y Z T) rfl rfl rfl rfl rowPt rfl ?_
 simp only[nm0,nm1,nm2,nm3]
 refine wl_call hM2 (args:=#[ptV X Y Z T]) (v:=.tuple #[numV X,numV Y,numV Z,numV T]) (fun W=>run_call_fn W (enters_of Tryz.func82 rfl rfl) rfl (by simp[Act.eval])) (numbers_any X Y Z T hX hY hZ hT hzZ W2) rfl fun W3 hM3=>?_
 simp only[nm0,nm1,nm2,nm3]
 refine wl_pure (v:=.tuple #[numV X,numV Y,numV Z,numV T]) (fun _=>rfl) rfl ?_
 simp only[nm0,nm1,nm2,nm3]
 refine wl_pure (v:=numV X) (fun _=>rfl) rfl ?_
 simp only[nm0,nm1,nm2,nm3]
 refine wl_pure (v:=numV Y) (fun _=>rfl) rfl ?_
 simp only[nm0,nm1,nm2,nm3]
 refine wl_pure (v:=numV Z) (fun _=>rfl) rfl ?_
 simp only[nm0,nm1,nm2,nm3]
 refine wl_pure (v:=numV T) (fun _=>rfl) rfl ?_
 simp only[nm0,nm1,nm2,nm3]
 refine wl_new hM3 (f:=fun b=>.pointer (some ⟨b,0,none⟩)) (ob:=.cells z4 36 (0,0)) (fun W=>run_alloc_of rfl (al_El W)) rfl fun b3 W4 hM4=>?_
 simp only[nm0,nm1,nm2,nm3]
 refine wl_new hM4 (f:=fun b=>.pointer (some ⟨b,0,none⟩)) (ob:=.cells z4 36 (0,0)) (fun W=>run_alloc_of rfl (al_El W)) rfl fun b4 W5 hM5=>?_
 simp only[nm0,nm1,nm2,nm3]
 refine wl_new hM5 (f:=fun b=>.pointer (some ⟨b,0,none⟩)) (ob:=.cells z4 36 (0,0)) (fun W=>run_alloc_of rfl (al_El W)) rfl fun b5 W6 hM6=>?_
 simp only[nm0,nm1,nm2,nm3]
 refine wl_new hM6 (f:=fun b=>.pointer (some ⟨b,0,none⟩)) (ob:=.cells z4 36 (0,0)) (fun W=>run_alloc_of rfl (al_El W)) rfl fun b6 W7 hM7=>?_
 simp only[nm0,nm1,nm2,nm3]
 refine wl_set hM7 3 (cs:=(elR X)) rfl rfl rfl rfl rowEl rfl (one_el X) rfl rfl fun W8 hM8=>?_
 simp only[nm2,nm3] at hM8
 refine wl_set hM8 2 (cs:=(elR Y)) rfl rfl rfl rfl rowEl rfl (one_el Y) rfl rfl fun W9 hM9=>?_
 simp only[nm2,nm3] at hM9
 refine wl_set hM9 1 (cs:=(elR Z)) rfl rfl rfl rfl rowEl rfl (one_el Z) rfl rfl fun W10 hM10=>?_
 simp only[nm2,nm3] at hM10
 refine wl_set hM10 0 (cs:=(elR T)) rfl rfl rfl rfl rowEl rfl (one_el T) rfl rfl fun W11 hM11=>?_
 simp only[nm2,nm3] at hM11
 refine wpList_nil ?_
 (go_step;go_step;go_step;refine wp_region_inw 20 HMIX.out (by decide) (by kernel_rfl) (by kernel_rfl) ?_)
 refine inw_row hM11 3 (v:=numV X) rfl rfl rfl rfl rowEl rfl rfl ?_;simp only[nm0,nm1,nm2,nm3]
 refine inw_row hM11 3 (v:=numV X) rfl rfl rfl rfl rowEl rfl rfl ?_;simp only[nm0,nm1,nm2,nm3]
 refine inw_slice (n:=2) (L:=elR X++elR X) (T:=36) (fun W=>run_slice_of rfl (by simp[Act.eval]) (bs2 X X W)) rfl rfl ?_;simp only[List.nil_append,List.cons_append]
 obtain⟨v1,ev1⟩:∃ x,x=X*X%PN:=⟨_,rfl⟩
 have pv1:v1<PN:=by rw[ev1];exact Nat.mod_lt _ PN_pos
 have Kv1:=mul_two' X X hX hX
 rw[← ev1] at Kv1
 refine inw_callS 2 22 (v:=numV v1) rfl rfl (fun _=>rfl) (fun b W=>run_call_fn W (enters_of Tryz.func76 rfl rfl) rfl (by simp[Act.eval,Act.put])) (fun b W h=>Kv1 b W h) ?_;simp only[nm0,nm1,nm2,nm3]
 refine inw_row hM11 3 (v:=numV X) rfl rfl rfl rfl rowEl rfl rfl ?_;simp only[nm0,nm1,nm2,nm3]
 refine inw_row hM11 2 (v:=numV Y) rfl rfl rfl rfl rowEl rfl rfl ?_;simp only[nm0,nm1,nm2,nm3]
 refine inw_slice (n:=2) (L:=elR X++elR Y) (T:=36) (fun W=>run_slice_of rfl (by simp[Act.eval]) (bs2 X Y W)) rfl rfl ?_;simp only[List.nil_append,List.cons_append]
 obtain⟨v2,ev2⟩:∃ x,x=X*Y%PN:=⟨_,rfl⟩
 have pv2:v2<PN:=by rw[ev2];exact Nat.mod_lt _ PN_pos
 have Kv2:=mul_two' X Y hX hY
 rw[← ev2] at Kv2
 refine inw_callS 6 26 (v:=numV v2) rfl rfl (fun _=>rfl) (fun b W=>run_call_fn W (enters_of Tryz.func76 rfl rfl) rfl (by simp[Act.eval,Act.put])) (fun b W h=>Kv2 b W h) ?_;simp only[nm0,nm1,nm2,nm3]
 refine inw_row hM11 2 (v:=numV Y) rfl rfl rfl rfl rowEl rfl rfl ?_;simp only[nm0,nm1,nm2,nm3]
 refine inw_row hM11 2 (v:=numV Y) rfl rfl rfl rfl rowEl rfl rfl ?_;simp only[nm0,nm1,nm2,nm3]
 refine inw_slice (n:=2) (L:=elR Y++elR Y) (T:=36) (fun W=>run_slice_of rfl (by simp[Act.eval]) (bs2 Y Y W)) rfl rfl ?_;simp only[List.nil_append,List.cons_append]
 obtain⟨v3,ev3⟩:∃ x,x=Y*Y%PN:=⟨_,rfl⟩
 have pv3:v3<PN:=by rw[ev3];exact Nat.mod_lt _ PN_pos
 have Kv3:=mul_two' Y Y hY hY
 rw[← ev3] at Kv3
 refine inw_callS 10 30 (v:=numV v3) rfl rfl (fun _=>rfl) (fun b W=>run_call_fn W (enters_of Tryz.func76 rfl rfl) rfl (by simp[Act.eval,Act.put])) (fun b W h=>Kv3 b W h) ?_;simp only[nm0,nm1,nm2,nm3]
 refine inw_row hM11 1 (v:=numV Z) rfl rfl rfl rfl rowEl rfl rfl ?_;simp only[nm0,nm1,nm2,nm3]
 refine inw_row hM11 1 (v:=numV Z) rfl rfl rfl rfl rowEl rfl rfl ?_;simp only[nm0,nm1,nm2,nm3]
 refine inw_slice (n:=2) (L:=elR Z++elR Z) (T:=36) (fun W=>run_slice_of rfl (by simp[Act.eval]) (bs2 Z Z W)) rfl rfl ?_;simp only[List.nil_append,List.cons_append]
 obtain⟨v4,ev4⟩:∃ x,x=Z*Z%PN:=⟨_,rfl⟩
 have pv4:v4<PN:=by rw[ev4];exact Nat.mod_lt _ PN_pos
 have Kv4:=mul_two' Z Z hZ hZ
 rw[← ev4] at Kv4
 refine inw_callS 14 34 (v:=numV v4) rfl rfl (fun _=>rfl) (fun b W=>run_call_fn W (enters_of Tryz.func76 rfl rfl) rfl (by simp[Act.eval,Act.put])) (fun b W h=>Kv4 b W h) ?_;simp only[nm0,nm1,nm2,nm3]
 refine inw_new (.cells z4 36 (0,0)) rfl rfl (fun A W=>run_alloc_of rfl (al_El W)) ?_;simp only[List.nil_append,List.cons_append]
 refine inw_new (.cells z4 36 (0,0)) rfl rfl (fun A W=>run_alloc_of rfl (al_El W)) ?_;simp only[List.nil_append,List.cons_append]
 refine inw_new (.cells z4 36 (0,0)) rfl rfl (fun A W=>run_alloc_of rfl (al_El W)) ?_;simp only[List.nil_append,List.cons_append]
 refine inw_new (.cells z4 36 (0,0)) rfl rfl (fun A W=>run_alloc_of rfl (al_El W)) ?_;simp only[List.nil_append,List.cons_append]
 refine inw_fin fun d os=>?_
 refine given_mk (t:=22) rfl fun s2=>?_
 refine given_mk (t:=26) rfl fun s6=>?_
 refine given_mk (t:=30) rfl fun s10=>?_
 refine given_mk (t:=34) rfl fun s14=>?_
 refine given_new (t:=7) rfl fun b7 lb7 gb7=>?_
 refine given_new (t:=8) rfl fun b8 lb8 gb8=>?_
 refine given_new (t:=9) rfl fun b9 lb9 gb9=>?_
 refine given_new (t:=10) rfl fun b10 lb10 gb10=>?_
 refine given_nil fun hap=>?_
 simp only[nm0,nm1,nm2,nm3] at hap ⊢
 have nb7b8:b7≠b8:=hap.ne 16 17 rfl rfl rfl rfl rfl rfl rfl
 have nb7b9:b7≠b9:=hap.ne 16 18 rfl rfl rfl rfl rfl rfl rfl
 have nb7b10:b7≠b10:=hap.ne 16 19 rfl rfl rfl rfl rfl rfl rfl
 have nb8b9:b8≠b9:=hap.ne 17 18 rfl rfl rfl rfl rfl rfl rfl
 have nb8b10:b8≠b10:=hap.ne 17 19 rfl rfl rfl rfl rfl rfl rfl
 have nb9b10:b9≠b10:=hap.ne 18 19 rfl rfl rfl rfl rfl rfl rfl
 have hM12:=hM11.news4 (below_regrown W11 d os) lb7 gb7 lb8 gb8 lb9 gb9 lb10 gb10 nb7b8 nb7b9 nb7b10 nb8b9 nb8b10 nb9b10
 clear hap lb7 gb7 lb8 gb8 lb9 gb9 lb10 gb10 nb7b8 nb7b9 nb7b10 nb8b9 nb8b10 nb9b10
 generalize grow (redrawn W11 d) os=W12 at hM12 ⊢
 change wpAny _ _ _ _ 4 _ _ _
 refine any_set (n:=20) (by kernel_rfl) rfl hM12 0 (cs:=(elR v1)) rfl rfl rfl rfl rowEl rfl (one_el v1) rfl rfl fun W13 hM13=>?_
 simp only[nm2,nm3] at hM13
 refine any_set (n:=21) (by kernel_rfl) rfl hM13 1 (cs:=(elR v2)) rfl rfl rfl rfl rowEl rfl (one_el v2) rfl rfl fun W14 hM14=>?_
 simp only[nm2,nm3] at hM14
 refine any_set (n:=22) (by kernel_rfl) rfl hM14 2 (cs:=(elR v3)) rfl rfl rfl rfl rowEl rfl (one_el v3) rfl rfl fun W15 hM15=>?_
 simp only[nm2,nm3] at hM15
 refine any_set (n:=23) (by kernel_rfl) rfl hM15 3 (cs:=(elR v4)) rfl rfl rfl rfl rowEl rfl (one_el v4) rfl rfl fun W16 hM16=>?_
 simp only[nm2,nm3] at hM16
 refine wpAny_done (by kernel_rfl) ?_ _
 (go_step;go_step;go_step;refine wp_region_lit ?_)
 refine wl_row hM16 2 (v:=numV v3) rfl rfl rfl rfl rowEl rfl ?_
 simp only[nm0,nm1,nm2,nm3]
 refine wl_row hM16 0 (v:=numV v1) rfl rfl rfl rfl rowEl rfl ?_
 simp only[nm0,nm1,nm2,nm3]
 obtain⟨v5,ev5⟩:∃ x,x=(v3+PN-v1)%PN:=⟨_,rfl⟩
 have pv5:v5<PN:=by rw[ev5];exact Nat.mod_lt _ PN_pos
 have Kv5:=fun W=>psub_any v3 v1 W pv3 pv1
 simp only[← ev5] at Kv5
 refine wl_call hM16 (args:=#[numV v3,numV v1]) (v:=numV v5) (fun W=>run_call_fn W (enters_of Tryz.func80 rfl rfl) rfl (by simp[Act.eval])) (Kv5 W16) rfl fun W17 hM17=>?_
 simp only[nm0,nm1,nm2,nm3]
 refine wl_new hM17 (f:=fun b=>.pointer (some ⟨b,0,none⟩)) (ob:=.cells z4 36 (0,0)) (fun W=>run_alloc_of rfl (al_El W)) rfl fun b11 W18 hM18=>?_
 simp only[nm0,nm1,nm2,nm3]
 refine wl_set hM18 0 (cs:=(elR v5)) rfl rfl rfl rfl rowEl rfl (one_el v5) rfl rfl fun W19 hM19=>?_
 simp only[nm2,nm3] at hM19
 refine wpList_nil ?_
 (go_step;go_step;go_step;refine wp_region_inw 7 HMIX.out (by decide) (by kernel_rfl) (by kernel_rfl) ?_)
 refine inw_row hM19 4 (v:=numV v4) rfl rfl rfl rfl rowEl rfl rfl ?_;simp only[nm0,nm1,nm2,nm3]
 refine inw_row hM19 4 (v:=numV v4) rfl rfl rfl rfl rowEl rfl rfl ?_;simp only[nm0,nm1,nm2,nm3]
 refine inw_slice (n:=2) (L:=elR v4++elR v4) (T:=36) (fun W=>run_slice_of rfl (by simp[Act.eval]) (bs2 v4 v4 W)) rfl rfl ?_;simp only[List.nil_append,List.cons_append]
 obtain⟨v6,ev6⟩:∃ x,x=(v4+v4)%PN:=⟨_,rfl⟩
 have pv6:v6<PN:=by rw[ev6];exact Nat.mod_lt _ PN_pos
 have Kv6:=add_two' v4 v4 pv4 pv4
 rw[← ev6] at Kv6
 refine inw_callS 2 41 (v:=numV v6) rfl rfl (fun _=>rfl) (fun b W=>run_call_fn W (enters_of Tryz.func77 rfl rfl) rfl (by simp[Act.eval,Act.put])) (fun b W h=>Kv6 b W h) ?_;simp only[nm0,nm1,nm2,nm3]
 refine inw_row hM19 0 (v:=numV v5) rfl rfl rfl rfl rowEl rfl rfl ?_;simp only[nm0,nm1,nm2,nm3]
 obtain⟨v7,ev7⟩:∃ x,x=(v6+PN-v5)%PN:=⟨_,rfl⟩
 have pv7:v7<PN:=by rw[ev7];exact Nat.mod_lt _ PN_pos
 have Kv7:=fun W=>psub_any v6 v5 W pv6 pv5
 simp only[← ev7] at Kv7
 refine inw_callV (args:=#[numV v6,numV v5]) (v:=numV v7) (fun W=>run_call_fn W (enters_of Tryz.func80 rfl rfl) rfl (by simp[Act.eval])) (fun W _=>Kv7 W) rfl rfl ?_;simp only[nm0,nm1,nm2,nm3]
 refine inw_new (.cells z4 36 (0,0)) rfl rfl (fun A W=>run_alloc_of rfl (al_El W)) ?_;simp only[List.nil_append,List.cons_append]
 refine inw_fin fun d os=>?_
 refine given_mk (t:=41) rfl fun s2=>?_
 refine given_new (t:=12) rfl fun b12 lb12 gb12=>?_
 refine given_nil fun hap=>?_
 simp only[nm0,nm1,nm2,nm3] at hap ⊢
 have hM20:=hM19.news1 (below_regrown W19 d os) lb12 gb12 
 clear hap lb12 gb12
 generalize grow (redrawn W19 d) os=W20 at hM20 ⊢
 change wpAny _ _ _ _ 1 _ _ _
 refine any_set (n:=7) (by kernel_rfl) rfl hM20 0 (cs:=(elR v7)) rfl rfl rfl rfl rowEl rfl (one_el v7) rfl rfl fun W21 hM21=>?_
 simp only[nm2,nm3] at hM21
 refine wpAny_done (by kernel_rfl) ?_ _
 (go_step;go_step;go_step;refine wp_region_inw 11 HMIX.out (by decide) (by kernel_rfl) (by kernel_rfl) ?_)
 refine inw_row hM21 3 (v:=numV v2) rfl rfl rfl rfl rowEl rfl rfl ?_;simp only[nm0,nm1,nm2,nm3]
 refine inw_row hM21 3 (v:=numV v2) rfl rfl rfl rfl rowEl rfl rfl ?_;simp only[nm0,nm1,nm2,nm3]
 refine inw_slice (n:=2) (L:=elR v2++elR v2) (T:=36) (fun W=>run_slice_of rfl (by simp[Act.eval]) (bs2 v2 v2 W)) rfl rfl ?_;simp only[List.nil_append,List.cons_append]
 obtain⟨v8,ev8⟩:∃ x,x=(v2+v2)%PN:=⟨_,rfl⟩
 have pv8:v8<PN:=by rw[ev8];exact Nat.mod_lt _ PN_pos
 have Kv8:=add_two' v2 v2 pv2 pv2
 rw[← ev8] at Kv8
 refine inw_callS 2 47 (v:=numV v8) rfl rfl (fun _=>rfl) (fun b W=>run_call_fn W (enters_of Tryz.func77 rfl rfl) rfl (by simp[Act.eval,Act.put])) (fun b W h=>Kv8 b W h) ?_;simp only[nm0,nm1,nm2,nm3]
 refine inw_row hM21 0 (v:=numV v7) rfl rfl rfl rfl rowEl rfl rfl ?_;simp only[nm0,nm1,nm2,nm3]
 refine inw_row hM21 1 (v:=numV v5) rfl rfl rfl rfl rowEl rfl rfl ?_;simp only[nm0,nm1,nm2,nm3]
 refine inw_row hM21 4 (v:=numV v3) rfl rfl rfl rfl rowEl rfl rfl ?_;simp only[nm0,nm1,nm2,nm3]
 refine inw_row hM21 2 (v:=numV v1) rfl rfl rfl rfl rowEl rfl rfl ?_;simp only[nm0,nm1,nm2,nm3]
 refine inw_slice (n:=2) (L:=elR v3++elR v1) (T:=36) (fun W=>run_slice_of rfl (by simp[Act.eval]) (bs2 v3 v1 W)) rfl rfl ?_;simp only[List.nil_append,List.cons_append]
 obtain⟨v9,ev9⟩:∃ x,x=(v3+v1)%PN:=⟨_,rfl⟩
 have pv9:v9<PN:=by rw[ev9];exact Nat.mod_lt _ PN_pos
 have Kv9:=add_two' v3 v1 pv3 pv1
 rw[← ev9] at Kv9
 refine inw_callS 8 53 (v:=numV v9) rfl rfl (fun _=>rfl) (fun b W=>run_call_fn W (enters_of Tryz.func77 rfl rfl) rfl (by simp[Act.eval,Act.put])) (fun b W h=>Kv9 b W h) ?_;simp only[nm0,nm1,nm2,nm3]
 obtain⟨v10,ev10⟩:∃ x,x=v8*v7%PN:=⟨_,rfl⟩
 have pv10:v10<PN:=by rw[ev10];exact Nat.mod_lt _ PN_pos
 obtain⟨v11,ev11⟩:∃ x,x=v5*v9%PN:=⟨_,rfl⟩
 have pv11:v11<PN:=by rw[ev11];exact Nat.mod_lt _ PN_pos
 obtain⟨v12,ev12⟩:∃ x,x=v7*v5%PN:=⟨_,rfl⟩
 have pv12:v12<PN:=by rw[ev12];exact Nat.mod_lt _ PN_pos
 obtain⟨v13,ev13⟩:∃ x,x=v8*v9%PN:=⟨_,rfl⟩
 have pv13:v13<PN:=by rw[ev13];exact Nat.mod_lt _ PN_pos
 have KQ:=fun W=>quot_any v8 v7 v5 v9 W pv8 pv7 pv5 pv9
 simp only[← ev10,← ev11,← ev12,← ev13] at KQ
 refine inw_callV (args:=#[numV v8,numV v7,numV v5,numV v9]) (v:=ptV v10 v11 v12 v13) (fun W=>run_call_fn W (enters_of Tryz.func195 rfl rfl) rfl (by simp[Act.eval])) (fun W _=>KQ W) rfl rfl ?_;simp only[nm0,nm1,nm2,nm3]
 refine inw_fin fun d os=>?_
 refine given_mk (t:=47) rfl fun s2=>?_
 refine given_mk (t:=53) rfl fun s8=>?_
 refine given_nil fun hap=>?_
 simp only[nm0,nm1,nm2,nm3] at hap ⊢
 have hM22:=hM21.calls (below_regrown W21 d os)
 clear hap 
 generalize grow (redrawn W21 d) os=W22 at hM22 ⊢
 change wpAny _ _ _ _ 1 _ _ _
 refine any_set (n:=11) (by kernel_rfl) rfl hM22 10 (cs:=((ptL v10 v11 v12 v13).toArray)) rfl rfl rfl rfl rowPt rfl (one_pt v10 v11 v12 v13) rfl rfl fun W23 hM23=>?_
 simp only[nm2,nm3] at hM23
 refine wpAny_done (by kernel_rfl) ?_ _
 (go_step;go_step;go_step;refine bodyPost_ret (v:=ptV v10 v11 v12 v13) (results_arr Tryz.results161 rfl (hM23.load 10 rfl rowPt)) rfl ⟨?_,hM23.below⟩)
 exact by rw[ev13,ev12,ev11,ev10,ev9,ev8,ev7,ev6,ev5,ev4,ev3,ev2,ev1]
/-- What Add comes to. -/
def sumX (D X Y Z T U V R S:Nat):Nat:=(((((X+Y)%PN)*((U+V)%PN)%PN)+PN-(((X*U%PN)+(Y*V%PN))%PN))%PN)*(((Z*R%PN)+PN-(D*T%PN*S%PN))%PN)%PN
def sumY (D X Y Z T U V R S:Nat):Nat:=(((Z*R%PN)+(D*T%PN*S%PN))%PN)*(((Y*V%PN)+(X*U%PN))%PN)%PN
def sumZ (D Z T R S:Nat):Nat:=(((Z*R%PN)+PN-(D*T%PN*S%PN))%PN)*(((Z*R%PN)+(D*T%PN*S%PN))%PN)%PN
def sumT (X Y U V:Nat):Nat:=(((((X+Y)%PN)*((U+V)%PN)%PN)+PN-(((X*U%PN)+(Y*V%PN))%PN))%PN)*(((Y*V%PN)+(X*U%PN))%PN)%PN
set_option maxRecDepth 20000 in
set_option maxHeartbeats 8000000 in
theorem adderadd_any (D X Y Z T U V R S:Nat) (hD:D<PN) (hX:X<PN) (hY:Y<PN) (hZ:Z<PN) (hT:T<PN) (hU:U<PN) (hV:V<PN) (hR:R<PN) (hS:S<PN) (hzZ:0<Z) (hzR:0<R) (w:World):Calls Tryz.prog 157 #[numV D,ptV X Y Z T,ptV U V R S] w fun E w'=>E=.returned (ptV (sumX D X Y Z T U V R S) (sumY D X Y Z T U V R S) (sumZ D Z T R S) (sumT X Y U V))∧Below w.heap.size w w':=by
 unfold sumX sumY sumZ sumT
 have HMIX:=Lib.hid (show Tryz.prog.follows .mixedOrders=true by kernel_rfl)
 go_enter Tryz.func157,Tryz.ntmps157
 have hM0:=Mem.start w
 (go_step;go_step;refine wp_region_lit ?_)
 refine wl_new hM0 (f:=fun b=>.pointer (some ⟨b,0,none⟩)) (ob:=.cells (elR D) 187 (0,0)) (fun W=>run_box_of rfl rfl (bx_Ad D W)) rfl fun b1 W1 hM1=>?_
 simp only[nm0,nm1,nm2,nm3]
 refine wl_new hM1 (f:=fun b=>.pointer (some ⟨b,0,none⟩)) (ob:=.cells ((ptL X Y Z T).toArray) 39 (0,0)) (fun W=>run_box_of rfl rfl (bx_Pt X Y Z T W)) rfl fun b2 W2 hM2=>?_
 simp only[nm0,nm1,nm2,nm3]
 refine wl_new hM2 (f:=fun b=>.pointer (some ⟨b,0,none⟩)) (ob:=.cells ((ptL U V R S).toArray) 39 (0,0)) (fun W=>run_box_of rfl rfl (bx_Pt U V R S W)) rfl fun b3 W3 hM3=>?_
 simp only[nm0,nm1,nm2,nm3]
 refine wl_new hM3 (f:=fun b=>.pointer (some ⟨b,0,none⟩)) (ob:=.cells z16 39 (0,0)) (fun W=>run_alloc_of rfl (al_Pt W)) rfl fun b4 W4 hM4=>?_
 simp only[nm0,nm1,nm2,nm3]
 refine wpList_nil ?_
 (go_step;go_step;go_step;refine wp_region_lit ?_)
 refine wl_row hM4 2 (v:=ptV X Y Z T) rfl rfl rfl rfl rowPt rfl ?_
 simp only[nm0,nm1,nm2,nm3]
 refine wl_call hM4 (args:=#[ptV X Y Z T]) (v:=.tuple #[numV X,numV Y,numV Z,numV T]) (fun W=>run_call_fn W (enters_of Tryz.func82 rfl rfl) rfl (by simp[Act.eval])) (numbers_any X Y Z T hX hY hZ hT hzZ W4) rfl fun W5 hM5=>?_
 simp only[nm0,nm1,nm2,nm3]
 refine wl_pure (v:=.tuple #[numV X,numV Y,numV Z,numV T]) (fun _=>rfl) rfl ?_
 simp only[nm0,nm1,nm2,nm3]
 refine wl_pure (v:=numV X) (fun _=>rfl) rfl ?_
 simp only[nm0,nm1,nm2,nm3]
 refine wl_pure (v:=numV Y) (fun _=>rfl) rfl ?_
 simp only[nm0,nm1,nm2,nm3]
 refine wl_pure (v:=numV Z) (fun _=>rfl) rfl ?_
 simp only[nm0,nm1,nm2,nm3]
 refine wl_pure (v:=numV T) (fun _=>rfl) rfl ?_
 simp only[nm0,nm1,nm2,nm3]
 refine wl_new hM5 (f:=fun b=>.pointer (some ⟨b,0,none⟩)) (ob:=.cells z4 36 (0,0)) (fun W=>run_alloc_of rfl (al_El W)) rfl fun b5 W6 hM6=>?_
 simp only[nm0,nm1,nm2,nm3]
 refine wl_new hM6 (f:=fun b=>.pointer (some ⟨b,0,none⟩)) (ob:=.cells z4 36 (0,0)) (fun W=>run_alloc_of rfl (al_El W)) rfl fun b6 W7 hM7=>?_
 simp only[nm0,nm1,nm2,nm3]
 refine wl_new hM7 (f:=fun b=>.pointer (some ⟨b,0,none⟩)) (ob:=.cells z4 36 (0,0)) (fun W=>run_alloc_of rfl (al_El W)) rfl fun b7 W8 hM8=>?_
 simp only[nm0,nm1,nm2,nm3]
 refine wl_new hM8 (f:=fun b=>.pointer (some ⟨b,0,none⟩)) (ob:=.cells z4 36 (0,0)) (fun W=>run_alloc_of rfl (al_El W)) rfl fun b8 W9 hM9=>?_
 simp only[nm0,nm1,nm2,nm3]
 refine wl_set hM9 3 (cs:=(elR X)) rfl rfl rfl rfl rowEl rfl (one_el X) rfl rfl fun W10 hM10=>?_
 simp only[nm2,nm3] at hM10
 refine wl_set hM10 2 (cs:=(elR Y)) rfl rfl rfl rfl rowEl rfl (one_el Y) rfl rfl fun W11 hM11=>?_
 simp only[nm2,nm3] at hM11
 refine wl_set hM11 1 (cs:=(elR Z)) rfl rfl rfl rfl rowEl rfl (one_el Z) rfl rfl fun W12 hM12=>?_
 simp only[nm2,nm3] at hM12
 refine wl_set hM12 0 (cs:=(elR T)) rfl rfl rfl rfl rowEl rfl (one_el T) rfl rfl fun W13 hM13=>?_
 simp only[nm2,nm3] at hM13
 refine wpList_nil ?_
 (go_step;go_step;go_step;refine wp_region_lit ?_)
 refine wl_row hM13 5 (v:=ptV U V R S) rfl rfl rfl rfl rowPt rfl ?_
 simp only[nm0,nm1,nm2,nm3]
 refine wl_call hM13 (args:=#[ptV U V R S]) (v:=.tuple #[numV U,numV V,numV R,numV S]) (fun W=>run_call_fn W (enters_of Tryz.func82 rfl rfl) rfl (by simp[Act.eval])) (numbers_any U V R S hU hV hR hS hzR W13) rfl fun W14 hM14=>?_
 simp only[nm0,nm1,nm2,nm3]
 refine wl_pure (v:=.tuple #[numV U,numV V,numV R,numV S]) (fun _=>rfl) rfl ?_
 simp only[nm0,nm1,nm2,nm3]
 refine wl_pure (v:=numV U) (fun _=>rfl) rfl ?_
 simp only[nm0,nm1,nm2,nm3]
 refine wl_pure (v:=numV V) (fun _=>rfl) rfl ?_
 simp only[nm0,nm1,nm2,nm3]
 refine wl_pure (v:=numV R) (fun _=>rfl) rfl ?_
 simp only[nm0,nm1,nm2,nm3]
 refine wl_pure (v:=numV S) (fun _=>rfl) rfl ?_
 simp only[nm0,nm1,nm2,nm3]
 refine wl_new hM14 (f:=fun b=>.pointer (some ⟨b,0,none⟩)) (ob:=.cells z4 36 (0,0)) (fun W=>run_alloc_of rfl (al_El W)) rfl fun b9 W15 hM15=>?_
 simp only[nm0,nm1,nm2,nm3]
 refine wl_new hM15 (f:=fun b=>.pointer (some ⟨b,0,none⟩)) (ob:=.cells z4 36 (0,0)) (fun W=>run_alloc_of rfl (al_El W)) rfl fun b10 W16 hM16=>?_
 simp only[nm0,nm1,nm2,nm3]
 refine wl_new hM16 (f:=fun b=>.pointer (some ⟨b,0,none⟩)) (ob:=.cells z4 36 (0,0)) (fun W=>run_alloc_of rfl (al_El W)) rfl fun b11 W17 hM17=>?_
 simp only[nm0,nm1,nm2,nm3]
 refine wl_new hM17 (f:=fun b=>.pointer (some ⟨b,0,none⟩)) (ob:=.cells z4 36 (0,0)) (fun W=>run_alloc_of rfl (al_El W)) rfl fun b12 W18 hM18=>?_
 simp only[nm0,nm1,nm2,nm3]
 refine wl_set hM18 3 (cs:=(elR U)) rfl rfl rfl rfl rowEl rfl (one_el U) rfl rfl fun W19 hM19=>?_
 simp only[nm2,nm3] at hM19
 refine wl_set hM19 2 (cs:=(elR V)) rfl rfl rfl rfl rowEl rfl (one_el V) rfl rfl fun W20 hM20=>?_
 simp only[nm2,nm3] at hM20
 refine wl_set hM20 1 (cs:=(elR R)) rfl rfl rfl rfl rowEl rfl (one_el R) rfl rfl fun W21 hM21=>?_
 simp only[nm2,nm3] at hM21
 refine wl_set hM21 0 (cs:=(elR S)) rfl rfl rfl rfl rowEl rfl (one_el S) rfl rfl fun W22 hM22=>?_
 simp only[nm2,nm3] at hM22
 refine wpList_nil ?_
 (go_step;go_step;go_step;refine wp_region_inw 15 HMIX.out (by decide) (by kernel_rfl) (by kernel_rfl) ?_)
 refine inw_row hM22 7 (v:=numV X) rfl rfl rfl rfl rowEl rfl rfl ?_;simp only[nm0,nm1,nm2,nm3]
 refine inw_row hM22 3 (v:=numV U) rfl rfl rfl rfl rowEl rfl rfl ?_;simp only[nm0,nm1,nm2,nm3]
 refine inw_slice (n:=2) (L:=elR X++elR U) (T:=36) (fun W=>run_slice_of rfl (by simp[Act.eval]) (bs2 X U W)) rfl rfl ?_;simp only[List.nil_append,List.cons_append]
 obtain⟨v1,ev1⟩:∃ x,x=X*U%PN:=⟨_,rfl⟩
 have pv1:v1<PN:=by rw[ev1];exact Nat.mod_lt _ PN_pos
 have Kv1:=mul_two' X U hX hU
 rw[← ev1] at Kv1
 refine inw_callS 2 36 (v:=numV v1) rfl rfl (fun _=>rfl) (fun b W=>run_call_fn W (enters_of Tryz.func76 rfl rfl) rfl (by simp[Act.eval,Act.put])) (fun b W h=>Kv1 b W h) ?_;simp only[nm0,nm1,nm2,nm3]
 refine inw_row hM22 6 (v:=numV Y) rfl rfl rfl rfl rowEl rfl rfl ?_;simp only[nm0,nm1,nm2,nm3]
 refine inw_row hM22 2 (v:=numV V) rfl rfl rfl rfl rowEl rfl rfl ?_;simp only[nm0,nm1,nm2,nm3]
 refine inw_slice (n:=2) (L:=elR Y++elR V) (T:=36) (fun W=>run_slice_of rfl (by simp[Act.eval]) (bs2 Y V W)) rfl rfl ?_;simp only[List.nil_append,List.cons_append]
 obtain⟨v2,ev2⟩:∃ x,x=Y*V%PN:=⟨_,rfl⟩
 have pv2:v2<PN:=by rw[ev2];exact Nat.mod_lt _ PN_pos
 have Kv2:=mul_two' Y V hY hV
 rw[← ev2] at Kv2
 refine inw_callS 6 40 (v:=numV v2) rfl rfl (fun _=>rfl) (fun b W=>run_call_fn W (enters_of Tryz.func76 rfl rfl) rfl (by simp[Act.eval,Act.put])) (fun b W h=>Kv2 b W h) ?_;simp only[nm0,nm1,nm2,nm3]
 refine inw_row hM22 5 (v:=numV Z) rfl rfl rfl rfl rowEl rfl rfl ?_;simp only[nm0,nm1,nm2,nm3]
 refine inw_row hM22 1 (v:=numV R) rfl rfl rfl rfl rowEl rfl rfl ?_;simp only[nm0,nm1,nm2,nm3]
 refine inw_slice (n:=2) (L:=elR Z++elR R) (T:=36) (fun W=>run_slice_of rfl (by simp[Act.eval]) (bs2 Z R W)) rfl rfl ?_;simp only[List.nil_append,List.cons_append]
 obtain⟨v3,ev3⟩:∃ x,x=Z*R%PN:=⟨_,rfl⟩
 have pv3:v3<PN:=by rw[ev3];exact Nat.mod_lt _ PN_pos
 have Kv3:=mul_two' Z R hZ hR
 rw[← ev3] at Kv3
 refine inw_callS 10 44 (v:=numV v3) rfl rfl (fun _=>rfl) (fun b W=>run_call_fn W (enters_of Tryz.func76 rfl rfl) rfl (by simp[Act.eval,Act.put])) (fun b W h=>Kv3 b W h) ?_;simp only[nm0,nm1,nm2,nm3]
 refine inw_new (.cells z4 36 (0,0)) rfl rfl (fun A W=>run_alloc_of rfl (al_El W)) ?_;simp only[List.nil_append,List.cons_append]
 refine inw_new (.cells z4 36 (0,0)) rfl rfl (fun A W=>run_alloc_of rfl (al_El W)) ?_;simp only[List.nil_append,List.cons_append]
 refine inw_new (.cells z4 36 (0,0)) rfl rfl (fun A W=>run_alloc_of rfl (al_El W)) ?_;simp only[List.nil_append,List.cons_append]
 refine inw_fin fun d os=>?_
 refine given_mk (t:=36) rfl fun s2=>?_
 refine given_mk (t:=40) rfl fun s6=>?_
 refine given_mk (t:=44) rfl fun s10=>?_
 refine given_new (t:=15) rfl fun b13 lb13 gb13=>?_
 refine given_new (t:=16) rfl fun b14 lb14 gb14=>?_
 refine given_new (t:=17) rfl fun b15 lb15 gb15=>?_
 refine given_nil fun hap=>?_
 simp only[nm0,nm1,nm2,nm3] at hap ⊢
 have nb13b14:b13≠b14:=hap.ne 12 13 rfl rfl rfl rfl rfl rfl rfl
 have nb13b15:b13≠b15:=hap.ne 12 14 rfl rfl rfl rfl rfl rfl rfl
 have nb14b15:b14≠b15:=hap.ne 13 14 rfl rfl rfl rfl rfl rfl rfl
 have hM23:=hM22.news3 (below_regrown W22 d os) lb13 gb13 lb14 gb14 lb15 gb15 nb13b14 nb13b15 nb14b15
 clear hap lb13 gb13 lb14 gb14 lb15 gb15 nb13b14 nb13b15 nb14b15
 generalize grow (redrawn W22 d) os=W23 at hM23 ⊢
 change wpAny _ _ _ _ 3 _ _ _
 refine any_set (n:=15) (by kernel_rfl) rfl hM23 0 (cs:=(elR v1)) rfl rfl rfl rfl rowEl rfl (one_el v1) rfl rfl fun W24 hM24=>?_
 simp only[nm2,nm3] at hM24
 refine any_set (n:=16) (by kernel_rfl) rfl hM24 1 (cs:=(elR v2)) rfl rfl rfl rfl rowEl rfl (one_el v2) rfl rfl fun W25 hM25=>?_
 simp only[nm2,nm3] at hM25
 refine any_set (n:=17) (by kernel_rfl) rfl hM25 2 (cs:=(elR v3)) rfl rfl rfl rfl rowEl rfl (one_el v3) rfl rfl fun W26 hM26=>?_
 simp only[nm2,nm3] at hM26
 refine wpAny_done (by kernel_rfl) ?_ _
 (go_step;go_step;go_step;refine wp_region_inw 11 HMIX.out (by decide) (by kernel_rfl) (by kernel_rfl) ?_)
 refine inw_row hM26 10 (v:=numV X) rfl rfl rfl rfl rowEl rfl rfl ?_;simp only[nm0,nm1,nm2,nm3]
 refine inw_row hM26 9 (v:=numV Y) rfl rfl rfl rfl rowEl rfl rfl ?_;simp only[nm0,nm1,nm2,nm3]
 refine inw_slice (n:=2) (L:=elR X++elR Y) (T:=36) (fun W=>run_slice_of rfl (by simp[Act.eval]) (bs2 X Y W)) rfl rfl ?_;simp only[List.nil_append,List.cons_append]
 obtain⟨v4,ev4⟩:∃ x,x=(X+Y)%PN:=⟨_,rfl⟩
 have pv4:v4<PN:=by rw[ev4];exact Nat.mod_lt _ PN_pos
 have Kv4:=add_two' X Y hX hY
 rw[← ev4] at Kv4
 refine inw_callS 2 48 (v:=numV v4) rfl rfl (fun _=>rfl) (fun b W=>run_call_fn W (enters_of Tryz.func77 rfl rfl) rfl (by simp[Act.eval,Act.put])) (fun b W h=>Kv4 b W h) ?_;simp only[nm0,nm1,nm2,nm3]
 refine inw_row hM26 6 (v:=numV U) rfl rfl rfl rfl rowEl rfl rfl ?_;simp only[nm0,nm1,nm2,nm3]
 refine inw_row hM26 5 (v:=numV V) rfl rfl rfl rfl rowEl rfl rfl ?_;simp only[nm0,nm1,nm2,nm3]
 refine inw_slice (n:=2) (L:=elR U++elR V) (T:=36) (fun W=>run_slice_of rfl (by simp[Act.eval]) (bs2 U V W)) rfl rfl ?_;simp only[List.nil_append,List.cons_append]
 obtain⟨v5,ev5⟩:∃ x,x=(U+V)%PN:=⟨_,rfl⟩
 have pv5:v5<PN:=by rw[ev5];exact Nat.mod_lt _ PN_pos
 have Kv5:=add_two' U V hU hV
 rw[← ev5] at Kv5
 refine inw_callS 6 52 (v:=numV v5) rfl rfl (fun _=>rfl) (fun b W=>run_call_fn W (enters_of Tryz.func77 rfl rfl) rfl (by simp[Act.eval,Act.put])) (fun b W h=>Kv5 b W h) ?_;simp only[nm0,nm1,nm2,nm3]
 refine inw_slice (n:=2) (L:=elR v4++elR v5) (T:=36) (fun W=>run_slice_of rfl (by simp[Act.eval]) (bs2 v4 v5 W)) rfl rfl ?_;simp only[List.nil_append,List.cons_append]
 obtain⟨v6,ev6⟩:∃ x,x=v4*v5%PN:=⟨_,rfl⟩
 have pv6:v6<PN:=by rw[ev6];exact Nat.mod_lt _ PN_pos
 have Kv6:=mul_two' v4 v5 pv4 pv5
 rw[← ev6] at Kv6
 refine inw_callS 8 54 (v:=numV v6) rfl rfl (fun _=>rfl) (fun b W=>run_call_fn W (enters_of Tryz.func76 rfl rfl) rfl (by simp[Act.eval,Act.put])) (fun b W h=>Kv6 b W h) ?_;simp only[nm0,nm1,nm2,nm3]
 refine inw_new (.cells z4 36 (0,0)) rfl rfl (fun A W=>run_alloc_of rfl (al_El W)) ?_;simp only[List.nil_append,List.cons_append]
 refine inw_fin fun d os=>?_
 refine given_mk (t:=48) rfl fun s2=>?_
 refine given_mk (t:=52) rfl fun s6=>?_
 refine given_mk (t:=54) rfl fun s8=>?_
 refine given_new (t:=18) rfl fun b16 lb16 gb16=>?_
 refine given_nil fun hap=>?_
 simp only[nm0,nm1,nm2,nm3] at hap ⊢
 have hM27:=hM26.news1 (below_regrown W26 d os) lb16 gb16 
 clear hap lb16 gb16
 generalize grow (redrawn W26 d) os=W27 at hM27 ⊢
 change wpAny _ _ _ _ 1 _ _ _
 refine any_set (n:=11) (by kernel_rfl) rfl hM27 0 (cs:=(elR v6)) rfl rfl rfl rfl rowEl rfl (one_el v6) rfl rfl fun W28 hM28=>?_
 simp only[nm2,nm3] at hM28
 refine wpAny_done (by kernel_rfl) ?_ _
 (go_step;go_step;go_step;refine wp_region_lit ?_)
 refine wl_pure (v:=.pointer (some ⟨b1,0,none⟩)) (fun W=>run_field_of rfl rfl (fa_Ad0 b1 W)) rfl ?_
 simp only[nm0,nm1,nm2,nm3]
 refine wl_part hM28 15 (v:=numV D) (sub:=elR D) rfl rfl rfl rfl rfl rowEl rfl ?_
 simp only[nm0,nm1,nm2,nm3]
 refine wl_row hM28 8 (v:=numV T) rfl rfl rfl rfl rowEl rfl ?_
 simp only[nm0,nm1,nm2,nm3]
 refine wl_row hM28 4 (v:=numV S) rfl rfl rfl rfl rowEl rfl ?_
 simp only[nm0,nm1,nm2,nm3]
 refine wl_new hM28 (f:=fun b=>.slice (some ⟨b,0,none⟩) 3 3) (ob:=.cells (elR D++elR T++elR S) 36 (0,0)) (fun W=>run_slice_of rfl (by simp[Act.eval]) (bs3 D T S W)) rfl fun b17 W29 hM29=>?_
 simp only[nm0,nm1,nm2,nm3]
 obtain⟨v7,ev7⟩:∃ x,x=D*T%PN*S%PN:=⟨_,rfl⟩
 have pv7:v7<PN:=by rw[ev7];exact Nat.mod_lt _ PN_pos
 have Kv7:=mul_three D T S hD hT hS
 rw[← ev7] at Kv7
 refine wl_call hM29 (args:=#[.slice (some ⟨b17,0,none⟩) 3 3]) (v:=numV v7) (fun W=>run_call_fn W (enters_of Tryz.func76 rfl rfl) rfl (by simp[Act.eval])) (Kv7 b17 W29 (hM29.get 0 rfl)) rfl fun W30 hM30=>?_
 simp only[nm0,nm1,nm2,nm3]
 refine wl_new hM30 (f:=fun b=>.pointer (some ⟨b,0,none⟩)) (ob:=.cells z4 36 (0,0)) (fun W=>run_alloc_of rfl (al_El W)) rfl fun b18 W31 hM31=>?_
 simp only[nm0,nm1,nm2,nm3]
 refine wl_set hM31 0 (cs:=(elR v7)) rfl rfl rfl rfl rowEl rfl (one_el v7) rfl rfl fun W32 hM32=>?_
 simp only[nm2,nm3] at hM32
 refine wpList_nil ?_
 (go_step;go_step;go_step;refine wp_region_inw 18 HMIX.out (by decide) (by kernel_rfl) (by kernel_rfl) ?_)
 refine inw_row hM32 2 (v:=numV v6) rfl rfl rfl rfl rowEl rfl rfl ?_;simp only[nm0,nm1,nm2,nm3]
 refine inw_row hM32 3 (v:=numV v1) rfl rfl rfl rfl rowEl rfl rfl ?_;simp only[nm0,nm1,nm2,nm3]
 refine inw_row hM32 4 (v:=numV v2) rfl rfl rfl rfl rowEl rfl rfl ?_;simp only[nm0,nm1,nm2,nm3]
 refine inw_slice (n:=2) (L:=elR v1++elR v2) (T:=36) (fun W=>run_slice_of rfl (by simp[Act.eval]) (bs2 v1 v2 W)) rfl rfl ?_;simp only[List.nil_append,List.cons_append]
 obtain⟨v8,ev8⟩:∃ x,x=(v1+v2)%PN:=⟨_,rfl⟩
 have pv8:v8<PN:=by rw[ev8];exact Nat.mod_lt _ PN_pos
 have Kv8:=add_two' v1 v2 pv1 pv2
 rw[← ev8] at Kv8
 refine inw_callS 3 65 (v:=numV v8) rfl rfl (fun _=>rfl) (fun b W=>run_call_fn W (enters_of Tryz.func77 rfl rfl) rfl (by simp[Act.eval,Act.put])) (fun b W h=>Kv8 b W h) ?_;simp only[nm0,nm1,nm2,nm3]
 obtain⟨v9,ev9⟩:∃ x,x=(v6+PN-v8)%PN:=⟨_,rfl⟩
 have pv9:v9<PN:=by rw[ev9];exact Nat.mod_lt _ PN_pos
 have Kv9:=fun W=>psub_any v6 v8 W pv6 pv8
 simp only[← ev9] at Kv9
 refine inw_callV (args:=#[numV v6,numV v8]) (v:=numV v9) (fun W=>run_call_fn W (enters_of Tryz.func80 rfl rfl) rfl (by simp[Act.eval])) (fun W _=>Kv9 W) rfl rfl ?_;simp only[nm0,nm1,nm2,nm3]
 refine inw_row hM32 5 (v:=numV v3) rfl rfl rfl rfl rowEl rfl rfl ?_;simp only[nm0,nm1,nm2,nm3]
 refine inw_row hM32 0 (v:=numV v7) rfl rfl rfl rfl rowEl rfl rfl ?_;simp only[nm0,nm1,nm2,nm3]
 obtain⟨v10,ev10⟩:∃ x,x=(v3+PN-v7)%PN:=⟨_,rfl⟩
 have pv10:v10<PN:=by rw[ev10];exact Nat.mod_lt _ PN_pos
 have Kv10:=fun W=>psub_any v3 v7 W pv3 pv7
 simp only[← ev10] at Kv10
 refine inw_callV (args:=#[numV v3,numV v7]) (v:=numV v10) (fun W=>run_call_fn W (enters_of Tryz.func80 rfl rfl) rfl (by simp[Act.eval])) (fun W _=>Kv10 W) rfl rfl ?_;simp only[nm0,nm1,nm2,nm3]
 refine inw_row hM32 5 (v:=numV v3) rfl rfl rfl rfl rowEl rfl rfl ?_;simp only[nm0,nm1,nm2,nm3]
 refine inw_row hM32 0 (v:=numV v7) rfl rfl rfl rfl rowEl rfl rfl ?_;simp only[nm0,nm1,nm2,nm3]
 refine inw_slice (n:=2) (L:=elR v3++elR v7) (T:=36) (fun W=>run_slice_of rfl (by simp[Act.eval]) (bs2 v3 v7 W)) rfl rfl ?_;simp only[List.nil_append,List.cons_append]
 obtain⟨v11,ev11⟩:∃ x,x=(v3+v7)%PN:=⟨_,rfl⟩
 have pv11:v11<PN:=by rw[ev11];exact Nat.mod_lt _ PN_pos
 have Kv11:=add_two' v3 v7 pv3 pv7
 rw[← ev11] at Kv11
 refine inw_callS 11 73 (v:=numV v11) rfl rfl (fun _=>rfl) (fun b W=>run_call_fn W (enters_of Tryz.func77 rfl rfl) rfl (by simp[Act.eval,Act.put])) (fun b W h=>Kv11 b W h) ?_;simp only[nm0,nm1,nm2,nm3]
 refine inw_row hM32 4 (v:=numV v2) rfl rfl rfl rfl rowEl rfl rfl ?_;simp only[nm0,nm1,nm2,nm3]
 refine inw_row hM32 3 (v:=numV v1) rfl rfl rfl rfl rowEl rfl rfl ?_;simp only[nm0,nm1,nm2,nm3]
 refine inw_slice (n:=2) (L:=elR v2++elR v1) (T:=36) (fun W=>run_slice_of rfl (by simp[Act.eval]) (bs2 v2 v1 W)) rfl rfl ?_;simp only[List.nil_append,List.cons_append]
 obtain⟨v12,ev12⟩:∃ x,x=(v2+v1)%PN:=⟨_,rfl⟩
 have pv12:v12<PN:=by rw[ev12];exact Nat.mod_lt _ PN_pos
 have Kv12:=add_two' v2 v1 pv2 pv1
 rw[← ev12] at Kv12
 refine inw_callS 15 77 (v:=numV v12) rfl rfl (fun _=>rfl) (fun b W=>run_call_fn W (enters_of Tryz.func77 rfl rfl) rfl (by simp[Act.eval,Act.put])) (fun b W h=>Kv12 b W h) ?_;simp only[nm0,nm1,nm2,nm3]
 obtain⟨v13,ev13⟩:∃ x,x=v9*v10%PN:=⟨_,rfl⟩
 have pv13:v13<PN:=by rw[ev13];exact Nat.mod_lt _ PN_pos
 obtain⟨v14,ev14⟩:∃ x,x=v11*v12%PN:=⟨_,rfl⟩
 have pv14:v14<PN:=by rw[ev14];exact Nat.mod_lt _ PN_pos
 obtain⟨v15,ev15⟩:∃ x,x=v10*v11%PN:=⟨_,rfl⟩
 have pv15:v15<PN:=by rw[ev15];exact Nat.mod_lt _ PN_pos
 obtain⟨v16,ev16⟩:∃ x,x=v9*v12%PN:=⟨_,rfl⟩
 have pv16:v16<PN:=by rw[ev16];exact Nat.mod_lt _ PN_pos
 have KQ:=fun W=>quot_any v9 v10 v11 v12 W pv9 pv10 pv11 pv12
 simp only[← ev13,← ev14,← ev15,← ev16] at KQ
 refine inw_callV (args:=#[numV v9,numV v10,numV v11,numV v12]) (v:=ptV v13 v14 v15 v16) (fun W=>run_call_fn W (enters_of Tryz.func195 rfl rfl) rfl (by simp[Act.eval])) (fun W _=>KQ W) rfl rfl ?_;simp only[nm0,nm1,nm2,nm3]
 refine inw_fin fun d os=>?_
 refine given_mk (t:=65) rfl fun s3=>?_
 refine given_mk (t:=73) rfl fun s11=>?_
 refine given_mk (t:=77) rfl fun s15=>?_
 refine given_nil fun hap=>?_
 simp only[nm0,nm1,nm2,nm3] at hap ⊢
 have hM33:=hM32.calls (below_regrown W32 d os)
 clear hap 
 generalize grow (redrawn W32 d) os=W33 at hM33 ⊢
 change wpAny _ _ _ _ 1 _ _ _
 refine any_set (n:=18) (by kernel_rfl) rfl hM33 14 (cs:=((ptL v13 v14 v15 v16).toArray)) rfl rfl rfl rfl rowPt rfl (one_pt v13 v14 v15 v16) rfl rfl fun W34 hM34=>?_
 simp only[nm2,nm3] at hM34
 refine wpAny_done (by kernel_rfl) ?_ _
 (go_step;go_step;go_step;refine bodyPost_ret (v:=ptV v13 v14 v15 v16) (results_arr Tryz.results157 rfl (hM34.load 14 rfl rowPt)) rfl ⟨?_,hM34.below⟩)
 exact by rw[ev16,ev15,ev14,ev13,ev12,ev11,ev10,ev9,ev8,ev7,ev6,ev5,ev4,ev3,ev2,ev1]
end Go.Proofs.YtnaldciakclccaaGreat
