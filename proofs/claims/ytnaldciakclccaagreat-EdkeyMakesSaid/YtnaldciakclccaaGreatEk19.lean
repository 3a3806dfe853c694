/- pcode.Decode (layer 21): its walks. pcode.Decode (layer 21): its contract. -/
import Derived.Test.YtnaldciakclccaaGreatEk16
import Derived.Test.YtnaldciakclccaaGreatEk18
namespace Go.Proofs.YtnaldciakclccaaGreat
set_option maxRecDepth 20000
set_option linter.unusedSimpArgs false
set_option linter.unusedVariables false
open Go.RowKit Go.Sort
theorem bodyPostD_one {P:Program} {fn:Func} {R:Ending→World→Prop} {A:Act} {w:World} {f:FuncId} {cap:Array Value} (hd:A.defers=[{ target:=.fn (.func f) cap,args:=#[] }]) (hE:Enters P f) (h:CallsD P f cap .returning w fun E u w'=>u=.returning∧(E=.returned (.tuple #[])∧∃ v,(results fn A.tmps).run P w'=.ok v w'∧R (.returned v) w')):bodyPostD P fn R .ret A w:=by
 show Leaves P fn A.tmps R A.defers .returning w
 rw[hd]
 refine leaves_cons (by simp) (f:=f) (args:=cap) (by have:=hE cap w;simpa [invoke] using this) (h.mono ?_)
 rintro E u w' ⟨rfl,rfl,v,hv,hR⟩
 exact⟨v,hv,hR⟩
theorem byL_size (n:Nat):(⟨(byL n).toArray⟩:ByteArray).size=32:=by show (byL n).toArray.size=32;simp[byL]
theorem pof_in (m:Nat) (h:m<PN) (w:World):Calls Tryz.prog 30 #[.string ⟨(byL m).toArray⟩] w fun e w'=>e=.returned (.tuple #[numV m,.int .i64 0])∧Below w.heap.size w w':=by
 have h1:=pof_any ⟨(byL m).toArray⟩ w (byL_size m)
 rw[show leN (⟨(byL m).toArray⟩:ByteArray).data.toList=m from leN_byL m (Nat.lt_trans h PN_B),if_pos h] at h1
 exact h1
theorem pof_out (m:Nat) (h:¬ m<PN) (hB:m<B64^4) (w:World):Calls Tryz.prog 30 #[.string ⟨(byL m).toArray⟩] w fun e w'=>e=.returned (.tuple #[numV 0,.int .i64 2])∧Below w.heap.size w w':=by
 have h1:=pof_any ⟨(byL m).toArray⟩ w (byL_size m)
 rw[show leN (⟨(byL m).toArray⟩:ByteArray).data.toList=m from leN_byL m hB,if_neg h] at h1
 exact h1
theorem bit255 (N:Nat) (b:Nat) (hb:bitN N 255=b) (w:World):Calls Tryz.prog 29 #[numV N,.int .i64 255] w fun e w'=>e=.returned (.int .u64 (b:Int))∧Below w.heap.size w w':=by
 rw[← hb]
 exact bit_any N 255 w (by decide)
theorem bin_eql_u0 (x y:Operand) (W:World):(do eqGuard .eql 61 x y (.int .u64 ((0:Nat):Int)) (.int .u64 1);binOp .eql 61 (.int .u64 ((0:Nat):Int)) (.int .u64 1):Sem Value).run Tryz.prog W=.ok (.bool false) W:=by
 go_simp
theorem bin_eql_u1 (x y:Operand) (W:World):(do eqGuard .eql 61 x y (.int .u64 ((1:Nat):Int)) (.int .u64 1);binOp .eql 61 (.int .u64 ((1:Nat):Int)) (.int .u64 1):Sem Value).run Tryz.prog W=.ok (.bool true) W:=by
 go_simp
theorem decB_bit (N:Nat):(decB N=false→bitN N 255=0)∧(decB N=true→bitN N 255=1):=by
 have h:=bitN_lt N 255
 unfold decB
 exact⟨fun h1=>by have:=of_decide_eq_false h1;omega,of_decide_eq_true⟩
theorem bin_eql_ub (b:Nat) (x y:Operand) (W:World):(do eqGuard .eql 61 x y (.int .u64 (b:Int)) (.int .u64 1);binOp .eql 61 (.int .u64 (b:Int)) (.int .u64 1):Sem Value).run Tryz.prog W=.ok (.bool (decide (b=1))) W:=by
 have e:((b:Int) == 1)=decide (b=1):=by
  rw[Bool.eq_iff_iff]
  simp
  omega
 go_simp
set_option maxRecDepth 20000 in
set_option maxHeartbeats 8000000 in
theorem dec_range (s:ByteArray) (hs:s.size=32) (N m bb:Nat) (hN:leN s.data.toList=N) (em:m=N%(9223372036854775808*B64^3)) (hmB:m<B64^4) (hbit:bitN N 255=bb) (hm:¬ m<PN) (w:World):Calls Tryz.prog 10 #[.string s] w fun E w'=>E=.returned (.tuple #[pv4 zero4,.int .i64 2])∧Below w.heap.size w w':=by
 have HMIX:=Lib.hid (show Tryz.prog.follows .mixedOrders=true by kernel_rfl)
 have KO:=Lib.hid (fun w=>of_any s w hs)
 rw[hN] at KO
 clear hN
 go_enter_defers Tryz.func10,Tryz.ntmps10
 have hM0:=Mem.start w
 (go_step;go_step;refine wp_region_lit ?_)
 refine wl_new hM0 (f:=fun b=>.pointer (some ⟨b,0,none⟩)) (ob:=.cells z16 39 (0,0)) (fun W=>run_alloc_of rfl (al_Pt W)) rfl fun b1 W1 hM1=>?_
 simp only[nm0,nm1,nm2,nm3]
 refine wl_new hM1 (f:=fun b=>.pointer (some ⟨b,0,none⟩)) (ob:=.cells #[.int .i64 0] 27 (0,0)) (fun W=>run_alloc_of rfl (al_Err W)) rfl fun b2 W2 hM2=>?_
 simp only[nm0,nm1,nm2,nm3]
 refine wpList_nil ?_
 (go_step;go_step;go_step;refine wp_region_lit ?_)
 refine wl_pure (v:=.func (.func 26) #[] #[.pointer (some ⟨b2,0,none⟩),.pointer (some ⟨b1,0,none⟩)]) (fun W=>run_makeFunc_of rfl (by simp[Instr.makeFunc,Act.eval])) rfl ?_
 simp only[nm0,nm1,nm2,nm3]
 refine wl_defer (d:={ target:=.fn (.func 26) #[.pointer (some ⟨b2,0,none⟩),.pointer (some ⟨b1,0,none⟩)],args:=#[] }) (fun W=>run_defer_of W rfl rfl) rfl rfl ?_
 dsimp only
 refine wpList_nil ?_
 (go_step;go_step;go_step;refine wp_region_lit ?_)
 refine wl_pure (v:=.string s) (fun _=>rfl) rfl ?_
 simp only[nm0,nm1,nm2,nm3]
 refine wl_call hM2 (args:=#[.string s]) (v:=.tuple #[numV N,.int .i64 0]) (fun W=>run_call_fn W (enters_of Tryz.func28 rfl rfl) rfl (by simp[Act.eval])) (KO.out W2) rfl fun W3 hM3=>?_
 simp only[nm0,nm1,nm2,nm3]
 refine wl_pure (v:=.tuple #[numV N,.int .i64 0]) (fun _=>rfl) rfl ?_
 simp only[nm0,nm1,nm2,nm3]
 refine wl_pure (v:=numV N) (fun _=>rfl) rfl ?_
 simp only[nm0,nm1,nm2,nm3]
 refine wl_pure (v:=.int .i64 0) (fun _=>rfl) rfl ?_
 simp only[nm0,nm1,nm2,nm3]
 refine wl_new hM3 (f:=fun b=>.pointer (some ⟨b,0,none⟩)) (ob:=.cells z4 24 (0,0)) (fun W=>run_alloc_of rfl (al_Wn W)) rfl fun b3 W4 hM4=>?_
 simp only[nm0,nm1,nm2,nm3]
 refine wl_set hM4 0 (cs:=(elR N)) rfl rfl rfl rfl rowWn rfl (one_el N) rfl rfl fun W5 hM5=>?_
 simp only[nm2,nm3] at hM5
 refine wl_setat hM5 1 (cs':=#[.int .i64 0]) rfl rfl rfl rfl (by show 0<1;decide) (rfl) cellErr rfl rfl rfl fun W6 hM6=>?_
 simp only[nm2,nm3] at hM6
 refine wpList_nil ?_
 (go_step;go_step;go_step;go_step;refine wp_region_lit ?_)
 refine wl_cell hM6 1 (v:=.int .i64 0) rfl rfl rfl rfl cellErr rfl ?_
 simp only[nm0,nm1,nm2,nm3]
 refine wl_pure (v:=.bool false) (fun W=>run_neint_of W rfl rfl rfl rfl) rfl ?_
 simp only[nm0,nm1,nm2,nm3]
 refine wpList_nil ?_
 (go_step;go_step;go_step;go_step;go_step;go_step;go_step;refine wp_region_lit ?_)
 refine wl_row hM6 0 (v:=numV N) rfl rfl rfl rfl rowWn rfl ?_
 simp only[nm0,nm1,nm2,nm3]
 refine wl_call hM6 (args:=#[numV N,.int .i64 255]) (v:=.int .u64 ((bb:Nat):Int)) (fun W=>run_call_fn W (enters_of Tryz.func29 rfl rfl) rfl (by simp[Act.eval])) (bit255 N bb hbit W6) rfl fun W7 hM7=>?_
 simp only[nm0,nm1,nm2,nm3]
 obtain⟨c1,hc1⟩:∃ x,x=decide (bb=1):=⟨_,rfl⟩
 refine wl_pure (v:=.bool c1) (fun W=>run_bin_of rfl rfl rfl (by rw[hc1];exact bin_eql_ub bb _ _ W)) rfl ?_
 simp only[nm0,nm1,nm2,nm3]
 refine wl_pure (v:=.bool c1) (fun _=>rfl) rfl ?_
 simp only[nm0,nm1,nm2,nm3]
 refine wpList_nil ?_
 (go_step;go_step;go_step;refine wp_region_lit ?_)
 refine wl_pure (v:=.pointer (some ⟨b3,3,none⟩)) (fun W=>run_index_of rfl rfl rfl (ix_Wn3 b3 W)) rfl ?_
 simp only[nm0,nm1,nm2,nm3]
 refine wl_cell hM7 0 (v:=.int .u64 (wd N 3:Int)) rfl rfl rfl rfl cellU rfl ?_
 simp only[nm0,nm1,nm2,nm3]
 refine wl_pure (v:=.int .u64 (((wd N 3)%9223372036854775808:Nat):Int)) (fun W=>run_bin_of rfl rfl rfl (andnot63 (wd N 3) (wd_lt _ _) _ _ W)) rfl ?_
 simp only[nm0,nm1,nm2,nm3]
 refine wl_pure (v:=.pointer (some ⟨b3,3,none⟩)) (fun W=>run_index_of rfl rfl rfl (ix_Wn3 b3 W)) rfl ?_
 simp only[nm0,nm1,nm2,nm3]
 refine wl_setat hM7 0 (cs':=(elR m)) rfl rfl rfl rfl (by show 3<4;decide) (by rw[em];exact num_low N) cellU rfl rfl rfl fun W8 hM8=>?_
 simp only[nm2,nm3] at hM8
 refine wpList_nil ?_
 (go_step;go_step;go_step;refine wp_region_lit ?_)
 refine wl_row hM8 0 (v:=numV m) rfl rfl rfl rfl rowWn rfl ?_
 simp only[nm0,nm1,nm2,nm3]
 refine wl_call hM8 (args:=#[numV m]) (v:=.string ⟨(byL m).toArray⟩) (fun W=>run_call_fn W (enters_of Tryz.func31 rfl rfl) rfl (by simp[Act.eval])) (bytes_any m W8) rfl fun W9 hM9=>?_
 simp only[nm0,nm1,nm2,nm3]
 refine wl_call hM9 (args:=#[.string ⟨(byL m).toArray⟩]) (v:=.tuple #[numV 0,.int .i64 2]) (fun W=>run_call_fn W (enters_of Tryz.func30 rfl rfl) rfl (by simp[Act.eval])) (pof_out m hm hmB W9) rfl fun W10 hM10=>?_
 simp only[nm0,nm1,nm2,nm3]
 refine wl_pure (v:=.tuple #[numV 0,.int .i64 2]) (fun _=>rfl) rfl ?_
 simp only[nm0,nm1,nm2,nm3]
 refine wl_pure (v:=numV 0) (fun _=>rfl) rfl ?_
 simp only[nm0,nm1,nm2,nm3]
 refine wl_pure (v:=.int .i64 2) (fun _=>rfl) rfl ?_
 simp only[nm0,nm1,nm2,nm3]
 refine wl_new hM10 (f:=fun b=>.pointer (some ⟨b,0,none⟩)) (ob:=.cells z4 36 (0,0)) (fun W=>run_alloc_of rfl (al_El W)) rfl fun b4 W11 hM11=>?_
 simp only[nm0,nm1,nm2,nm3]
 refine wl_set hM11 0 (cs:=(elR 0)) rfl rfl rfl rfl rowEl rfl (one_el 0) rfl rfl fun W12 hM12=>?_
 simp only[nm2,nm3] at hM12
 refine wl_setat hM12 2 (cs':=#[.int .i64 2]) rfl rfl rfl rfl (by show 0<1;decide) (rfl) cellErr rfl rfl rfl fun W13 hM13=>?_
 simp only[nm2,nm3] at hM13
 refine wpList_nil ?_
 (go_step;go_step;go_step;go_step;refine wp_region_lit ?_)
 refine wl_cell hM13 2 (v:=.int .i64 2) rfl rfl rfl rfl cellErr rfl ?_
 simp only[nm0,nm1,nm2,nm3]
 refine wl_pure (v:=.bool true) (fun W=>run_neint_of W rfl rfl rfl rfl) rfl ?_
 simp only[nm0,nm1,nm2,nm3]
 refine wpList_nil ?_
 have hMd:=hM13.drew
 (go_step;go_step;go_step;go_step;refine wp_region_noPanic (wp_region_held_drew HMIX.out (S:=fun w1=>w1.heap[b1]?=some (.cells z16 39 (0,0))∧w1.heap[b2]?=some (.cells #[.int .i64 2] 27 (0,0))) (⟨hMd.get 3 rfl,hMd.get 2 rfl⟩) fun hS=>?_))
 change wpAnyH _ _ _ _ _ 4 _ _ _
 generalize W13.drew=W14 at hMd hS ⊢
 have hM14:=hMd
 clear hMd
 refine hd_row 0 34 #[true,false,false,false] (by kernel_rfl) (v:=.agg z16) (cs:=z16) (b:=b1) rfl rfl rfl rfl (fun W hW=>hW.1) rfl rowPt (by kernel_rfl) (by kernel_rfl) (by kernel_rfl) rfl hS ?_
 simp only[nm0,nm1,nm2,nm3]
 refine hd_cell 1 35 #[true,true,false,false] (by kernel_rfl) (v:=.int .i64 2) (cs:=#[.int .i64 2]) (b:=b2) rfl rfl rfl rfl (fun W hW=>hW.2) rfl cellErr (by kernel_rfl) (by kernel_rfl) (by kernel_rfl) rfl hS ?_
 simp only[nm0,nm1,nm2,nm3]
 refine hd_set (n:=2) #[true,true,true,false] (by kernel_rfl) (by kernel_rfl) rfl hM14 3 (cs:=z16) rfl rfl rfl rfl rowPt rfl one_z16 rfl rfl (fun W hW=>⟨hW.get 3 rfl,hW.get 2 rfl⟩) fun W15 hM15=>?_
 simp only[nm2,nm3] at hM15
 refine hd_setat (n:=3) #[true,true,true,true] (by kernel_rfl) (by kernel_rfl) rfl hM15 2 (cs':=#[.int .i64 2]) rfl rfl rfl rfl (by show 0<1;decide) (rfl) cellErr rfl rfl rfl (fun W hW=>⟨hW.get 3 rfl,hW.get 2 rfl⟩) fun W16 hM16=>?_
 simp only[nm2,nm3] at hM16
 refine wpAnyH_done (by kernel_rfl) ?_ _
 refine NoPanic.normal ?_
 (go_step;go_step;go_step;refine bodyPostD_one rfl (enters_of Tryz.func26 rfl rfl) ((dec1_any _ _ _ 2 3 _ _ 2 _ hM16 rfl rfl rfl).mono ?_))
 rintro E u w' ⟨rfl,rfl,hMF⟩
 rw[if_neg (by decide)] at hMF
 simp only[nm2,nm3] at hMF
 exact⟨rfl,rfl,_,results_arr2 Tryz.results10 rfl rfl (hMF.load 3 rfl rowPt) (load_cell (hMF.get 2 rfl) rfl cellErr),rfl,hMF.below⟩
set_option maxRecDepth 20000 in
set_option maxHeartbeats 8000000 in
theorem dec_no (s:ByteArray) (hs:s.size=32) (N m bb x:Nat) (hN:leN s.data.toList=N) (em:m=N%(9223372036854775808*B64^3)) (hbit:bitN N 255=bb) (hm:m<PN) (ex:x=rootN iV (sqR m)) (hok:okN iV (sqR m)=false) (w:World):Calls Tryz.prog 10 #[.string s] w fun E w'=>E=.returned (.tuple #[pv4 zero4,.int .i64 22])∧Below w.heap.size w w':=by
 have HMIX:=Lib.hid (show Tryz.prog.follows .mixedOrders=true by kernel_rfl)
 have KO:=Lib.hid (fun w=>of_any s w hs)
 rw[hN] at KO
 clear hN
 have hx:x<PN:=by rw[ex];exact rootN_below _
 have KB:=Lib.hid (fun w=>beside_any m w hm)
 rw[← ex,hok] at KB
 go_enter_defers Tryz.func10,Tryz.ntmps10
 have hM0:=Mem.start w
 (go_step;go_step;refine wp_region_lit ?_)
 refine wl_new hM0 (f:=fun b=>.pointer (some ⟨b,0,none⟩)) (ob:=.cells z16 39 (0,0)) (fun W=>run_alloc_of rfl (al_Pt W)) rfl fun b1 W1 hM1=>?_
 simp only[nm0,nm1,nm2,nm3]
 refine wl_new hM1 (f:=fun b=>.pointer (some ⟨b,0,none⟩)) (ob:=.cells #[.int .i64 0] 27 (0,0)) (fun W=>run_alloc_of rfl (al_Err W)) rfl fun b2 W2 hM2=>?_
 simp only[nm0,nm1,nm2,nm3]
 refine wpList_nil ?_
 (go_step;go_step;go_step;refine wp_region_lit ?_)
 refine wl_pure (v:=.func (.func 26) #[] #[.pointer (some ⟨b2,0,none⟩),.pointer (some ⟨b1,0,none⟩)]) (fun W=>run_makeFunc_of rfl (by simp[Instr.makeFunc,Act.eval])) rfl ?_
 simp only[nm0,nm1,nm2,nm3]
 refine wl_defer (d:={ target:=.fn (.func 26) #[.pointer (some ⟨b2,0,none⟩),.pointer (some ⟨b1,0,none⟩)],args:=#[] }) (fun W=>run_defer_of W rfl rfl) rfl rfl ?_
 dsimp only
 refine wpList_nil ?_
 (go_step;go_step;go_step;refine wp_region_lit ?_)
 refine wl_pure (v:=.string s) (fun _=>rfl) rfl ?_
 simp only[nm0,nm1,nm2,nm3]
 refine wl_call hM2 (args:=#[.string s]) (v:=.tuple #[numV N,.int .i64 0]) (fun W=>run_call_fn W (enters_of Tryz.func28 rfl rfl) rfl (by simp[Act.eval])) (KO.out W2) rfl fun W3 hM3=>?_
 simp only[nm0,nm1,nm2,nm3]
 refine wl_pure (v:=.tuple #[numV N,.int .i64 0]) (fun _=>rfl) rfl ?_
 simp only[nm0,nm1,nm2,nm3]
 refine wl_pure (v:=numV N) (fun _=>rfl) rfl ?_
 simp only[nm0,nm1,nm2,nm3]
 refine wl_pure (v:=.int .i64 0) (fun _=>rfl) rfl ?_
 simp only[nm0,nm1,nm2,nm3]
 refine wl_new hM3 (f:=fun b=>.pointer (some ⟨b,0,none⟩)) (ob:=.cells z4 24 (0,0)) (fun W=>run_alloc_of rfl (al_Wn W)) rfl fun b3 W4 hM4=>?_
 simp only[nm0,nm1,nm2,nm3]
 refine wl_set hM4 0 (cs:=(elR N)) rfl rfl rfl rfl rowWn rfl (one_el N) rfl rfl fun W5 hM5=>?_
 simp only[nm2,nm3] at hM5
 refine wl_setat hM5 1 (cs':=#[.int .i64 0]) rfl rfl rfl rfl (by show 0<1;decide) (rfl) cellErr rfl rfl rfl fun W6 hM6=>?_
 simp only[nm2,nm3] at hM6
 refine wpList_nil ?_
 (go_step;go_step;go_step;go_step;refine wp_region_lit ?_)
 refine wl_cell hM6 1 (v:=.int .i64 0) rfl rfl rfl rfl cellErr rfl ?_
 simp only[nm0,nm1,nm2,nm3]
 refine wl_pure (v:=.bool false) (fun W=>run_neint_of W rfl rfl rfl rfl) rfl ?_
 simp only[nm0,nm1,nm2,nm3]
 refine wpList_nil ?_
 (go_step;go_step;go_step;go_step;go_step;go_step;go_step;refine wp_region_lit ?_)
 refine wl_row hM6 0 (v:=numV N) rfl rfl rfl rfl rowWn rfl ?_
 simp only[nm0,nm1,nm2,nm3]
 refine wl_call hM6 (args:=#[numV N,.int .i64 255]) (v:=.int .u64 ((bb:Nat):Int)) (fun W=>run_call_fn W (enters_of Tryz.func29 rfl rfl) rfl (by simp[Act.eval])) (bit255 N bb hbit W6) rfl fun W7 hM7=>?_
 simp only[nm0,nm1,nm2,nm3]
 obtain⟨c1,hc1⟩:∃ x,x=decide (bb=1):=⟨_,rfl⟩
 refine wl_pure (v:=.bool c1) (fun W=>run_bin_of rfl rfl rfl (by rw[hc1];exact bin_eql_ub bb _ _ W)) rfl ?_
 simp only[nm0,nm1,nm2,nm3]
 refine wl_pure (v:=.bool c1) (fun _=>rfl) rfl ?_
 simp only[nm0,nm1,nm2,nm3]
 refine wpList_nil ?_
 (go_step;go_step;go_step;refine wp_region_lit ?_)
 refine wl_pure (v:=.pointer (some ⟨b3,3,none⟩)) (fun W=>run_index_of rfl rfl rfl (ix_Wn3 b3 W)) rfl ?_
 simp only[nm0,nm1,nm2,nm3]
 refine wl_cell hM7 0 (v:=.int .u64 (wd N 3:Int)) rfl rfl rfl rfl cellU rfl ?_
 simp only[nm0,nm1,nm2,nm3]
 refine wl_pure (v:=.int .u64 (((wd N 3)%9223372036854775808:Nat):Int)) (fun W=>run_bin_of rfl rfl rfl (andnot63 (wd N 3) (wd_lt _ _) _ _ W)) rfl ?_
 simp only[nm0,nm1,nm2,nm3]
 refine wl_pure (v:=.pointer (some ⟨b3,3,none⟩)) (fun W=>run_index_of rfl rfl rfl (ix_Wn3 b3 W)) rfl ?_
 simp only[nm0,nm1,nm2,nm3]
 refine wl_setat hM7 0 (cs':=(elR m)) rfl rfl rfl rfl (by show 3<4;decide) (by rw[em];exact num_low N) cellU rfl rfl rfl fun W8 hM8=>?_
 simp only[nm2,nm3] at hM8
 refine wpList_nil ?_
 (go_step;go_step;go_step;refine wp_region_lit ?_)
 refine wl_row hM8 0 (v:=numV m) rfl rfl rfl rfl rowWn rfl ?_
 simp only[nm0,nm1,nm2,nm3]
 refine wl_call hM8 (args:=#[numV m]) (v:=.string ⟨(byL m).toArray⟩) (fun W=>run_call_fn W (enters_of Tryz.func31 rfl rfl) rfl (by simp[Act.eval])) (bytes_any m W8) rfl fun W9 hM9=>?_
 simp only[nm0,nm1,nm2,nm3]
 refine wl_call hM9 (args:=#[.string ⟨(byL m).toArray⟩]) (v:=.tuple #[numV m,.int .i64 0]) (fun W=>run_call_fn W (enters_of Tryz.func30 rfl rfl) rfl (by simp[Act.eval])) (pof_in m hm W9) rfl fun W10 hM10=>?_
 simp only[nm0,nm1,nm2,nm3]
 refine wl_pure (v:=.tuple #[numV m,.int .i64 0]) (fun _=>rfl) rfl ?_
 simp only[nm0,nm1,nm2,nm3]
 refine wl_pure (v:=numV m) (fun _=>rfl) rfl ?_
 simp only[nm0,nm1,nm2,nm3]
 refine wl_pure (v:=.int .i64 0) (fun _=>rfl) rfl ?_
 simp only[nm0,nm1,nm2,nm3]
 refine wl_new hM10 (f:=fun b=>.pointer (some ⟨b,0,none⟩)) (ob:=.cells z4 36 (0,0)) (fun W=>run_alloc_of rfl (al_El W)) rfl fun b4 W11 hM11=>?_
 simp only[nm0,nm1,nm2,nm3]
 refine wl_set hM11 0 (cs:=(elR m)) rfl rfl rfl rfl rowEl rfl (one_el m) rfl rfl fun W12 hM12=>?_
 simp only[nm2,nm3] at hM12
 refine wl_setat hM12 2 (cs':=#[.int .i64 0]) rfl rfl rfl rfl (by show 0<1;decide) (rfl) cellErr rfl rfl rfl fun W13 hM13=>?_
 simp only[nm2,nm3] at hM13
 refine wpList_nil ?_
 (go_step;go_step;go_step;go_step;refine wp_region_lit ?_)
 refine wl_cell hM13 2 (v:=.int .i64 0) rfl rfl rfl rfl cellErr rfl ?_
 simp only[nm0,nm1,nm2,nm3]
 refine wl_pure (v:=.bool false) (fun W=>run_neint_of W rfl rfl rfl rfl) rfl ?_
 simp only[nm0,nm1,nm2,nm3]
 refine wpList_nil ?_
 (go_step;go_step;go_step;go_step;go_step;go_step;go_step;refine wp_region_lit ?_)
 refine wl_row hM13 0 (v:=numV m) rfl rfl rfl rfl rowEl rfl ?_
 simp only[nm0,nm1,nm2,nm3]
 refine wl_call hM13 (args:=#[numV m]) (v:=.tuple #[numV x,.bool false]) (fun W=>run_call_fn W (enters_of Tryz.func32 rfl rfl) rfl (by simp[Act.eval])) (KB.out W13) rfl fun W14 hM14=>?_
 simp only[nm0,nm1,nm2,nm3]
 refine wl_pure (v:=.tuple #[numV x,.bool false]) (fun _=>rfl) rfl ?_
 simp only[nm0,nm1,nm2,nm3]
 refine wl_pure (v:=numV x) (fun _=>rfl) rfl ?_
 simp only[nm0,nm1,nm2,nm3]
 refine wl_pure (v:=.bool false) (fun _=>rfl) rfl ?_
 simp only[nm0,nm1,nm2,nm3]
 refine wl_new hM14 (f:=fun b=>.pointer (some ⟨b,0,none⟩)) (ob:=.cells z4 36 (0,0)) (fun W=>run_alloc_of rfl (al_El W)) rfl fun b5 W15 hM15=>?_
 simp only[nm0,nm1,nm2,nm3]
 refine wl_set hM15 0 (cs:=(elR x)) rfl rfl rfl rfl rowEl rfl (one_el x) rfl rfl fun W16 hM16=>?_
 simp only[nm2,nm3] at hM16
 refine wl_pure (v:=.bool false) (fun _=>rfl) rfl ?_
 simp only[nm0,nm1,nm2,nm3]
 refine wpList_nil ?_
 (go_step;go_step;go_step;go_step;refine wp_region_lit ?_)
 refine wl_pure (v:=.bool false) (fun _=>rfl) rfl ?_
 simp only[nm0,nm1,nm2,nm3]
 refine wl_pure (v:=.bool true) (fun W=>run_not_of W rfl rfl rfl) rfl ?_
 simp only[nm0,nm1,nm2,nm3]
 refine wpList_nil ?_
 (go_step;go_step;go_step;go_step;refine wp_region_lit ?_)
 refine wl_row hM16 4 (v:=.agg z16) rfl rfl rfl rfl rowPt rfl ?_
 simp only[nm0,nm1,nm2,nm3]
 refine wl_set hM16 4 (cs:=z16) rfl rfl rfl rfl rowPt rfl one_z16 rfl rfl fun W17 hM17=>?_
 simp only[nm2,nm3] at hM17
 refine wl_setat hM17 3 (cs':=#[.int .i64 22]) rfl rfl rfl rfl (by show 0<1;decide) (rfl) cellErr rfl rfl rfl fun W18 hM18=>?_
 simp only[nm2,nm3] at hM18
 refine wpList_nil ?_
 (go_step;go_step;go_step;refine bodyPostD_one rfl (enters_of Tryz.func26 rfl rfl) ((dec1_any _ _ _ 3 4 _ _ 22 _ hM18 rfl rfl rfl).mono ?_))
 rintro E u w' ⟨rfl,rfl,hMF⟩
 rw[if_neg (by decide)] at hMF
 simp only[nm2,nm3] at hMF
 exact⟨rfl,rfl,_,results_arr2 Tryz.results10 rfl rfl (hMF.load 4 rfl rowPt) (load_cell (hMF.get 3 rfl) rfl cellErr),rfl,hMF.below⟩
set_option maxRecDepth 20000 in
set_option maxHeartbeats 8000000 in
theorem dec_bad (s:ByteArray) (hs:s.size=32) (N m x:Nat) (hN:leN s.data.toList=N) (em:m=N%(9223372036854775808*B64^3)) (hbit:bitN N 255=1) (hm:m<PN) (ex:x=rootN iV (sqR m)) (hok:okN iV (sqR m)=true) (h0:x=0) (w:World):Calls Tryz.prog 10 #[.string s] w fun E w'=>E=.returned (.tuple #[pv4 zero4,.int .i64 22])∧Below w.heap.size w w':=by
 have HMIX:=Lib.hid (show Tryz.prog.follows .mixedOrders=true by kernel_rfl)
 have KO:=Lib.hid (fun w=>of_any s w hs)
 rw[hN] at KO
 clear hN
 have hx:x<PN:=by rw[ex];exact rootN_below _
 have KB:=Lib.hid (fun w=>beside_any m w hm)
 rw[← ex,hok] at KB
 have hon:On (fz x,fz m):=by rw[ex];exact root_on m hok
 have oka:Ok4 (x,m,1,x*m%PN) ((fz x,fz m):Pt):=ok4_at x m _ hx hm hon rfl rfl
 have KM:=Lib.hid (fun w=>make_yes x m hx hm hon w)
 obtain⟨a,ea⟩:∃ a,a=((x,m,1,x*m%PN):N4):=⟨_,rfl⟩
 rw[← ea] at oka KM
 clear hon ex hok
 go_enter_defers Tryz.func10,Tryz.ntmps10
 have hM0:=Mem.start w
 (go_step;go_step;refine wp_region_lit ?_)
 refine wl_new hM0 (f:=fun b=>.pointer (some ⟨b,0,none⟩)) (ob:=.cells z16 39 (0,0)) (fun W=>run_alloc_of rfl (al_Pt W)) rfl fun b1 W1 hM1=>?_
 simp only[nm0,nm1,nm2,nm3]
 refine wl_new hM1 (f:=fun b=>.pointer (some ⟨b,0,none⟩)) (ob:=.cells #[.int .i64 0] 27 (0,0)) (fun W=>run_alloc_of rfl (al_Err W)) rfl fun b2 W2 hM2=>?_
 simp only[nm0,nm1,nm2,nm3]
 refine wpList_nil ?_
 (go_step;go_step;go_step;refine wp_region_lit ?_)
 refine wl_pure (v:=.func (.func 26) #[] #[.pointer (some ⟨b2,0,none⟩),.pointer (some ⟨b1,0,none⟩)]) (fun W=>run_makeFunc_of rfl (by simp[Instr.makeFunc,Act.eval])) rfl ?_
 simp only[nm0,nm1,nm2,nm3]
 refine wl_defer (d:={ target:=.fn (.func 26) #[.pointer (some ⟨b2,0,none⟩),.pointer (some ⟨b1,0,none⟩)],args:=#[] }) (fun W=>run_defer_of W rfl rfl) rfl rfl ?_
 dsimp only
 refine wpList_nil ?_
 (go_step;go_step;go_step;refine wp_region_lit ?_)
 refine wl_pure (v:=.string s) (fun _=>rfl) rfl ?_
 simp only[nm0,nm1,nm2,nm3]
 refine wl_call hM2 (args:=#[.string s]) (v:=.tuple #[numV N,.int .i64 0]) (fun W=>run_call_fn W (enters_of Tryz.func28 rfl rfl) rfl (by simp[Act.eval])) (KO.out W2) rfl fun W3 hM3=>?_
 simp only[nm0,nm1,nm2,nm3]
 refine wl_pure (v:=.tuple #[numV N,.int .i64 0]) (fun _=>rfl) rfl ?_
 simp only[nm0,nm1,nm2,nm3]
 refine wl_pure (v:=numV N) (fun _=>rfl) rfl ?_
 simp only[nm0,nm1,nm2,nm3]
 refine wl_pure (v:=.int .i64 0) (fun _=>rfl) rfl ?_
 simp only[nm0,nm1,nm2,nm3]
 refine wl_new hM3 (f:=fun b=>.pointer (some ⟨b,0,none⟩)) (ob:=.cells z4 24 (0,0)) (fun W=>run_alloc_of rfl (al_Wn W)) rfl fun b3 W4 hM4=>?_
 simp only[nm0,nm1,nm2,nm3]
 refine wl_set hM4 0 (cs:=(elR N)) rfl rfl rfl rfl rowWn rfl (one_el N) rfl rfl fun W5 hM5=>?_
 simp only[nm2,nm3] at hM5
 refine wl_setat hM5 1 (cs':=#[.int .i64 0]) rfl rfl rfl rfl (by show 0<1;decide) (rfl) cellErr rfl rfl rfl fun W6 hM6=>?_
 simp only[nm2,nm3] at hM6
 refine wpList_nil ?_
 (go_step;go_step;go_step;go_step;refine wp_region_lit ?_)
 refine wl_cell hM6 1 (v:=.int .i64 0) rfl rfl rfl rfl cellErr rfl ?_
 simp only[nm0,nm1,nm2,nm3]
 refine wl_pure (v:=.bool false) (fun W=>run_neint_of W rfl rfl rfl rfl) rfl ?_
 simp only[nm0,nm1,nm2,nm3]
 refine wpList_nil ?_
 (go_step;go_step;go_step;go_step;go_step;go_step;go_step;refine wp_region_lit ?_)
 refine wl_row hM6 0 (v:=numV N) rfl rfl rfl rfl rowWn rfl ?_
 simp only[nm0,nm1,nm2,nm3]
 refine wl_call hM6 (args:=#[numV N,.int .i64 255]) (v:=.int .u64 ((1:Nat):Int)) (fun W=>run_call_fn W (enters_of Tryz.func29 rfl rfl) rfl (by simp[Act.eval])) (bit255 N 1 hbit W6) rfl fun W7 hM7=>?_
 simp only[nm0,nm1,nm2,nm3]
 refine wl_pure (v:=.bool true) (fun W=>run_bin_of rfl rfl rfl (bin_eql_u1 _ _ W)) rfl ?_
 simp only[nm0,nm1,nm2,nm3]
 refine wl_pure (v:=.bool true) (fun _=>rfl) rfl ?_
 simp only[nm0,nm1,nm2,nm3]
 refine wpList_nil ?_
 (go_step;go_step;go_step;refine wp_region_lit ?_)
 refine wl_pure (v:=.pointer (some ⟨b3,3,none⟩)) (fun W=>run_index_of rfl rfl rfl (ix_Wn3 b3 W)) rfl ?_
 simp only[nm0,nm1,nm2,nm3]
 refine wl_cell hM7 0 (v:=.int .u64 (wd N 3:Int)) rfl rfl rfl rfl cellU rfl ?_
 simp only[nm0,nm1,nm2,nm3]
 refine wl_pure (v:=.int .u64 (((wd N 3)%9223372036854775808:Nat):Int)) (fun W=>run_bin_of rfl rfl rfl (andnot63 (wd N 3) (wd_lt _ _) _ _ W)) rfl ?_
 simp only[nm0,nm1,nm2,nm3]
 refine wl_pure (v:=.pointer (some ⟨b3,3,none⟩)) (fun W=>run_index_of rfl rfl rfl (ix_Wn3 b3 W)) rfl ?_
 simp only[nm0,nm1,nm2,nm3]
 refine wl_setat hM7 0 (cs':=(elR m)) rfl rfl rfl rfl (by show 3<4;decide) (by rw[em];exact num_low N) cellU rfl rfl rfl fun W8 hM8=>?_
 simp only[nm2,nm3] at hM8
 refine wpList_nil ?_
 (go_step;go_step;go_step;refine wp_region_lit ?_)
 refine wl_row hM8 0 (v:=numV m) rfl rfl rfl rfl rowWn rfl ?_
 simp only[nm0,nm1,nm2,nm3]
 refine wl_call hM8 (args:=#[numV m]) (v:=.string ⟨(byL m).toArray⟩) (fun W=>run_call_fn W (enters_of Tryz.func31 rfl rfl) rfl (by simp[Act.eval])) (bytes_any m W8) rfl fun W9 hM9=>?_
 simp only[nm0,nm1,nm2,nm3]
 refine wl_call hM9 (args:=#[.string ⟨(byL m).toArray⟩]) (v:=.tuple #[numV m,.int .i64 0]) (fun W=>run_call_fn W (enters_of Tryz.func30 rfl rfl) rfl (by simp[Act.eval])) (pof_in m hm W9) rfl fun W10 hM10=>?_
 simp only[nm0,nm1,nm2,nm3]
 refine wl_pure (v:=.tuple #[numV m,.int .i64 0]) (fun _=>rfl) rfl ?_
 simp only[nm0,nm1,nm2,nm3]
 refine wl_pure (v:=numV m) (fun _=>rfl) rfl ?_
 simp only[nm0,nm1,nm2,nm3]
 refine wl_pure (v:=.int .i64 0) (fun _=>rfl) rfl ?_
 simp only[nm0,nm1,nm2,nm3]
 refine wl_new hM10 (f:=fun b=>.pointer (some ⟨b,0,none⟩)) (ob:=.cells z4 36 (0,0)) (fun W=>run_alloc_of rfl (al_El W)) rfl fun b4 W11 hM11=>?_
 simp only[nm0,nm1,nm2,nm3]
 refine wl_set hM11 0 (cs:=(elR m)) rfl rfl rfl rfl rowEl rfl (one_el m) rfl rfl fun W12 hM12=>?_
 simp only[nm2,nm3] at hM12
 refine wl_setat hM12 2 (cs':=#[.int .i64 0]) rfl rfl rfl rfl (by show 0<1;decide) (rfl) cellErr rfl rfl rfl fun W13 hM13=>?_
 simp only[nm2,nm3] at hM13
 refine wpList_nil ?_
 (go_step;go_step;go_step;go_step;refine wp_region_lit ?_)
 refine wl_cell hM13 2 (v:=.int .i64 0) rfl rfl rfl rfl cellErr rfl ?_
 simp only[nm0,nm1,nm2,nm3]
 refine wl_pure (v:=.bool false) (fun W=>run_neint_of W rfl rfl rfl rfl) rfl ?_
 simp only[nm0,nm1,nm2,nm3]
 refine wpList_nil ?_
 (go_step;go_step;go_step;go_step;go_step;go_step;go_step;refine wp_region_lit ?_)
 refine wl_row hM13 0 (v:=numV m) rfl rfl rfl rfl rowEl rfl ?_
 simp only[nm0,nm1,nm2,nm3]
 refine wl_call hM13 (args:=#[numV m]) (v:=.tuple #[numV x,.bool true]) (fun W=>run_call_fn W (enters_of Tryz.func32 rfl rfl) rfl (by simp[Act.eval])) (KB.out W13) rfl fun W14 hM14=>?_
 simp only[nm0,nm1,nm2,nm3]
 refine wl_pure (v:=.tuple #[numV x,.bool true]) (fun _=>rfl) rfl ?_
 simp only[nm0,nm1,nm2,nm3]
 refine wl_pure (v:=numV x) (fun _=>rfl) rfl ?_
 simp only[nm0,nm1,nm2,nm3]
 refine wl_pure (v:=.bool true) (fun _=>rfl) rfl ?_
 simp only[nm0,nm1,nm2,nm3]
 refine wl_new hM14 (f:=fun b=>.pointer (some ⟨b,0,none⟩)) (ob:=.cells z4 36 (0,0)) (fun W=>run_alloc_of rfl (al_El W)) rfl fun b5 W15 hM15=>?_
 simp only[nm0,nm1,nm2,nm3]
 refine wl_set hM15 0 (cs:=(elR x)) rfl rfl rfl rfl rowEl rfl (one_el x) rfl rfl fun W16 hM16=>?_
 simp only[nm2,nm3] at hM16
 refine wl_pure (v:=.bool true) (fun _=>rfl) rfl ?_
 simp only[nm0,nm1,nm2,nm3]
 refine wpList_nil ?_
 (go_step;go_step;go_step;go_step;refine wp_region_lit ?_)
 refine wl_pure (v:=.bool true) (fun _=>rfl) rfl ?_
 simp only[nm0,nm1,nm2,nm3]
 refine wl_pure (v:=.bool false) (fun W=>run_not_of W rfl rfl rfl) rfl ?_
 simp only[nm0,nm1,nm2,nm3]
 refine wpList_nil ?_
 (go_step;go_step;go_step;go_step;go_step;go_step;go_step;refine wp_region_lit ?_)
 refine wl_row hM16 0 (v:=numV x) rfl rfl rfl rfl rowEl rfl ?_
 simp only[nm0,nm1,nm2,nm3]
 refine wl_row hM16 1 (v:=numV m) rfl rfl rfl rfl rowEl rfl ?_
 simp only[nm0,nm1,nm2,nm3]
 refine wl_call hM16 (args:=#[numV x,numV m]) (v:=.tuple #[pv4 a,.int .i64 0]) (fun W=>run_call_fn W (enters_of Tryz.func33 rfl rfl) rfl (by simp[Act.eval])) (KM.out W16) rfl fun W17 hM17=>?_
 simp only[nm0,nm1,nm2,nm3]
 refine wl_pure (v:=.tuple #[pv4 a,.int .i64 0]) (fun _=>rfl) rfl ?_
 simp only[nm0,nm1,nm2,nm3]
 refine wl_pure (v:=pv4 a) (fun _=>rfl) rfl ?_
 simp only[nm0,nm1,nm2,nm3]
 refine wl_pure (v:=.int .i64 0) (fun _=>rfl) rfl ?_
 simp only[nm0,nm1,nm2,nm3]
 refine wl_set hM17 4 (cs:=((pc4 a))) rfl rfl rfl rfl rowPt rfl (one_p4 _) rfl rfl fun W18 hM18=>?_
 simp only[nm2,nm3] at hM18
 refine wl_setat hM18 3 (cs':=#[.int .i64 0]) rfl rfl rfl rfl (by show 0<1;decide) (rfl) cellErr rfl rfl rfl fun W19 hM19=>?_
 simp only[nm2,nm3] at hM19
 refine wpList_nil ?_
 (go_step;go_step;go_step;go_step;refine wp_region_inw 6 HMIX.out (by decide) (by kernel_rfl) (by kernel_rfl) ?_)
 refine inw_pure (v:=.bool true) (fun _=>rfl) rfl rfl ?_;simp only[nm0,nm1,nm2,nm3]
 refine inw_pure (v:=.bool true) (fun _=>rfl) rfl rfl ?_;simp only[nm0,nm1,nm2,nm3]
 refine inw_row hM19 0 (v:=numV x) rfl rfl rfl rfl rowEl rfl rfl ?_;simp only[nm0,nm1,nm2,nm3]
 refine inw_callV (args:=#[.int .u64 0]) (v:=numV 0) (fun W=>run_call_fn W (enters_of Tryz.func34 rfl rfl) rfl (by simp[Act.eval])) (fun W _=>psmall_any_ 0 (by decide) W) rfl rfl ?_;simp only[nm0,nm1,nm2,nm3]
 refine inw_pure (v:=.bool true) (fun W=>run_bin_of rfl rfl rfl (by rw[show true=decide (x=0) from (decide_eq_true h0).symm];exact bin_eql_el x 0 _ _ W (of_PN hx) (of_PN PN_pos))) rfl rfl ?_;simp only[nm0,nm1,nm2,nm3]
 refine inw_pure (v:=.bool true) (fun _=>rfl) rfl rfl ?_;simp only[nm0,nm1,nm2,nm3]
 refine inw_fin fun d os=>?_
 refine given_nil fun hap=>?_
 have hM20:=hM19.calls (below_regrown W19 d os)
 clear hap 
 generalize grow (redrawn W19 d) os=W20 at hM20 ⊢
 refine wpAny_done (by kernel_rfl) ?_ _
 (go_step;go_step;go_step;refine wp_region_lit ?_)
 refine wl_setat hM20 3 (cs':=#[.int .i64 22]) rfl rfl rfl rfl (by show 0<1;decide) (rfl) cellErr rfl rfl rfl fun W21 hM21=>?_
 simp only[nm2,nm3] at hM21
 refine wpList_nil ?_
 (go_step;go_step;go_step;go_step;refine wp_region_lit ?_)
 refine wl_pure (v:=.bool true) (fun _=>rfl) rfl ?_
 simp only[nm0,nm1,nm2,nm3]
 refine wpList_nil ?_
 (go_step;go_step;go_step;refine wp_region_lit ?_)
 refine wl_row hM21 4 (v:=pv4 a) rfl rfl rfl rfl rowPt rfl ?_
 simp only[nm0,nm1,nm2,nm3]
 refine wl_call hM21 (args:=#[pv4 a]) (v:=pv4 ((neg4 a))) (fun W=>run_call_fn W (enters_of Tryz.func35 rfl rfl) rfl (by simp[Act.eval])) (negp4 oka W21) rfl fun W22 hM22=>?_
 simp only[nm0,nm1,nm2,nm3]
 refine wl_set hM22 4 (cs:=((pc4 ((neg4 a))))) rfl rfl rfl rfl rowPt rfl (one_p4 _) rfl rfl fun W23 hM23=>?_
 simp only[nm2,nm3] at hM23
 refine wpList_nil ?_
 have hMd:=hM23.drew
 (go_step;go_step;go_step;refine wp_region_noPanic (wp_region_held_drew HMIX.out (S:=fun w1=>w1.heap[b1]?=some (.cells ((pc4 ((neg4 a)))) 39 (0,0))∧w1.heap[b2]?=some (.cells #[.int .i64 22] 27 (0,0))) (⟨hMd.get 4 rfl,hMd.get 3 rfl⟩) fun hS=>?_))
 change wpAnyH _ _ _ _ _ 4 _ _ _
 generalize W23.drew=W24 at hMd hS ⊢
 have hM24:=hMd
 clear hMd
 refine hd_row 0 59 #[true,false,false,false] (by kernel_rfl) (v:=pv4 ((neg4 a))) (cs:=((pc4 ((neg4 a))))) (b:=b1) rfl rfl rfl rfl (fun W hW=>hW.1) rfl rowPt (by kernel_rfl) (by kernel_rfl) (by kernel_rfl) rfl hS ?_
 simp only[nm0,nm1,nm2,nm3]
 refine hd_cell 1 60 #[true,true,false,false] (by kernel_rfl) (v:=.int .i64 22) (cs:=#[.int .i64 22]) (b:=b2) rfl rfl rfl rfl (fun W hW=>hW.2) rfl cellErr (by kernel_rfl) (by kernel_rfl) (by kernel_rfl) rfl hS ?_
 simp only[nm0,nm1,nm2,nm3]
 refine hd_set (n:=2) #[true,true,true,false] (by kernel_rfl) (by kernel_rfl) rfl hM24 4 (cs:=((pc4 ((neg4 a))))) rfl rfl rfl rfl rowPt rfl (one_p4 _) rfl rfl (fun W hW=>⟨hW.get 4 rfl,hW.get 3 rfl⟩) fun W25 hM25=>?_
 simp only[nm2,nm3] at hM25
 refine hd_setat (n:=3) #[true,true,true,true] (by kernel_rfl) (by kernel_rfl) rfl hM25 3 (cs':=#[.int .i64 22]) rfl rfl rfl rfl (by show 0<1;decide) (rfl) cellErr rfl rfl rfl (fun W hW=>⟨hW.get 4 rfl,hW.get 3 rfl⟩) fun W26 hM26=>?_
 simp only[nm2,nm3] at hM26
 refine wpAnyH_done (by kernel_rfl) ?_ _
 refine NoPanic.normal ?_
 (go_step;go_step;go_step;refine bodyPostD_one rfl (enters_of Tryz.func26 rfl rfl) ((dec1_any _ _ _ 3 4 _ _ 22 _ hM26 rfl rfl rfl).mono ?_))
 rintro E u w' ⟨rfl,rfl,hMF⟩
 rw[if_neg (by decide)] at hMF
 simp only[nm2,nm3] at hMF
 exact⟨rfl,rfl,_,results_arr2 Tryz.results10 rfl rfl (hMF.load 4 rfl rowPt) (load_cell (hMF.get 3 rfl) rfl cellErr),rfl,hMF.below⟩
set_option maxRecDepth 20000 in
set_option maxHeartbeats 8000000 in
theorem dec_yes0 (s:ByteArray) (hs:s.size=32) (N m x:Nat) (hN:leN s.data.toList=N) (em:m=N%(9223372036854775808*B64^3)) (hbit:bitN N 255=0) (hm:m<PN) (ex:x=rootN iV (sqR m)) (hok:okN iV (sqR m)=true)  (w:World):Calls Tryz.prog 10 #[.string s] w fun E w'=>E=.returned (.tuple #[pv4 (x,m,1,x*m%PN),.int .i64 0])∧Below w.heap.size w w':=by
 have HMIX:=Lib.hid (show Tryz.prog.follows .mixedOrders=true by kernel_rfl)
 have KO:=Lib.hid (fun w=>of_any s w hs)
 rw[hN] at KO
 clear hN
 have hx:x<PN:=by rw[ex];exact rootN_below _
 have KB:=Lib.hid (fun w=>beside_any m w hm)
 rw[← ex,hok] at KB
 have hon:On (fz x,fz m):=by rw[ex];exact root_on m hok
 have oka:Ok4 (x,m,1,x*m%PN) ((fz x,fz m):Pt):=ok4_at x m _ hx hm hon rfl rfl
 have KM:=Lib.hid (fun w=>make_yes x m hx hm hon w)
 obtain⟨a,ea⟩:∃ a,a=((x,m,1,x*m%PN):N4):=⟨_,rfl⟩
 rw[← ea] at oka KM ⊢
 clear hon ex hok
 go_enter_defers Tryz.func10,Tryz.ntmps10
 have hM0:=Mem.start w
 (go_step;go_step;refine wp_region_lit ?_)
 refine wl_new hM0 (f:=fun b=>.pointer (some ⟨b,0,none⟩)) (ob:=.cells z16 39 (0,0)) (fun W=>run_alloc_of rfl (al_Pt W)) rfl fun b1 W1 hM1=>?_
 simp only[nm0,nm1,nm2,nm3]
 refine wl_new hM1 (f:=fun b=>.pointer (some ⟨b,0,none⟩)) (ob:=.cells #[.int .i64 0] 27 (0,0)) (fun W=>run_alloc_of rfl (al_Err W)) rfl fun b2 W2 hM2=>?_
 simp only[nm0,nm1,nm2,nm3]
 refine wpList_nil ?_
 (go_step;go_step;go_step;refine wp_region_lit ?_)
 refine wl_pure (v:=.func (.func 26) #[] #[.pointer (some ⟨b2,0,none⟩),.pointer (some ⟨b1,0,none⟩)]) (fun W=>run_makeFunc_of rfl (by simp[Instr.makeFunc,Act.eval])) rfl ?_
 simp only[nm0,nm1,nm2,nm3]
 refine wl_defer (d:={ target:=.fn (.func 26) #[.pointer (some ⟨b2,0,none⟩),.pointer (some ⟨b1,0,none⟩)],args:=#[] }) (fun W=>run_defer_of W rfl rfl) rfl rfl ?_
 dsimp only
 refine wpList_nil ?_
 (go_step;go_step;go_step;refine wp_region_lit ?_)
 refine wl_pure (v:=.string s) (fun _=>rfl) rfl ?_
 simp only[nm0,nm1,nm2,nm3]
 refine wl_call hM2 (args:=#[.string s]) (v:=.tuple #[numV N,.int .i64 0]) (fun W=>run_call_fn W (enters_of Tryz.func28 rfl rfl) rfl (by simp[Act.eval])) (KO.out W2) rfl fun W3 hM3=>?_
 simp only[nm0,nm1,nm2,nm3]
 refine wl_pure (v:=.tuple #[numV N,.int .i64 0]) (fun _=>rfl) rfl ?_
 simp only[nm0,nm1,nm2,nm3]
 refine wl_pure (v:=numV N) (fun _=>rfl) rfl ?_
 simp only[nm0,nm1,nm2,nm3]
 refine wl_pure (v:=.int .i64 0) (fun _=>rfl) rfl ?_
 simp only[nm0,nm1,nm2,nm3]
 refine wl_new hM3 (f:=fun b=>.pointer (some ⟨b,0,none⟩)) (ob:=.cells z4 24 (0,0)) (fun W=>run_alloc_of rfl (al_Wn W)) rfl fun b3 W4 hM4=>?_
 simp only[nm0,nm1,nm2,nm3]
 refine wl_set hM4 0 (cs:=(elR N)) rfl rfl rfl rfl rowWn rfl (one_el N) rfl rfl fun W5 hM5=>?_
 simp only[nm2,nm3] at hM5
 refine wl_setat hM5 1 (cs':=#[.int .i64 0]) rfl rfl rfl rfl (by show 0<1;decide) (rfl) cellErr rfl rfl rfl fun W6 hM6=>?_
 simp only[nm2,nm3] at hM6
 refine wpList_nil ?_
 (go_step;go_step;go_step;go_step;refine wp_region_lit ?_)
 refine wl_cell hM6 1 (v:=.int .i64 0) rfl rfl rfl rfl cellErr rfl ?_
 simp only[nm0,nm1,nm2,nm3]
 refine wl_pure (v:=.bool false) (fun W=>run_neint_of W rfl rfl rfl rfl) rfl ?_
 simp only[nm0,nm1,nm2,nm3]
 refine wpList_nil ?_
 (go_step;go_step;go_step;go_step;go_step;go_step;go_step;refine wp_region_lit ?_)
 refine wl_row hM6 0 (v:=numV N) rfl rfl rfl rfl rowWn rfl ?_
 simp only[nm0,nm1,nm2,nm3]
 refine wl_call hM6 (args:=#[numV N,.int .i64 255]) (v:=.int .u64 ((0:Nat):Int)) (fun W=>run_call_fn W (enters_of Tryz.func29 rfl rfl) rfl (by simp[Act.eval])) (bit255 N 0 hbit W6) rfl fun W7 hM7=>?_
 simp only[nm0,nm1,nm2,nm3]
 refine wl_pure (v:=.bool false) (fun W=>run_bin_of rfl rfl rfl (bin_eql_u0 _ _ W)) rfl ?_
 simp only[nm0,nm1,nm2,nm3]
 refine wl_pure (v:=.bool false) (fun _=>rfl) rfl ?_
 simp only[nm0,nm1,nm2,nm3]
 refine wpList_nil ?_
 (go_step;go_step;go_step;refine wp_region_lit ?_)
 refine wl_pure (v:=.pointer (some ⟨b3,3,none⟩)) (fun W=>run_index_of rfl rfl rfl (ix_Wn3 b3 W)) rfl ?_
 simp only[nm0,nm1,nm2,nm3]
 refine wl_cell hM7 0 (v:=.int .u64 (wd N 3:Int)) rfl rfl rfl rfl cellU rfl ?_
 simp only[nm0,nm1,nm2,nm3]
 refine wl_pure (v:=.int .u64 (((wd N 3)%9223372036854775808:Nat):Int)) (fun W=>run_bin_of rfl rfl rfl (andnot63 (wd N 3) (wd_lt _ _) _ _ W)) rfl ?_
 simp only[nm0,nm1,nm2,nm3]
 refine wl_pure (v:=.pointer (some ⟨b3,3,none⟩)) (fun W=>run_index_of rfl rfl rfl (ix_Wn3 b3 W)) rfl ?_
 simp only[nm0,nm1,nm2,nm3]
 refine wl_setat hM7 0 (cs':=(elR m)) rfl rfl rfl rfl (by show 3<4;decide) (by rw[em];exact num_low N) cellU rfl rfl rfl fun W8 hM8=>?_
 simp only[nm2,nm3] at hM8
 refine wpList_nil ?_
 (go_step;go_step;go_step;refine wp_region_lit ?_)
 refine wl_row hM8 0 (v:=numV m) rfl rfl rfl rfl rowWn rfl ?_
 simp only[nm0,nm1,nm2,nm3]
 refine wl_call hM8 (args:=#[numV m]) (v:=.string ⟨(byL m).toArray⟩) (fun W=>run_call_fn W (enters_of Tryz.func31 rfl rfl) rfl (by simp[Act.eval])) (bytes_any m W8) rfl fun W9 hM9=>?_
 simp only[nm0,nm1,nm2,nm3]
 refine wl_call hM9 (args:=#[.string ⟨(byL m).toArray⟩]) (v:=.tuple #[numV m,.int .i64 0]) (fun W=>run_call_fn W (enters_of Tryz.func30 rfl rfl) rfl (by simp[Act.eval])) (pof_in m hm W9) rfl fun W10 hM10=>?_
 simp only[nm0,nm1,nm2,nm3]
 refine wl_pure (v:=.tuple #[numV m,.int .i64 0]) (fun _=>rfl) rfl ?_
 simp only[nm0,nm1,nm2,nm3]
 refine wl_pure (v:=numV m) (fun _=>rfl) rfl ?_
 simp only[nm0,nm1,nm2,nm3]
 refine wl_pure (v:=.int .i64 0) (fun _=>rfl) rfl ?_
 simp only[nm0,nm1,nm2,nm3]
 refine wl_new hM10 (f:=fun b=>.pointer (some ⟨b,0,none⟩)) (ob:=.cells z4 36 (0,0)) (fun W=>run_alloc_of rfl (al_El W)) rfl fun b4 W11 hM11=>?_
 simp only[nm0,nm1,nm2,nm3]
 refine wl_set hM11 0 (cs:=(elR m)) rfl rfl rfl rfl rowEl rfl (one_el m) rfl rfl fun W12 hM12=>?_
 simp only[nm2,nm3] at hM12
 refine wl_setat hM12 2 (cs':=#[.int .i64 0]) rfl rfl rfl rfl (by show 0<1;decide) (rfl) cellErr rfl rfl rfl fun W13 hM13=>?_
 simp only[nm2,nm3] at hM13
 refine wpList_nil ?_
 (go_step;go_step;go_step;go_step;refine wp_region_lit ?_)
 refine wl_cell hM13 2 (v:=.int .i64 0) rfl rfl rfl rfl cellErr rfl ?_
 simp only[nm0,nm1,nm2,nm3]
 refine wl_pure (v:=.bool false) (fun W=>run_neint_of W rfl rfl rfl rfl) rfl ?_
 simp only[nm0,nm1,nm2,nm3]
 refine wpList_nil ?_
 (go_step;go_step;go_step;go_step;go_step;go_step;go_step;refine wp_region_lit ?_)
 refine wl_row hM13 0 (v:=numV m) rfl rfl rfl rfl rowEl rfl ?_
 simp only[nm0,nm1,nm2,nm3]
 refine wl_call hM13 (args:=#[numV m]) (v:=.tuple #[numV x,.bool true]) (fun W=>run_call_fn W (enters_of Tryz.func32 rfl rfl) rfl (by simp[Act.eval])) (KB.out W13) rfl fun W14 hM14=>?_
 simp only[nm0,nm1,nm2,nm3]
 refine wl_pure (v:=.tuple #[numV x,.bool true]) (fun _=>rfl) rfl ?_
 simp only[nm0,nm1,nm2,nm3]
 refine wl_pure (v:=numV x) (fun _=>rfl) rfl ?_
 simp only[nm0,nm1,nm2,nm3]
 refine wl_pure (v:=.bool true) (fun _=>rfl) rfl ?_
 simp only[nm0,nm1,nm2,nm3]
 refine wl_new hM14 (f:=fun b=>.pointer (some ⟨b,0,none⟩)) (ob:=.cells z4 36 (0,0)) (fun W=>run_alloc_of rfl (al_El W)) rfl fun b5 W15 hM15=>?_
 simp only[nm0,nm1,nm2,nm3]
 refine wl_set hM15 0 (cs:=(elR x)) rfl rfl rfl rfl rowEl rfl (one_el x) rfl rfl fun W16 hM16=>?_
 simp only[nm2,nm3] at hM16
 refine wl_pure (v:=.bool true) (fun _=>rfl) rfl ?_
 simp only[nm0,nm1,nm2,nm3]
 refine wpList_nil ?_
 (go_step;go_step;go_step;go_step;refine wp_region_lit ?_)
 refine wl_pure (v:=.bool true) (fun _=>rfl) rfl ?_
 simp only[nm0,nm1,nm2,nm3]
 refine wl_pure (v:=.bool false) (fun W=>run_not_of W rfl rfl rfl) rfl ?_
 simp only[nm0,nm1,nm2,nm3]
 refine wpList_nil ?_
 (go_step;go_step;go_step;go_step;go_step;go_step;go_step;refine wp_region_lit ?_)
 refine wl_row hM16 0 (v:=numV x) rfl rfl rfl rfl rowEl rfl ?_
 simp only[nm0,nm1,nm2,nm3]
 refine wl_row hM16 1 (v:=numV m) rfl rfl rfl rfl rowEl rfl ?_
 simp only[nm0,nm1,nm2,nm3]
 refine wl_call hM16 (args:=#[numV x,numV m]) (v:=.tuple #[pv4 a,.int .i64 0]) (fun W=>run_call_fn W (enters_of Tryz.func33 rfl rfl) rfl (by simp[Act.eval])) (KM.out W16) rfl fun W17 hM17=>?_
 simp only[nm0,nm1,nm2,nm3]
 refine wl_pure (v:=.tuple #[pv4 a,.int .i64 0]) (fun _=>rfl) rfl ?_
 simp only[nm0,nm1,nm2,nm3]
 refine wl_pure (v:=pv4 a) (fun _=>rfl) rfl ?_
 simp only[nm0,nm1,nm2,nm3]
 refine wl_pure (v:=.int .i64 0) (fun _=>rfl) rfl ?_
 simp only[nm0,nm1,nm2,nm3]
 refine wl_set hM17 4 (cs:=((pc4 a))) rfl rfl rfl rfl rowPt rfl (one_p4 _) rfl rfl fun W18 hM18=>?_
 simp only[nm2,nm3] at hM18
 refine wl_setat hM18 3 (cs':=#[.int .i64 0]) rfl rfl rfl rfl (by show 0<1;decide) (rfl) cellErr rfl rfl rfl fun W19 hM19=>?_
 simp only[nm2,nm3] at hM19
 refine wpList_nil ?_
 (go_step;go_step;go_step;go_step;refine wp_region_inw 6 HMIX.out (by decide) (by kernel_rfl) (by kernel_rfl) ?_)
 refine inw_pure (v:=.bool false) (fun _=>rfl) rfl rfl ?_;simp only[nm0,nm1,nm2,nm3]
 refine inw_pure (v:=.bool false) (fun _=>rfl) rfl rfl ?_;simp only[nm0,nm1,nm2,nm3]
 refine inw_skip rfl rfl ?_;simp only[nm0,nm1,nm2,nm3]
 refine inw_skip rfl rfl ?_;simp only[nm0,nm1,nm2,nm3]
 refine inw_skip rfl rfl ?_;simp only[nm0,nm1,nm2,nm3]
 refine inw_pure (v:=.bool false) (fun _=>rfl) rfl rfl ?_;simp only[nm0,nm1,nm2,nm3]
 refine inw_fin fun d os=>?_
 refine given_nil fun hap=>?_
 have hM20:=hM19.calls (below_regrown W19 d os)
 clear hap 
 generalize grow (redrawn W19 d) os=W20 at hM20 ⊢
 refine wpAny_done (by kernel_rfl) ?_ _
 (go_step;go_step;go_step;go_step;go_step;go_step;go_step;go_step;refine wp_region_lit ?_)
 refine wl_pure (v:=.bool false) (fun _=>rfl) rfl ?_
 simp only[nm0,nm1,nm2,nm3]
 refine wpList_nil ?_
 have hMd:=hM20.drew
 (go_step;go_step;go_step;go_step;go_step;go_step;go_step;refine wp_region_noPanic (wp_region_held_drew HMIX.out (S:=fun w1=>w1.heap[b1]?=some (.cells ((pc4 a)) 39 (0,0))∧w1.heap[b2]?=some (.cells #[.int .i64 0] 27 (0,0))) (⟨hMd.get 4 rfl,hMd.get 3 rfl⟩) fun hS=>?_))
 change wpAnyH _ _ _ _ _ 4 _ _ _
 generalize W20.drew=W21 at hMd hS ⊢
 have hM21:=hMd
 clear hMd
 refine hd_row 0 59 #[true,false,false,false] (by kernel_rfl) (v:=pv4 a) (cs:=((pc4 a))) (b:=b1) rfl rfl rfl rfl (fun W hW=>hW.1) rfl rowPt (by kernel_rfl) (by kernel_rfl) (by kernel_rfl) rfl hS ?_
 simp only[nm0,nm1,nm2,nm3]
 refine hd_cell 1 60 #[true,true,false,false] (by kernel_rfl) (v:=.int .i64 0) (cs:=#[.int .i64 0]) (b:=b2) rfl rfl rfl rfl (fun W hW=>hW.2) rfl cellErr (by kernel_rfl) (by kernel_rfl) (by kernel_rfl) rfl hS ?_
 simp only[nm0,nm1,nm2,nm3]
 refine hd_set (n:=2) #[true,true,true,false] (by kernel_rfl) (by kernel_rfl) rfl hM21 4 (cs:=((pc4 a))) rfl rfl rfl rfl rowPt rfl (one_p4 _) rfl rfl (fun W hW=>⟨hW.get 4 rfl,hW.get 3 rfl⟩) fun W22 hM22=>?_
 simp only[nm2,nm3] at hM22
 refine hd_setat (n:=3) #[true,true,true,true] (by kernel_rfl) (by kernel_rfl) rfl hM22 3 (cs':=#[.int .i64 0]) rfl rfl rfl rfl (by show 0<1;decide) (rfl) cellErr rfl rfl rfl (fun W hW=>⟨hW.get 4 rfl,hW.get 3 rfl⟩) fun W23 hM23=>?_
 simp only[nm2,nm3] at hM23
 refine wpAnyH_done (by kernel_rfl) ?_ _
 refine NoPanic.normal ?_
 (go_step;go_step;go_step;refine bodyPostD_one rfl (enters_of Tryz.func26 rfl rfl) ((dec1_any _ _ _ 3 4 _ _ 0 _ hM23 rfl rfl rfl).mono ?_))
 rintro E u w' ⟨rfl,rfl,hMF⟩
 rw[if_pos rfl] at hMF
 exact⟨rfl,rfl,_,results_arr2 Tryz.results10 rfl rfl (hMF.load 4 rfl rowPt) (load_cell (hMF.get 3 rfl) rfl cellErr),rfl,hMF.below⟩
set_option maxRecDepth 20000 in
set_option maxHeartbeats 8000000 in
theorem dec_yes1 (s:ByteArray) (hs:s.size=32) (N m x:Nat) (hN:leN s.data.toList=N) (em:m=N%(9223372036854775808*B64^3)) (hbit:bitN N 255=1) (hm:m<PN) (ex:x=rootN iV (sqR m)) (hok:okN iV (sqR m)=true) (h0:¬ x=0) (w:World):Calls Tryz.prog 10 #[.string s] w fun E w'=>E=.returned (.tuple #[pv4 ((neg4 (x,m,1,x*m%PN))),.int .i64 0])∧Below w.heap.size w w':=by
 have HMIX:=Lib.hid (show Tryz.prog.follows .mixedOrders=true by kernel_rfl)
 have KO:=Lib.hid (fun w=>of_any s w hs)
 rw[hN] at KO
 clear hN
 have hx:x<PN:=by rw[ex];exact rootN_below _
 have KB:=Lib.hid (fun w=>beside_any m w hm)
 rw[← ex,hok] at KB
 have hon:On (fz x,fz m):=by rw[ex];exact root_on m hok
 have oka:Ok4 (x,m,1,x*m%PN) ((fz x,fz m):Pt):=ok4_at x m _ hx hm hon rfl rfl
 have KM:=Lib.hid (fun w=>make_yes x m hx hm hon w)
 obtain⟨a,ea⟩:∃ a,a=((x,m,1,x*m%PN):N4):=⟨_,rfl⟩
 rw[← ea] at oka KM ⊢
 clear hon ex hok
 go_enter_defers Tryz.func10,Tryz.ntmps10
 have hM0:=Mem.start w
 (go_step;go_step;refine wp_region_lit ?_)
 refine wl_new hM0 (f:=fun b=>.pointer (some ⟨b,0,none⟩)) (ob:=.cells z16 39 (0,0)) (fun W=>run_alloc_of rfl (al_Pt W)) rfl fun b1 W1 hM1=>?_
 simp only[nm0,nm1,nm2,nm3]
 refine wl_new hM1 (f:=fun b=>.pointer (some ⟨b,0,none⟩)) (ob:=.cells #[.int .i64 0] 27 (0,0)) (fun W=>run_alloc_of rfl (al_Err W)) rfl fun b2 W2 hM2=>?_
 simp only[nm0,nm1,nm2,nm3]
 refine wpList_nil ?_
 (go_step;go_step;go_step;refine wp_region_lit ?_)
 refine wl_pure (v:=.func (.func 26) #[] #[.pointer (some ⟨b2,0,none⟩),.pointer (some ⟨b1,0,none⟩)]) (fun W=>run_makeFunc_of rfl (by simp[Instr.makeFunc,Act.eval])) rfl ?_
 simp only[nm0,nm1,nm2,nm3]
 refine wl_defer (d:={ target:=.fn (.func 26) #[.pointer (some ⟨b2,0,none⟩),.pointer (some ⟨b1,0,none⟩)],args:=#[] }) (fun W=>run_defer_of W rfl rfl) rfl rfl ?_
 dsimp only
 refine wpList_nil ?_
 (go_step;go_step;go_step;refine wp_region_lit ?_)
 refine wl_pure (v:=.string s) (fun _=>rfl) rfl ?_
 simp only[nm0,nm1,nm2,nm3]
 refine wl_call hM2 (args:=#[.string s]) (v:=.tuple #[numV N,.int .i64 0]) (fun W=>run_call_fn W (enters_of Tryz.func28 rfl rfl) rfl (by simp[Act.eval])) (KO.out W2) rfl fun W3 hM3=>?_
 simp only[nm0,nm1,nm2,nm3]
 refine wl_pure (v:=.tuple #[numV N,.int .i64 0]) (fun _=>rfl) rfl ?_
 simp only[nm0,nm1,nm2,nm3]
 refine wl_pure (v:=numV N) (fun _=>rfl) rfl ?_
 simp only[nm0,nm1,nm2,nm3]
 refine wl_pure (v:=.int .i64 0) (fun _=>rfl) rfl ?_
 simp only[nm0,nm1,nm2,nm3]
 refine wl_new hM3 (f:=fun b=>.pointer (some ⟨b,0,none⟩)) (ob:=.cells z4 24 (0,0)) (fun W=>run_alloc_of rfl (al_Wn W)) rfl fun b3 W4 hM4=>?_
 simp only[nm0,nm1,nm2,nm3]
 refine wl_set hM4 0 (cs:=(elR N)) rfl rfl rfl rfl rowWn rfl (one_el N) rfl rfl fun W5 hM5=>?_
 simp only[nm2,nm3] at hM5
 refine wl_setat hM5 1 (cs':=#[.int .i64 0]) rfl rfl rfl rfl (by show 0<1;decide) (rfl) cellErr rfl rfl rfl fun W6 hM6=>?_
 simp only[nm2,nm3] at hM6
 refine wpList_nil ?_
 (go_step;go_step;go_step;go_step;refine wp_region_lit ?_)
 refine wl_cell hM6 1 (v:=.int .i64 0) rfl rfl rfl rfl cellErr rfl ?_
 simp only[nm0,nm1,nm2,nm3]
 refine wl_pure (v:=.bool false) (fun W=>run_neint_of W rfl rfl rfl rfl) rfl ?_
 simp only[nm0,nm1,nm2,nm3]
 refine wpList_nil ?_
 (go_step;go_step;go_step;go_step;go_step;go_step;go_step;refine wp_region_lit ?_)
 refine wl_row hM6 0 (v:=numV N) rfl rfl rfl rfl rowWn rfl ?_
 simp only[nm0,nm1,nm2,nm3]
 refine wl_call hM6 (args:=#[numV N,.int .i64 255]) (v:=.int .u64 ((1:Nat):Int)) (fun W=>run_call_fn W (enters_of Tryz.func29 rfl rfl) rfl (by simp[Act.eval])) (bit255 N 1 hbit W6) rfl fun W7 hM7=>?_
 simp only[nm0,nm1,nm2,nm3]
 refine wl_pure (v:=.bool true) (fun W=>run_bin_of rfl rfl rfl (bin_eql_u1 _ _ W)) rfl ?_
 simp only[nm0,nm1,nm2,nm3]
 refine wl_pure (v:=.bool true) (fun _=>rfl) rfl ?_
 simp only[nm0,nm1,nm2,nm3]
 refine wpList_nil ?_
 (go_step;go_step;go_step;refine wp_region_lit ?_)
 refine wl_pure (v:=.pointer (some ⟨b3,3,none⟩)) (fun W=>run_index_of rfl rfl rfl (ix_Wn3 b3 W)) rfl ?_
 simp only[nm0,nm1,nm2,nm3]
 refine wl_cell hM7 0 (v:=.int .u64 (wd N 3:Int)) rfl rfl rfl rfl cellU rfl ?_
 simp only[nm0,nm1,nm2,nm3]
 refine wl_pure (v:=.int .u64 (((wd N 3)%9223372036854775808:Nat):Int)) (fun W=>run_bin_of rfl rfl rfl (andnot63 (wd N 3) (wd_lt _ _) _ _ W)) rfl ?_
 simp only[nm0,nm1,nm2,nm3]
 refine wl_pure (v:=.pointer (some ⟨b3,3,none⟩)) (fun W=>run_index_of rfl rfl rfl (ix_Wn3 b3 W)) rfl ?_
 simp only[nm0,nm1,nm2,nm3]
 refine wl_setat hM7 0 (cs':=(elR m)) rfl rfl rfl rfl (by show 3<4;decide) (by rw[em];exact num_low N) cellU rfl rfl rfl fun W8 hM8=>?_
 simp only[nm2,nm3] at hM8
 refine wpList_nil ?_
 (go_step;go_step;go_step;refine wp_region_lit ?_)
 refine wl_row hM8 0 (v:=numV m) rfl rfl rfl rfl rowWn rfl ?_
 simp only[nm0,nm1,nm2,nm3]
 refine wl_call hM8 (args:=#[numV m]) (v:=.string ⟨(byL m).toArray⟩) (fun W=>run_call_fn W (enters_of Tryz.func31 rfl rfl) rfl (by simp[Act.eval])) (bytes_any m W8) rfl fun W9 hM9=>?_
 simp only[nm0,nm1,nm2,nm3]
 refine wl_call hM9 (args:=#[.string ⟨(byL m).toArray⟩]) (v:=.tuple #[numV m,.int .i64 0]) (fun W=>run_call_fn W (enters_of Tryz.func30 rfl rfl) rfl (by simp[Act.eval])) (pof_in m hm W9) rfl fun W10 hM10=>?_
 simp only[nm0,nm1,nm2,nm3]
 refine wl_pure (v:=.tuple #[numV m,.int .i64 0]) (fun _=>rfl) rfl ?_
 simp only[nm0,nm1,nm2,nm3]
 refine wl_pure (v:=numV m) (fun _=>rfl) rfl ?_
 simp only[nm0,nm1,nm2,nm3]
 refine wl_pure (v:=.int .i64 0) (fun _=>rfl) rfl ?_
 simp only[nm0,nm1,nm2,nm3]
 refine wl_new hM10 (f:=fun b=>.pointer (some ⟨b,0,none⟩)) (ob:=.cells z4 36 (0,0)) (fun W=>run_alloc_of rfl (al_El W)) rfl fun b4 W11 hM11=>?_
 simp only[nm0,nm1,nm2,nm3]
 refine wl_set hM11 0 (cs:=(elR m)) rfl rfl rfl rfl rowEl rfl (one_el m) rfl rfl fun W12 hM12=>?_
 simp only[nm2,nm3] at hM12
 refine wl_setat hM12 2 (cs':=#[.int .i64 0]) rfl rfl rfl rfl (by show 0<1;decide) (rfl) cellErr rfl rfl rfl fun W13 hM13=>?_
 simp only[nm2,nm3] at hM13
 refine wpList_nil ?_
 (go_step;go_step;go_step;go_step;refine wp_region_lit ?_)
 refine wl_cell hM13 2 (v:=.int .i64 0) rfl rfl rfl rfl cellErr rfl ?_
 simp only[nm0,nm1,nm2,nm3]
 refine wl_pure (v:=.bool false) (fun W=>run_neint_of W rfl rfl rfl rfl) rfl ?_
 simp only[nm0,nm1,nm2,nm3]
 refine wpList_nil ?_
 (go_step;go_step;go_step;go_step;go_step;go_step;go_step;refine wp_region_lit ?_)
 refine wl_row hM13 0 (v:=numV m) rfl rfl rfl rfl rowEl rfl ?_
 simp only[nm0,nm1,nm2,nm3]
 refine wl_call hM13 (args:=#[numV m]) (v:=.tuple #[numV x,.bool true]) (fun W=>run_call_fn W (enters_of Tryz.func32 rfl rfl) rfl (by simp[Act.eval])) (KB.out W13) rfl fun W14 hM14=>?_
 simp only[nm0,nm1,nm2,nm3]
 refine wl_pure (v:=.tuple #[numV x,.bool true]) (fun _=>rfl) rfl ?_
 simp only[nm0,nm1,nm2,nm3]
 refine wl_pure (v:=numV x) (fun _=>rfl) rfl ?_
 simp only[nm0,nm1,nm2,nm3]
 refine wl_pure (v:=.bool true) (fun _=>rfl) rfl ?_
 simp only[nm0,nm1,nm2,nm3]
 refine wl_new hM14 (f:=fun b=>.pointer (some ⟨b,0,none⟩)) (ob:=.cells z4 36 (0,0)) (fun W=>run_alloc_of rfl (al_El W)) rfl fun b5 W15 hM15=>?_
 simp only[nm0,nm1,nm2,nm3]
 refine wl_set hM15 0 (cs:=(elR x)) rfl rfl rfl rfl rowEl rfl (one_el x) rfl rfl fun W16 hM16=>?_
 simp only[nm2,nm3] at hM16
 refine wl_pure (v:=.bool true) (fun _=>rfl) rfl ?_
 simp only[nm0,nm1,nm2,nm3]
 refine wpList_nil ?_
 (go_step;go_step;go_step;go_step;refine wp_region_lit ?_)
 refine wl_pure (v:=.bool true) (fun _=>rfl) rfl ?_
 simp only[nm0,nm1,nm2,nm3]
 refine wl_pure (v:=.bool false) (fun W=>run_not_of W rfl rfl rfl) rfl ?_
 simp only[nm0,nm1,nm2,nm3]
 refine wpList_nil ?_
 (go_step;go_step;go_step;go_step;go_step;go_step;go_step;refine wp_region_lit ?_)
 refine wl_row hM16 0 (v:=numV x) rfl rfl rfl rfl rowEl rfl ?_
 simp only[nm0,nm1,nm2,nm3]
 refine wl_row hM16 1 (v:=numV m) rfl rfl rfl rfl rowEl rfl ?_
 simp only[nm0,nm1,nm2,nm3]
 refine wl_call hM16 (args:=#[numV x,numV m]) (v:=.tuple #[pv4 a,.int .i64 0]) (fun W=>run_call_fn W (enters_of Tryz.func33 rfl rfl) rfl (by simp[Act.eval])) (KM.out W16) rfl fun W17 hM17=>?_
 simp only[nm0,nm1,nm2,nm3]
 refine wl_pure (v:=.tuple #[pv4 a,.int .i64 0]) (fun _=>rfl) rfl ?_
 simp only[nm0,nm1,nm2,nm3]
 refine wl_pure (v:=pv4 a) (fun _=>rfl) rfl ?_
 simp only[nm0,nm1,nm2,nm3]
 refine wl_pure (v:=.int .i64 0) (fun _=>rfl) rfl ?_
 simp only[nm0,nm1,nm2,nm3]
 refine wl_set hM17 4 (cs:=((pc4 a))) rfl rfl rfl rfl rowPt rfl (one_p4 _) rfl rfl fun W18 hM18=>?_
 simp only[nm2,nm3] at hM18
 refine wl_setat hM18 3 (cs':=#[.int .i64 0]) rfl rfl rfl rfl (by show 0<1;decide) (rfl) cellErr rfl rfl rfl fun W19 hM19=>?_
 simp only[nm2,nm3] at hM19
 refine wpList_nil ?_
 (go_step;go_step;go_step;go_step;refine wp_region_inw 6 HMIX.out (by decide) (by kernel_rfl) (by kernel_rfl) ?_)
 refine inw_pure (v:=.bool true) (fun _=>rfl) rfl rfl ?_;simp only[nm0,nm1,nm2,nm3]
 refine inw_pure (v:=.bool true) (fun _=>rfl) rfl rfl ?_;simp only[nm0,nm1,nm2,nm3]
 refine inw_row hM19 0 (v:=numV x) rfl rfl rfl rfl rowEl rfl rfl ?_;simp only[nm0,nm1,nm2,nm3]
 refine inw_callV (args:=#[.int .u64 0]) (v:=numV 0) (fun W=>run_call_fn W (enters_of Tryz.func34 rfl rfl) rfl (by simp[Act.eval])) (fun W _=>psmall_any_ 0 (by decide) W) rfl rfl ?_;simp only[nm0,nm1,nm2,nm3]
 refine inw_pure (v:=.bool false) (fun W=>run_bin_of rfl rfl rfl (by rw[show false=decide (x=0) from (decide_eq_false h0).symm];exact bin_eql_el x 0 _ _ W (of_PN hx) (of_PN PN_pos))) rfl rfl ?_;simp only[nm0,nm1,nm2,nm3]
 refine inw_pure (v:=.bool false) (fun _=>rfl) rfl rfl ?_;simp only[nm0,nm1,nm2,nm3]
 refine inw_fin fun d os=>?_
 refine given_nil fun hap=>?_
 have hM20:=hM19.calls (below_regrown W19 d os)
 clear hap 
 generalize grow (redrawn W19 d) os=W20 at hM20 ⊢
 refine wpAny_done (by kernel_rfl) ?_ _
 (go_step;go_step;go_step;go_step;go_step;go_step;go_step;go_step;refine wp_region_lit ?_)
 refine wl_pure (v:=.bool true) (fun _=>rfl) rfl ?_
 simp only[nm0,nm1,nm2,nm3]
 refine wpList_nil ?_
 (go_step;go_step;go_step;refine wp_region_lit ?_)
 refine wl_row hM20 4 (v:=pv4 a) rfl rfl rfl rfl rowPt rfl ?_
 simp only[nm0,nm1,nm2,nm3]
 refine wl_call hM20 (args:=#[pv4 a]) (v:=pv4 ((neg4 a))) (fun W=>run_call_fn W (enters_of Tryz.func35 rfl rfl) rfl (by simp[Act.eval])) (negp4 oka W20) rfl fun W21 hM21=>?_
 simp only[nm0,nm1,nm2,nm3]
 refine wl_set hM21 4 (cs:=((pc4 ((neg4 a))))) rfl rfl rfl rfl rowPt rfl (one_p4 _) rfl rfl fun W22 hM22=>?_
 simp only[nm2,nm3] at hM22
 refine wpList_nil ?_
 have hMd:=hM22.drew
 (go_step;go_step;go_step;refine wp_region_noPanic (wp_region_held_drew HMIX.out (S:=fun w1=>w1.heap[b1]?=some (.cells ((pc4 ((neg4 a)))) 39 (0,0))∧w1.heap[b2]?=some (.cells #[.int .i64 0] 27 (0,0))) (⟨hMd.get 4 rfl,hMd.get 3 rfl⟩) fun hS=>?_))
 change wpAnyH _ _ _ _ _ 4 _ _ _
 generalize W22.drew=W23 at hMd hS ⊢
 have hM23:=hMd
 clear hMd
 refine hd_row 0 59 #[true,false,false,false] (by kernel_rfl) (v:=pv4 ((neg4 a))) (cs:=((pc4 ((neg4 a))))) (b:=b1) rfl rfl rfl rfl (fun W hW=>hW.1) rfl rowPt (by kernel_rfl) (by kernel_rfl) (by kernel_rfl) rfl hS ?_
 simp only[nm0,nm1,nm2,nm3]
 refine hd_cell 1 60 #[true,true,false,false] (by kernel_rfl) (v:=.int .i64 0) (cs:=#[.int .i64 0]) (b:=b2) rfl rfl rfl rfl (fun W hW=>hW.2) rfl cellErr (by kernel_rfl) (by kernel_rfl) (by kernel_rfl) rfl hS ?_
 simp only[nm0,nm1,nm2,nm3]
 refine hd_set (n:=2) #[true,true,true,false] (by kernel_rfl) (by kernel_rfl) rfl hM23 4 (cs:=((pc4 ((neg4 a))))) rfl rfl rfl rfl rowPt rfl (one_p4 _) rfl rfl (fun W hW=>⟨hW.get 4 rfl,hW.get 3 rfl⟩) fun W24 hM24=>?_
 simp only[nm2,nm3] at hM24
 refine hd_setat (n:=3) #[true,true,true,true] (by kernel_rfl) (by kernel_rfl) rfl hM24 3 (cs':=#[.int .i64 0]) rfl rfl rfl rfl (by show 0<1;decide) (rfl) cellErr rfl rfl rfl (fun W hW=>⟨hW.get 4 rfl,hW.get 3 rfl⟩) fun W25 hM25=>?_
 simp only[nm2,nm3] at hM25
 refine wpAnyH_done (by kernel_rfl) ?_ _
 refine NoPanic.normal ?_
 (go_step;go_step;go_step;refine bodyPostD_one rfl (enters_of Tryz.func26 rfl rfl) ((dec1_any _ _ _ 3 4 _ _ 0 _ hM25 rfl rfl rfl).mono ?_))
 rintro E u w' ⟨rfl,rfl,hMF⟩
 rw[if_pos rfl] at hMF
 exact⟨rfl,rfl,_,results_arr2 Tryz.results10 rfl rfl (hMF.load 4 rfl rowPt) (load_cell (hMF.get 3 rfl) rfl cellErr),rfl,hMF.below⟩
theorem dec_parts (N:Nat):∃ (y x:Nat) (ok b:Bool),y=N%(9223372036854775808*B64^3)∧y≤N∧x=rootN iV (sqR y)∧okN iV (sqR y)=ok∧decB N=b∧decE N=(if y<PN then (if ok=true then (if b=true∧x=0 then 22 else 0) else 22) else 2)∧decX N=(if b=true then (0+PN-x)%PN else x)∧decP N=(if decE N=0 then (fz (decX N),fz y) else zeroE) :=
 ⟨decY N,rootN iV (sqR (decY N)),okN iV (sqR (decY N)),decB N,rfl,Nat.mod_le _ _,rfl,rfl,rfl,by unfold decE;exact Eq.refl _,by unfold decX;exact Eq.refl _,by unfold decP;exact Eq.refl _⟩
/-- What Decode answers of 32 bytes. -/
theorem decode_any (s:ByteArray) (hs:s.size=32):∃ a:N4,Ok4 a (decP (leN s.data.toList))∧∀ w,Calls Tryz.prog 10 #[.string s] w fun E w'=>E=.returned (.tuple #[pv4 a,.int .i64 (decE (leN s.data.toList):Int)])∧Below w.heap.size w w':=by
 have hNB:=leN_B s hs
 obtain⟨N,hN⟩:∃ N,leN s.data.toList=N:=⟨_,rfl⟩
 rw[hN] at hNB ⊢
 obtain⟨b0,b1⟩:=decB_bit N
 obtain⟨y,x,ok,b,ey,hyN,ex,hok,hb,hE,hX,hP⟩:=dec_parts N
 have hmB:y<B64^4:=Nat.lt_of_le_of_lt hyN hNB
 have hxl:x<PN:=by rw[ex];exact rootN_below _
 by_cases hm:y<PN
 ·rw[if_pos hm] at hE
  cases ok
  ·rw[if_neg (by decide)] at hE
   rw[hE,if_neg (by decide)] at hP
   rw[hE,hP]
   exact⟨zero4,ok4_zero,fun w=>dec_no s hs N y _ x hN ey rfl hm ex hok w⟩
  ·rw[if_pos rfl] at hE
   have hon:On (fz x,fz y):=by rw[ex];exact root_on y hok
   have hat:Ok4 (x,y,1,x*y%PN) (fz x,fz y):=ok4_at x y _ hxl hm hon rfl rfl
   cases b
   ·rw[if_neg (by simp)] at hE
    rw[if_neg (by decide)] at hX
    rw[hE,if_pos rfl,hX] at hP
    rw[hE,hP]
    exact⟨_,hat,fun w=>dec_yes0 s hs N y x hN ey (b0 hb) hm ex hok w⟩
   ·by_cases h0:x=0
    ·rw[if_pos ⟨rfl,h0⟩] at hE
     rw[hE,if_neg (by decide)] at hP
     rw[hE,hP]
     exact⟨zero4,ok4_zero,fun w=>dec_bad s hs N y x hN ey (b1 hb) hm ex hok h0 w⟩
    ·rw[if_neg (fun h=>h0 h.2)] at hE
     rw[if_pos rfl] at hX
     rw[hE,if_pos rfl,hX,fz_negm x hxl] at hP
     have hn:Ok4 (neg4 (x,y,1,x*y%PN)) (-fz x,fz y):=ok4_neg hat
     rw[hE,hP]
     exact⟨_,hn,fun w=>dec_yes1 s hs N y x hN ey (b1 hb) hm ex hok h0 w⟩
 ·rw[if_neg hm] at hE
  rw[hE,if_neg (by decide)] at hP
  rw[hE,hP]
  exact⟨zero4,ok4_zero,fun w=>dec_range s hs N y _ hN ey hmB rfl hm w⟩
end Go.Proofs.YtnaldciakclccaaGreat
