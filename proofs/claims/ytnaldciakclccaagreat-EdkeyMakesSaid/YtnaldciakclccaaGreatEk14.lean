/- The reference's points (layer 20): its functions' contracts. The reference's Is, Base and Times; the curve's Base, and points that were never made (layer 20): their contracts. The reference's Times (layer 20): its contract. -/
import Derived.LoopN
import Derived.Deep.LoopGhost
import Derived.Test.YtnaldciakclccaaGreatEk13
import Derived.Test.YtnaldciakclccaaGreatEk01
namespace Go.Proofs.YtnaldciakclccaaGreat
set_option maxRecDepth 20000
set_option linter.unusedSimpArgs false
set_option linter.unusedVariables false
open Go.RowKit Go.Sort
theorem amod (a b n:Nat):(a%n+b%n)%n=(a+b)%n:=(Nat.add_mod a b n).symm
theorem bX_lt:bX<PN:=base_is.2.2.2.1
theorem bY_lt:bY<PN:=base_is.2.2.2.2
theorem IV_pm (a c:Nat) (h:pm PN 256 P2 a 1%PN=c):IV a=c:=pow_is a P2 c p2_lt h
theorem rD_num:(0+PN-121665)%PN*IV 121666%PN=dN:=by
 rw[IV_pm 121666 37095705934669439343138083508754565189542113879843219016388785533085940283556 (by decide +kernel)]
 decide +kernel
set_option maxRecDepth 20000 in
set_option maxHeartbeats 8000000 in
theorem rD_any  (w:World):Calls Tryz.prog 66 #[] w fun E w'=>E=.returned (numV dN)∧Below w.heap.size w w':=by
 have HMIX:=Lib.hid (show Tryz.prog.follows .mixedOrders=true by kernel_rfl)
 go_enter Tryz.func66,Tryz.ntmps66
 have hM0:=Mem.start w
 (go_step;go_step;refine wp_region_lit ?_)
 refine wl_new hM0 (f:=fun b=>.pointer (some ⟨b,0,none⟩)) (ob:=.cells z4 23 (0,0)) (fun W=>run_alloc_of rfl (al_Nu W)) rfl fun b1 W1 hM1=>?_
 simp only[nm0,nm1,nm2,nm3]
 refine wpList_nil ?_
 (go_step;go_step;go_step;refine wp_region_lit ?_)
 refine wl_call hM1 (args:=#[.int .u64 0]) (v:=numV 0) (fun W=>run_call_fn W (enters_of Tryz.func68 rfl rfl) rfl (by simp[Act.eval])) (rsmall' 0 (by decide) W1) rfl fun W2 hM2=>?_
 simp only[nm0,nm1,nm2,nm3]
 refine wl_call hM2 (args:=#[.int .u64 121665]) (v:=numV 121665) (fun W=>run_call_fn W (enters_of Tryz.func68 rfl rfl) rfl (by simp[Act.eval])) (rsmall' 121665 (by decide) W2) rfl fun W3 hM3=>?_
 simp only[nm0,nm1,nm2,nm3]
 obtain⟨v1,ev1⟩:∃ x,x=(0+PN-121665)%PN:=⟨_,rfl⟩
 have pv1:v1<PN:=by rw[ev1];exact Nat.mod_lt _ PN_pos
 have Kv1:=fun W=>rsub' 0 121665 W (by decide +kernel) (by decide +kernel)
 simp only[← ev1] at Kv1
 refine wl_call hM3 (args:=#[numV 0,numV 121665]) (v:=numV v1) (fun W=>run_call_fn W (enters_of Tryz.func114 rfl rfl) rfl (by simp[Act.eval])) (Kv1 W3) rfl fun W4 hM4=>?_
 simp only[nm0,nm1,nm2,nm3]
 refine wl_call hM4 (args:=#[.int .u64 121666]) (v:=numV 121666) (fun W=>run_call_fn W (enters_of Tryz.func68 rfl rfl) rfl (by simp[Act.eval])) (rsmall' 121666 (by decide) W4) rfl fun W5 hM5=>?_
 simp only[nm0,nm1,nm2,nm3]
 obtain⟨v2,ev2⟩:∃ x,x=IV 121666:=⟨_,rfl⟩
 have pv2:v2<PN:=by rw[ev2];exact IV_lt _
 have Kv2:=fun W=>rinv' 121666 W (by decide +kernel)
 simp only[← ev2] at Kv2
 refine wl_call hM5 (args:=#[numV 121666]) (v:=numV v2) (fun W=>run_call_fn W (enters_of Tryz.func69 rfl rfl) rfl (by simp[Act.eval])) (Kv2 W5) rfl fun W6 hM6=>?_
 simp only[nm0,nm1,nm2,nm3]
 obtain⟨v3,ev3⟩:∃ x,x=v1*v2%PN:=⟨_,rfl⟩
 have pv3:v3<PN:=by rw[ev3];exact Nat.mod_lt _ PN_pos
 have Kv3:=fun W=>rmul' v1 v2 W pv1 pv2
 simp only[← ev3] at Kv3
 refine wl_call hM6 (args:=#[numV v1,numV v2]) (v:=numV v3) (fun W=>run_call_fn W (enters_of Tryz.func67 rfl rfl) rfl (by simp[Act.eval])) (Kv3 W6) rfl fun W7 hM7=>?_
 simp only[nm0,nm1,nm2,nm3]
 refine wl_set hM7 0 (cs:=(elR v3)) rfl rfl rfl rfl rowNu rfl (one_el v3) rfl rfl fun W8 hM8=>?_
 simp only[nm2,nm3] at hM8
 refine wpList_nil ?_
 (go_step;go_step;go_step;refine bodyPost_ret (v:=numV v3) (results_arr Tryz.results66 rfl (hM8.load 0 rfl rowNu)) rfl ⟨?_,hM8.below⟩)
 exact by rw[ev3,ev2,ev1,rD_num]
set_option maxRecDepth 20000 in
set_option maxHeartbeats 8000000 in
theorem rzero_any  (w:World):Calls Tryz.prog 112 #[] w fun E w'=>E=.returned (rpV 0 1 1)∧Below w.heap.size w w':=by
 have HMIX:=Lib.hid (show Tryz.prog.follows .mixedOrders=true by kernel_rfl)
 go_enter Tryz.func112,Tryz.ntmps112
 have hM0:=Mem.start w
 (go_step;go_step;refine wp_region_lit ?_)
 refine wl_new hM0 (f:=fun b=>.pointer (some ⟨b,0,none⟩)) (ob:=.cells z12 55 (0,0)) (fun W=>run_alloc_of rfl (al_Rp W)) rfl fun b1 W1 hM1=>?_
 simp only[nm0,nm1,nm2,nm3]
 refine wpList_nil ?_
 (go_step;go_step;go_step;refine wp_region_lit ?_)
 refine wl_call hM1 (args:=#[.int .u64 1]) (v:=numV 1) (fun W=>run_call_fn W (enters_of Tryz.func68 rfl rfl) rfl (by simp[Act.eval])) (rsmall' 1 (by decide) W1) rfl fun W2 hM2=>?_
 simp only[nm0,nm1,nm2,nm3]
 refine wl_call hM2 (args:=#[.int .u64 1]) (v:=numV 1) (fun W=>run_call_fn W (enters_of Tryz.func68 rfl rfl) rfl (by simp[Act.eval])) (rsmall' 1 (by decide) W2) rfl fun W3 hM3=>?_
 simp only[nm0,nm1,nm2,nm3]
 refine wl_pure (v:=rpV 0 1 1) (fun W=>run_build_of rfl (by simp[Act.eval]) (bdR0 1 1 W)) rfl ?_
 simp only[nm0,nm1,nm2,nm3]
 refine wl_set hM3 0 (cs:=((rpL 0 1 1).toArray)) rfl rfl rfl rfl rowRp rfl (one_rp 0 1 1) rfl rfl fun W4 hM4=>?_
 simp only[nm2,nm3] at hM4
 refine wpList_nil ?_
 (go_step;go_step;go_step;refine bodyPost_ret (v:=rpV 0 1 1) (results_arr Tryz.results112 rfl (hM4.load 0 rfl rowRp)) rfl ⟨?_,hM4.below⟩)
 exact rfl
set_option maxRecDepth 20000 in
set_option maxHeartbeats 8000000 in
theorem rmake_any (X Y:Nat) (w:World):Calls Tryz.prog 72 #[numV X,numV Y] w fun E w'=>E=.returned (rpV X Y 1)∧Below w.heap.size w w':=by
 have HMIX:=Lib.hid (show Tryz.prog.follows .mixedOrders=true by kernel_rfl)
 go_enter Tryz.func72,Tryz.ntmps72
 have hM0:=Mem.start w
 (go_step;go_step;refine wp_region_lit ?_)
 refine wl_new hM0 (f:=fun b=>.pointer (some ⟨b,0,none⟩)) (ob:=.cells (elR X) 23 (0,0)) (fun W=>run_box_of rfl rfl (bx_Nu X W)) rfl fun b1 W1 hM1=>?_
 simp only[nm0,nm1,nm2,nm3]
 refine wl_new hM1 (f:=fun b=>.pointer (some ⟨b,0,none⟩)) (ob:=.cells (elR Y) 23 (0,0)) (fun W=>run_box_of rfl rfl (bx_Nu Y W)) rfl fun b2 W2 hM2=>?_
 simp only[nm0,nm1,nm2,nm3]
 refine wl_new hM2 (f:=fun b=>.pointer (some ⟨b,0,none⟩)) (ob:=.cells z12 55 (0,0)) (fun W=>run_alloc_of rfl (al_Rp W)) rfl fun b3 W3 hM3=>?_
 simp only[nm0,nm1,nm2,nm3]
 refine wpList_nil ?_
 (go_step;go_step;go_step;refine wp_region_inw 4 HMIX.out (by decide) (by kernel_rfl) (by kernel_rfl) ?_)
 refine inw_row hM3 2 (v:=numV X) rfl rfl rfl rfl rowNu rfl rfl ?_;simp only[nm0,nm1,nm2,nm3]
 refine inw_row hM3 1 (v:=numV Y) rfl rfl rfl rfl rowNu rfl rfl ?_;simp only[nm0,nm1,nm2,nm3]
 refine inw_callV (args:=#[.int .u64 1]) (v:=numV 1) (fun W=>run_call_fn W (enters_of Tryz.func68 rfl rfl) rfl (by simp[Act.eval])) (fun W _=>rsmall' 1 (by decide) W) rfl rfl ?_;simp only[nm0,nm1,nm2,nm3]
 refine inw_pure (v:=rpV X Y 1) (fun W=>run_build_of rfl (by simp[Act.eval]) (bdR X Y 1 W)) rfl rfl ?_;simp only[nm0,nm1,nm2,nm3]
 refine inw_fin fun d os=>?_
 refine given_nil fun hap=>?_
 have hM4:=hM3.calls (below_regrown W3 d os)
 clear hap 
 generalize grow (redrawn W3 d) os=W4 at hM4 ⊢
 change wpAny _ _ _ _ 1 _ _ _
 refine any_set (n:=4) (by kernel_rfl) rfl hM4 0 (cs:=((rpL X Y 1).toArray)) rfl rfl rfl rfl rowRp rfl (one_rp X Y 1) rfl rfl fun W5 hM5=>?_
 simp only[nm2,nm3] at hM5
 refine wpAny_done (by kernel_rfl) ?_ _
 (go_step;go_step;go_step;refine bodyPost_ret (v:=rpV X Y 1) (results_arr Tryz.results72 rfl (hM5.load 0 rfl rowRp)) rfl ⟨?_,hM5.below⟩)
 exact rfl
set_option maxRecDepth 20000 in
set_option maxHeartbeats 8000000 in
theorem rxy_any (X Y Z:Nat) (hX:X<PN) (hY:Y<PN) (hZ:Z<PN) (w:World):Calls Tryz.prog 64 #[rpV X Y Z] w fun E w'=>E=.returned (.tuple #[numV (X*IV Z%PN),numV (Y*IV Z%PN)])∧Below w.heap.size w w':=by
 have HMIX:=Lib.hid (show Tryz.prog.follows .mixedOrders=true by kernel_rfl)
 go_enter Tryz.func64,Tryz.ntmps64
 have hM0:=Mem.start w
 (go_step;go_step;refine wp_region_lit ?_)
 refine wl_new hM0 (f:=fun b=>.pointer (some ⟨b,0,none⟩)) (ob:=.cells ((rpL X Y Z).toArray) 55 (0,0)) (fun W=>run_box_of rfl rfl (bx_Rp X Y Z W)) rfl fun b1 W1 hM1=>?_
 simp only[nm0,nm1,nm2,nm3]
 refine wl_new hM1 (f:=fun b=>.pointer (some ⟨b,0,none⟩)) (ob:=.cells z4 23 (0,0)) (fun W=>run_alloc_of rfl (al_Nu W)) rfl fun b2 W2 hM2=>?_
 simp only[nm0,nm1,nm2,nm3]
 refine wl_new hM2 (f:=fun b=>.pointer (some ⟨b,0,none⟩)) (ob:=.cells z4 23 (0,0)) (fun W=>run_alloc_of rfl (al_Nu W)) rfl fun b3 W3 hM3=>?_
 simp only[nm0,nm1,nm2,nm3]
 refine wpList_nil ?_
 (go_step;go_step;go_step;refine wp_region_lit ?_)
 refine wl_pure (v:=.pointer (some ⟨b1,8,none⟩)) (fun W=>run_field_of rfl rfl (fa_R2 b1 W)) rfl ?_
 simp only[nm0,nm1,nm2,nm3]
 refine wl_part hM3 2 (v:=numV Z) (sub:=elR Z) rfl rfl rfl rfl rfl rowNu rfl ?_
 simp only[nm0,nm1,nm2,nm3]
 obtain⟨v1,ev1⟩:∃ x,x=IV Z:=⟨_,rfl⟩
 have pv1:v1<PN:=by rw[ev1];exact IV_lt _
 have Kv1:=fun W=>rinv' Z W hZ
 simp only[← ev1] at Kv1
 refine wl_call hM3 (args:=#[numV Z]) (v:=numV v1) (fun W=>run_call_fn W (enters_of Tryz.func69 rfl rfl) rfl (by simp[Act.eval])) (Kv1 W3) rfl fun W4 hM4=>?_
 simp only[nm0,nm1,nm2,nm3]
 refine wl_new hM4 (f:=fun b=>.pointer (some ⟨b,0,none⟩)) (ob:=.cells z4 23 (0,0)) (fun W=>run_alloc_of rfl (al_Nu W)) rfl fun b4 W5 hM5=>?_
 simp only[nm0,nm1,nm2,nm3]
 refine wl_set hM5 0 (cs:=(elR v1)) rfl rfl rfl rfl rowNu rfl (one_el v1) rfl rfl fun W6 hM6=>?_
 simp only[nm2,nm3] at hM6
 refine wpList_nil ?_
 (go_step;go_step;go_step;refine wp_region_inw 8 HMIX.out (by decide) (by kernel_rfl) (by kernel_rfl) ?_)
 refine inw_pure (v:=.pointer (some ⟨b1,0,none⟩)) (fun W=>run_field_of rfl rfl (fa_R0 b1 W)) rfl rfl ?_;simp only[nm0,nm1,nm2,nm3]
 refine inw_part hM6 3 (v:=numV X) (sub:=elR X) rfl rfl rfl rfl rfl rowNu rfl rfl ?_;simp only[nm0,nm1,nm2,nm3]
 refine inw_row hM6 0 (v:=numV v1) rfl rfl rfl rfl rowNu rfl rfl ?_;simp only[nm0,nm1,nm2,nm3]
 obtain⟨v2,ev2⟩:∃ x,x=X*v1%PN:=⟨_,rfl⟩
 have pv2:v2<PN:=by rw[ev2];exact Nat.mod_lt _ PN_pos
 have Kv2:=fun W=>rmul' X v1 W hX pv1
 simp only[← ev2] at Kv2
 refine inw_callV (args:=#[numV X,numV v1]) (v:=numV v2) (fun W=>run_call_fn W (enters_of Tryz.func67 rfl rfl) rfl (by simp[Act.eval])) (fun W _=>Kv2 W) rfl rfl ?_;simp only[nm0,nm1,nm2,nm3]
 refine inw_pure (v:=.pointer (some ⟨b1,4,none⟩)) (fun W=>run_field_of rfl rfl (fa_R1 b1 W)) rfl rfl ?_;simp only[nm0,nm1,nm2,nm3]
 refine inw_part hM6 3 (v:=numV Y) (sub:=elR Y) rfl rfl rfl rfl rfl rowNu rfl rfl ?_;simp only[nm0,nm1,nm2,nm3]
 refine inw_row hM6 0 (v:=numV v1) rfl rfl rfl rfl rowNu rfl rfl ?_;simp only[nm0,nm1,nm2,nm3]
 obtain⟨v3,ev3⟩:∃ x,x=Y*v1%PN:=⟨_,rfl⟩
 have pv3:v3<PN:=by rw[ev3];exact Nat.mod_lt _ PN_pos
 have Kv3:=fun W=>rmul' Y v1 W hY pv1
 simp only[← ev3] at Kv3
 refine inw_callV (args:=#[numV Y,numV v1]) (v:=numV v3) (fun W=>run_call_fn W (enters_of Tryz.func67 rfl rfl) rfl (by simp[Act.eval])) (fun W _=>Kv3 W) rfl rfl ?_;simp only[nm0,nm1,nm2,nm3]
 refine inw_fin fun d os=>?_
 refine given_nil fun hap=>?_
 have hM7:=hM6.calls (below_regrown W6 d os)
 clear hap 
 generalize grow (redrawn W6 d) os=W7 at hM7 ⊢
 change wpAny _ _ _ _ 2 _ _ _
 refine any_set (n:=8) (by kernel_rfl) rfl hM7 2 (cs:=(elR v2)) rfl rfl rfl rfl rowNu rfl (one_el v2) rfl rfl fun W8 hM8=>?_
 simp only[nm2,nm3] at hM8
 refine any_set (n:=9) (by kernel_rfl) rfl hM8 1 (cs:=(elR v3)) rfl rfl rfl rfl rowNu rfl (one_el v3) rfl rfl fun W9 hM9=>?_
 simp only[nm2,nm3] at hM9
 refine wpAny_done (by kernel_rfl) ?_ _
 (go_step;go_step;go_step;refine bodyPost_ret (v:=.tuple #[numV v2,numV v3]) (results_arr2 Tryz.results64 rfl rfl (hM9.load 2 rfl rowNu) (hM9.load 1 rfl rowNu)) rfl ⟨?_,hM9.below⟩)
 exact by rw[ev3,ev2,ev1]
/-- x x of the points with that y. -/
def sqR (Y:Nat):Nat:=(Y*Y%PN+PN-1)%PN*IV ((dN*(Y*Y%PN)%PN+1)%PN)%PN
theorem sqR_lt (Y:Nat):sqR Y<PN:=Nat.mod_lt _ PN_pos
set_option maxRecDepth 20000 in
set_option maxHeartbeats 8000000 in
theorem rsquare_any (Y:Nat) (w:World) (hY:Y<PN):Calls Tryz.prog 71 #[numV Y] w fun E w'=>E=.returned (numV (sqR Y))∧Below w.heap.size w w':=by
 have HMIX:=Lib.hid (show Tryz.prog.follows .mixedOrders=true by kernel_rfl)
 go_enter Tryz.func71,Tryz.ntmps71
 have hM0:=Mem.start w
 (go_step;go_step;refine wp_region_lit ?_)
 refine wl_new hM0 (f:=fun b=>.pointer (some ⟨b,0,none⟩)) (ob:=.cells (elR Y) 23 (0,0)) (fun W=>run_box_of rfl rfl (bx_Nu Y W)) rfl fun b1 W1 hM1=>?_
 simp only[nm0,nm1,nm2,nm3]
 refine wl_new hM1 (f:=fun b=>.pointer (some ⟨b,0,none⟩)) (ob:=.cells z4 23 (0,0)) (fun W=>run_alloc_of rfl (al_Nu W)) rfl fun b2 W2 hM2=>?_
 simp only[nm0,nm1,nm2,nm3]
 refine wpList_nil ?_
 (go_step;go_step;go_step;refine wp_region_lit ?_)
 refine wl_row hM2 1 (v:=numV Y) rfl rfl rfl rfl rowNu rfl ?_
 simp only[nm0,nm1,nm2,nm3]
 refine wl_row hM2 1 (v:=numV Y) rfl rfl rfl rfl rowNu rfl ?_
 simp only[nm0,nm1,nm2,nm3]
 obtain⟨v1,ev1⟩:∃ x,x=Y*Y%PN:=⟨_,rfl⟩
 have pv1:v1<PN:=by rw[ev1];exact Nat.mod_lt _ PN_pos
 have Kv1:=fun W=>rmul' Y Y W hY hY
 simp only[← ev1] at Kv1
 refine wl_call hM2 (args:=#[numV Y,numV Y]) (v:=numV v1) (fun W=>run_call_fn W (enters_of Tryz.func67 rfl rfl) rfl (by simp[Act.eval])) (Kv1 W2) rfl fun W3 hM3=>?_
 simp only[nm0,nm1,nm2,nm3]
 refine wl_new hM3 (f:=fun b=>.pointer (some ⟨b,0,none⟩)) (ob:=.cells z4 23 (0,0)) (fun W=>run_alloc_of rfl (al_Nu W)) rfl fun b3 W4 hM4=>?_
 simp only[nm0,nm1,nm2,nm3]
 refine wl_set hM4 0 (cs:=(elR v1)) rfl rfl rfl rfl rowNu rfl (one_el v1) rfl rfl fun W5 hM5=>?_
 simp only[nm2,nm3] at hM5
 refine wpList_nil ?_
 (go_step;go_step;go_step;refine wp_region_inw 10 HMIX.out (by decide) (by kernel_rfl) (by kernel_rfl) ?_)
 refine inw_row hM5 0 (v:=numV v1) rfl rfl rfl rfl rowNu rfl rfl ?_;simp only[nm0,nm1,nm2,nm3]
 refine inw_callV (args:=#[.int .u64 1]) (v:=numV 1) (fun W=>run_call_fn W (enters_of Tryz.func68 rfl rfl) rfl (by simp[Act.eval])) (fun W _=>rsmall' 1 (by decide) W) rfl rfl ?_;simp only[nm0,nm1,nm2,nm3]
 obtain⟨v2,ev2⟩:∃ x,x=(v1+PN-1)%PN:=⟨_,rfl⟩
 have pv2:v2<PN:=by rw[ev2];exact Nat.mod_lt _ PN_pos
 have Kv2:=fun W=>rsub' v1 1 W pv1 (by decide +kernel)
 simp only[← ev2] at Kv2
 refine inw_callV (args:=#[numV v1,numV 1]) (v:=numV v2) (fun W=>run_call_fn W (enters_of Tryz.func114 rfl rfl) rfl (by simp[Act.eval])) (fun W _=>Kv2 W) rfl rfl ?_;simp only[nm0,nm1,nm2,nm3]
 refine inw_callV (args:=#[]) (v:=numV dN) (fun W=>run_call_fn W (enters_of Tryz.func66 rfl rfl) rfl (by simp[Act.eval])) (fun W _=>rD_any W) rfl rfl ?_;simp only[nm0,nm1,nm2,nm3]
 refine inw_row hM5 0 (v:=numV v1) rfl rfl rfl rfl rowNu rfl rfl ?_;simp only[nm0,nm1,nm2,nm3]
 obtain⟨v3,ev3⟩:∃ x,x=dN*v1%PN:=⟨_,rfl⟩
 have pv3:v3<PN:=by rw[ev3];exact Nat.mod_lt _ PN_pos
 have Kv3:=fun W=>rmul' dN v1 W d_is.2 pv1
 simp only[← ev3] at Kv3
 refine inw_callV (args:=#[numV dN,numV v1]) (v:=numV v3) (fun W=>run_call_fn W (enters_of Tryz.func67 rfl rfl) rfl (by simp[Act.eval])) (fun W _=>Kv3 W) rfl rfl ?_;simp only[nm0,nm1,nm2,nm3]
 refine inw_callV (args:=#[.int .u64 1]) (v:=numV 1) (fun W=>run_call_fn W (enters_of Tryz.func68 rfl rfl) rfl (by simp[Act.eval])) (fun W _=>rsmall' 1 (by decide) W) rfl rfl ?_;simp only[nm0,nm1,nm2,nm3]
 obtain⟨v4,ev4⟩:∃ x,x=(v3+1)%PN:=⟨_,rfl⟩
 have pv4:v4<PN:=by rw[ev4];exact Nat.mod_lt _ PN_pos
 have Kv4:=fun W=>radd' v3 1 W pv3 (by decide +kernel)
 simp only[← ev4] at Kv4
 refine inw_callV (args:=#[numV v3,numV 1]) (v:=numV v4) (fun W=>run_call_fn W (enters_of Tryz.func128 rfl rfl) rfl (by simp[Act.eval])) (fun W _=>Kv4 W) rfl rfl ?_;simp only[nm0,nm1,nm2,nm3]
 obtain⟨v5,ev5⟩:∃ x,x=IV v4:=⟨_,rfl⟩
 have pv5:v5<PN:=by rw[ev5];exact IV_lt _
 have Kv5:=fun W=>rinv' v4 W pv4
 simp only[← ev5] at Kv5
 refine inw_callV (args:=#[numV v4]) (v:=numV v5) (fun W=>run_call_fn W (enters_of Tryz.func69 rfl rfl) rfl (by simp[Act.eval])) (fun W _=>Kv5 W) rfl rfl ?_;simp only[nm0,nm1,nm2,nm3]
 obtain⟨v6,ev6⟩:∃ x,x=v2*v5%PN:=⟨_,rfl⟩
 have pv6:v6<PN:=by rw[ev6];exact Nat.mod_lt _ PN_pos
 have Kv6:=fun W=>rmul' v2 v5 W pv2 pv5
 simp only[← ev6] at Kv6
 refine inw_callV (args:=#[numV v2,numV v5]) (v:=numV v6) (fun W=>run_call_fn W (enters_of Tryz.func67 rfl rfl) rfl (by simp[Act.eval])) (fun W _=>Kv6 W) rfl rfl ?_;simp only[nm0,nm1,nm2,nm3]
 refine inw_fin fun d os=>?_
 refine given_nil fun hap=>?_
 have hM6:=hM5.calls (below_regrown W5 d os)
 clear hap 
 generalize grow (redrawn W5 d) os=W6 at hM6 ⊢
 change wpAny _ _ _ _ 1 _ _ _
 refine any_set (n:=10) (by kernel_rfl) rfl hM6 1 (cs:=(elR v6)) rfl rfl rfl rfl rowNu rfl (one_el v6) rfl rfl fun W7 hM7=>?_
 simp only[nm2,nm3] at hM7
 refine wpAny_done (by kernel_rfl) ?_ _
 (go_step;go_step;go_step;refine bodyPost_ret (v:=numV v6) (results_arr Tryz.results71 rfl (hM7.load 1 rfl rowNu)) rfl ⟨?_,hM7.below⟩)
 exact by unfold sqR;rw[ev6,ev5,ev4,ev3,ev2,ev1]
set_option maxRecDepth 20000 in
set_option maxHeartbeats 8000000 in
theorem rptadd_any (X1 Y1 Z1 X2 Y2 Z2:Nat) (hX1:X1<PN) (hY1:Y1<PN) (hZ1:Z1<PN) (hX2:X2<PN) (hY2:Y2<PN) (hZ2:Z2<PN) (w:World):Calls Tryz.prog 116 #[rpV X1 Y1 Z1,rpV X2 Y2 Z2,numV dN] w fun E w'=>E=.returned (rpV (addX X1 Y1 Z1 X2 Y2 Z2) (addY X1 Y1 Z1 X2 Y2 Z2) (addZ X1 Y1 Z1 X2 Y2 Z2))∧Below w.heap.size w w':=by
 unfold addX addY addZ
 have HMIX:=Lib.hid (show Tryz.prog.follows .mixedOrders=true by kernel_rfl)
 go_enter Tryz.func116,Tryz.ntmps116
 have hM0:=Mem.start w
 (go_step;go_step;refine wp_region_lit ?_)
 refine wl_new hM0 (f:=fun b=>.pointer (some ⟨b,0,none⟩)) (ob:=.cells ((rpL X1 Y1 Z1).toArray) 55 (0,0)) (fun W=>run_box_of rfl rfl (bx_Rp X1 Y1 Z1 W)) rfl fun b1 W1 hM1=>?_
 simp only[nm0,nm1,nm2,nm3]
 refine wl_new hM1 (f:=fun b=>.pointer (some ⟨b,0,none⟩)) (ob:=.cells ((rpL X2 Y2 Z2).toArray) 55 (0,0)) (fun W=>run_box_of rfl rfl (bx_Rp X2 Y2 Z2 W)) rfl fun b2 W2 hM2=>?_
 simp only[nm0,nm1,nm2,nm3]
 refine wl_new hM2 (f:=fun b=>.pointer (some ⟨b,0,none⟩)) (ob:=.cells (elR dN) 23 (0,0)) (fun W=>run_box_of rfl rfl (bx_Nu dN W)) rfl fun b3 W3 hM3=>?_
 simp only[nm0,nm1,nm2,nm3]
 refine wl_new hM3 (f:=fun b=>.pointer (some ⟨b,0,none⟩)) (ob:=.cells z12 55 (0,0)) (fun W=>run_alloc_of rfl (al_Rp W)) rfl fun b4 W4 hM4=>?_
 simp only[nm0,nm1,nm2,nm3]
 refine wpList_nil ?_
 (go_step;go_step;go_step;refine wp_region_lit ?_)
 refine wl_pure (v:=.pointer (some ⟨b1,8,none⟩)) (fun W=>run_field_of rfl rfl (fa_R2 b1 W)) rfl ?_
 simp only[nm0,nm1,nm2,nm3]
 refine wl_part hM4 3 (v:=numV Z1) (sub:=elR Z1) rfl rfl rfl rfl rfl rowNu rfl ?_
 simp only[nm0,nm1,nm2,nm3]
 refine wl_pure (v:=.pointer (some ⟨b2,8,none⟩)) (fun W=>run_field_of rfl rfl (fa_R2 b2 W)) rfl ?_
 simp only[nm0,nm1,nm2,nm3]
 refine wl_part hM4 2 (v:=numV Z2) (sub:=elR Z2) rfl rfl rfl rfl rfl rowNu rfl ?_
 simp only[nm0,nm1,nm2,nm3]
 obtain⟨v1,ev1⟩:∃ x,x=Z1*Z2%PN:=⟨_,rfl⟩
 have pv1:v1<PN:=by rw[ev1];exact Nat.mod_lt _ PN_pos
 have Kv1:=fun W=>rmul' Z1 Z2 W hZ1 hZ2
 simp only[← ev1] at Kv1
 refine wl_call hM4 (args:=#[numV Z1,numV Z2]) (v:=numV v1) (fun W=>run_call_fn W (enters_of Tryz.func67 rfl rfl) rfl (by simp[Act.eval])) (Kv1 W4) rfl fun W5 hM5=>?_
 simp only[nm0,nm1,nm2,nm3]
 refine wl_new hM5 (f:=fun b=>.pointer (some ⟨b,0,none⟩)) (ob:=.cells z4 23 (0,0)) (fun W=>run_alloc_of rfl (al_Nu W)) rfl fun b5 W6 hM6=>?_
 simp only[nm0,nm1,nm2,nm3]
 refine wl_set hM6 0 (cs:=(elR v1)) rfl rfl rfl rfl rowNu rfl (one_el v1) rfl rfl fun W7 hM7=>?_
 simp only[nm2,nm3] at hM7
 refine wpList_nil ?_
 (go_step;go_step;go_step;refine wp_region_lit ?_)
 refine wl_row hM7 0 (v:=numV v1) rfl rfl rfl rfl rowNu rfl ?_
 simp only[nm0,nm1,nm2,nm3]
 refine wl_row hM7 0 (v:=numV v1) rfl rfl rfl rfl rowNu rfl ?_
 simp only[nm0,nm1,nm2,nm3]
 obtain⟨v2,ev2⟩:∃ x,x=v1*v1%PN:=⟨_,rfl⟩
 have pv2:v2<PN:=by rw[ev2];exact Nat.mod_lt _ PN_pos
 have Kv2:=fun W=>rmul' v1 v1 W pv1 pv1
 simp only[← ev2] at Kv2
 refine wl_call hM7 (args:=#[numV v1,numV v1]) (v:=numV v2) (fun W=>run_call_fn W (enters_of Tryz.func67 rfl rfl) rfl (by simp[Act.eval])) (Kv2 W7) rfl fun W8 hM8=>?_
 simp only[nm0,nm1,nm2,nm3]
 refine wl_new hM8 (f:=fun b=>.pointer (some ⟨b,0,none⟩)) (ob:=.cells z4 23 (0,0)) (fun W=>run_alloc_of rfl (al_Nu W)) rfl fun b6 W9 hM9=>?_
 simp only[nm0,nm1,nm2,nm3]
 refine wl_set hM9 0 (cs:=(elR v2)) rfl rfl rfl rfl rowNu rfl (one_el v2) rfl rfl fun W10 hM10=>?_
 simp only[nm2,nm3] at hM10
 refine wpList_nil ?_
 (go_step;go_step;go_step;refine wp_region_inw 12 HMIX.out (by decide) (by kernel_rfl) (by kernel_rfl) ?_)
 refine inw_pure (v:=.pointer (some ⟨b1,0,none⟩)) (fun W=>run_field_of rfl rfl (fa_R0 b1 W)) rfl rfl ?_;simp only[nm0,nm1,nm2,nm3]
 refine inw_part hM10 5 (v:=numV X1) (sub:=elR X1) rfl rfl rfl rfl rfl rowNu rfl rfl ?_;simp only[nm0,nm1,nm2,nm3]
 refine inw_pure (v:=.pointer (some ⟨b2,0,none⟩)) (fun W=>run_field_of rfl rfl (fa_R0 b2 W)) rfl rfl ?_;simp only[nm0,nm1,nm2,nm3]
 refine inw_part hM10 4 (v:=numV X2) (sub:=elR X2) rfl rfl rfl rfl rfl rowNu rfl rfl ?_;simp only[nm0,nm1,nm2,nm3]
 obtain⟨v3,ev3⟩:∃ x,x=X1*X2%PN:=⟨_,rfl⟩
 have pv3:v3<PN:=by rw[ev3];exact Nat.mod_lt _ PN_pos
 have Kv3:=fun W=>rmul' X1 X2 W hX1 hX2
 simp only[← ev3] at Kv3
 refine inw_callV (args:=#[numV X1,numV X2]) (v:=numV v3) (fun W=>run_call_fn W (enters_of Tryz.func67 rfl rfl) rfl (by simp[Act.eval])) (fun W _=>Kv3 W) rfl rfl ?_;simp only[nm0,nm1,nm2,nm3]
 refine inw_pure (v:=.pointer (some ⟨b1,4,none⟩)) (fun W=>run_field_of rfl rfl (fa_R1 b1 W)) rfl rfl ?_;simp only[nm0,nm1,nm2,nm3]
 refine inw_part hM10 5 (v:=numV Y1) (sub:=elR Y1) rfl rfl rfl rfl rfl rowNu rfl rfl ?_;simp only[nm0,nm1,nm2,nm3]
 refine inw_pure (v:=.pointer (some ⟨b2,4,none⟩)) (fun W=>run_field_of rfl rfl (fa_R1 b2 W)) rfl rfl ?_;simp only[nm0,nm1,nm2,nm3]
 refine inw_part hM10 4 (v:=numV Y2) (sub:=elR Y2) rfl rfl rfl rfl rfl rowNu rfl rfl ?_;simp only[nm0,nm1,nm2,nm3]
 obtain⟨v4,ev4⟩:∃ x,x=Y1*Y2%PN:=⟨_,rfl⟩
 have pv4:v4<PN:=by rw[ev4];exact Nat.mod_lt _ PN_pos
 have Kv4:=fun W=>rmul' Y1 Y2 W hY1 hY2
 simp only[← ev4] at Kv4
 refine inw_callV (args:=#[numV Y1,numV Y2]) (v:=numV v4) (fun W=>run_call_fn W (enters_of Tryz.func67 rfl rfl) rfl (by simp[Act.eval])) (fun W _=>Kv4 W) rfl rfl ?_;simp only[nm0,nm1,nm2,nm3]
 refine inw_new (.cells z4 23 (0,0)) rfl rfl (fun A W=>run_alloc_of rfl (al_Nu W)) ?_;simp only[List.nil_append,List.cons_append]
 refine inw_new (.cells z4 23 (0,0)) rfl rfl (fun A W=>run_alloc_of rfl (al_Nu W)) ?_;simp only[List.nil_append,List.cons_append]
 refine inw_fin fun d os=>?_
 refine given_new (t:=9) rfl fun b7 lb7 gb7=>?_
 refine given_new (t:=10) rfl fun b8 lb8 gb8=>?_
 refine given_nil fun hap=>?_
 simp only[nm0,nm1,nm2,nm3] at hap ⊢
 have nb7b8:b7≠b8:=hap.ne 10 11 rfl rfl rfl rfl rfl rfl rfl
 have hM11:=hM10.news2 (below_regrown W10 d os) lb7 gb7 lb8 gb8 nb7b8
 clear hap lb7 gb7 lb8 gb8 nb7b8
 generalize grow (redrawn W10 d) os=W11 at hM11 ⊢
 change wpAny _ _ _ _ 2 _ _ _
 refine any_set (n:=12) (by kernel_rfl) rfl hM11 0 (cs:=(elR v3)) rfl rfl rfl rfl rowNu rfl (one_el v3) rfl rfl fun W12 hM12=>?_
 simp only[nm2,nm3] at hM12
 refine any_set (n:=13) (by kernel_rfl) rfl hM12 1 (cs:=(elR v4)) rfl rfl rfl rfl rowNu rfl (one_el v4) rfl rfl fun W13 hM13=>?_
 simp only[nm2,nm3] at hM13
 refine wpAny_done (by kernel_rfl) ?_ _
 (go_step;go_step;go_step;refine wp_region_inw 6 HMIX.out (by decide) (by kernel_rfl) (by kernel_rfl) ?_)
 refine inw_row hM13 5 (v:=numV dN) rfl rfl rfl rfl rowNu rfl rfl ?_;simp only[nm0,nm1,nm2,nm3]
 refine inw_row hM13 0 (v:=numV v3) rfl rfl rfl rfl rowNu rfl rfl ?_;simp only[nm0,nm1,nm2,nm3]
 refine inw_row hM13 1 (v:=numV v4) rfl rfl rfl rfl rowNu rfl rfl ?_;simp only[nm0,nm1,nm2,nm3]
 obtain⟨v5,ev5⟩:∃ x,x=v3*v4%PN:=⟨_,rfl⟩
 have pv5:v5<PN:=by rw[ev5];exact Nat.mod_lt _ PN_pos
 have Kv5:=fun W=>rmul' v3 v4 W pv3 pv4
 simp only[← ev5] at Kv5
 refine inw_callV (args:=#[numV v3,numV v4]) (v:=numV v5) (fun W=>run_call_fn W (enters_of Tryz.func67 rfl rfl) rfl (by simp[Act.eval])) (fun W _=>Kv5 W) rfl rfl ?_;simp only[nm0,nm1,nm2,nm3]
 obtain⟨v6,ev6⟩:∃ x,x=dN*v5%PN:=⟨_,rfl⟩
 have pv6:v6<PN:=by rw[ev6];exact Nat.mod_lt _ PN_pos
 have Kv6:=fun W=>rmul' dN v5 W d_is.2 pv5
 simp only[← ev6] at Kv6
 refine inw_callV (args:=#[numV dN,numV v5]) (v:=numV v6) (fun W=>run_call_fn W (enters_of Tryz.func67 rfl rfl) rfl (by simp[Act.eval])) (fun W _=>Kv6 W) rfl rfl ?_;simp only[nm0,nm1,nm2,nm3]
 refine inw_new (.cells z4 23 (0,0)) rfl rfl (fun A W=>run_alloc_of rfl (al_Nu W)) ?_;simp only[List.nil_append,List.cons_append]
 refine inw_fin fun d os=>?_
 refine given_new (t:=11) rfl fun b9 lb9 gb9=>?_
 refine given_nil fun hap=>?_
 simp only[nm0,nm1,nm2,nm3] at hap ⊢
 have hM14:=hM13.news1 (below_regrown W13 d os) lb9 gb9 
 clear hap lb9 gb9
 generalize grow (redrawn W13 d) os=W14 at hM14 ⊢
 change wpAny _ _ _ _ 1 _ _ _
 refine any_set (n:=6) (by kernel_rfl) rfl hM14 0 (cs:=(elR v6)) rfl rfl rfl rfl rowNu rfl (one_el v6) rfl rfl fun W15 hM15=>?_
 simp only[nm2,nm3] at hM15
 refine wpAny_done (by kernel_rfl) ?_ _
 (go_step;go_step;go_step;refine wp_region_inw 12 HMIX.out (by decide) (by kernel_rfl) (by kernel_rfl) ?_)
 refine inw_pure (v:=.pointer (some ⟨b1,0,none⟩)) (fun W=>run_field_of rfl rfl (fa_R0 b1 W)) rfl rfl ?_;simp only[nm0,nm1,nm2,nm3]
 refine inw_part hM15 8 (v:=numV X1) (sub:=elR X1) rfl rfl rfl rfl rfl rowNu rfl rfl ?_;simp only[nm0,nm1,nm2,nm3]
 refine inw_pure (v:=.pointer (some ⟨b2,4,none⟩)) (fun W=>run_field_of rfl rfl (fa_R1 b2 W)) rfl rfl ?_;simp only[nm0,nm1,nm2,nm3]
 refine inw_part hM15 7 (v:=numV Y2) (sub:=elR Y2) rfl rfl rfl rfl rfl rowNu rfl rfl ?_;simp only[nm0,nm1,nm2,nm3]
 obtain⟨v7,ev7⟩:∃ x,x=X1*Y2%PN:=⟨_,rfl⟩
 have pv7:v7<PN:=by rw[ev7];exact Nat.mod_lt _ PN_pos
 have Kv7:=fun W=>rmul' X1 Y2 W hX1 hY2
 simp only[← ev7] at Kv7
 refine inw_callV (args:=#[numV X1,numV Y2]) (v:=numV v7) (fun W=>run_call_fn W (enters_of Tryz.func67 rfl rfl) rfl (by simp[Act.eval])) (fun W _=>Kv7 W) rfl rfl ?_;simp only[nm0,nm1,nm2,nm3]
 refine inw_pure (v:=.pointer (some ⟨b1,4,none⟩)) (fun W=>run_field_of rfl rfl (fa_R1 b1 W)) rfl rfl ?_;simp only[nm0,nm1,nm2,nm3]
 refine inw_part hM15 8 (v:=numV Y1) (sub:=elR Y1) rfl rfl rfl rfl rfl rowNu rfl rfl ?_;simp only[nm0,nm1,nm2,nm3]
 refine inw_pure (v:=.pointer (some ⟨b2,0,none⟩)) (fun W=>run_field_of rfl rfl (fa_R0 b2 W)) rfl rfl ?_;simp only[nm0,nm1,nm2,nm3]
 refine inw_part hM15 7 (v:=numV X2) (sub:=elR X2) rfl rfl rfl rfl rfl rowNu rfl rfl ?_;simp only[nm0,nm1,nm2,nm3]
 obtain⟨v8,ev8⟩:∃ x,x=Y1*X2%PN:=⟨_,rfl⟩
 have pv8:v8<PN:=by rw[ev8];exact Nat.mod_lt _ PN_pos
 have Kv8:=fun W=>rmul' Y1 X2 W hY1 hX2
 simp only[← ev8] at Kv8
 refine inw_callV (args:=#[numV Y1,numV X2]) (v:=numV v8) (fun W=>run_call_fn W (enters_of Tryz.func67 rfl rfl) rfl (by simp[Act.eval])) (fun W _=>Kv8 W) rfl rfl ?_;simp only[nm0,nm1,nm2,nm3]
 obtain⟨v9,ev9⟩:∃ x,x=(v7+v8)%PN:=⟨_,rfl⟩
 have pv9:v9<PN:=by rw[ev9];exact Nat.mod_lt _ PN_pos
 have Kv9:=fun W=>radd' v7 v8 W pv7 pv8
 simp only[← ev9] at Kv9
 refine inw_callV (args:=#[numV v7,numV v8]) (v:=numV v9) (fun W=>run_call_fn W (enters_of Tryz.func128 rfl rfl) rfl (by simp[Act.eval])) (fun W _=>Kv9 W) rfl rfl ?_;simp only[nm0,nm1,nm2,nm3]
 refine inw_new (.cells z4 23 (0,0)) rfl rfl (fun A W=>run_alloc_of rfl (al_Nu W)) ?_;simp only[List.nil_append,List.cons_append]
 refine inw_fin fun d os=>?_
 refine given_new (t:=12) rfl fun b10 lb10 gb10=>?_
 refine given_nil fun hap=>?_
 simp only[nm0,nm1,nm2,nm3] at hap ⊢
 have hM16:=hM15.news1 (below_regrown W15 d os) lb10 gb10 
 clear hap lb10 gb10
 generalize grow (redrawn W15 d) os=W16 at hM16 ⊢
 change wpAny _ _ _ _ 1 _ _ _
 refine any_set (n:=12) (by kernel_rfl) rfl hM16 0 (cs:=(elR v9)) rfl rfl rfl rfl rowNu rfl (one_el v9) rfl rfl fun W17 hM17=>?_
 simp only[nm2,nm3] at hM17
 refine wpAny_done (by kernel_rfl) ?_ _
 (go_step;go_step;go_step;refine wp_region_inw 8 HMIX.out (by decide) (by kernel_rfl) (by kernel_rfl) ?_)
 refine inw_row hM17 4 (v:=numV v2) rfl rfl rfl rfl rowNu rfl rfl ?_;simp only[nm0,nm1,nm2,nm3]
 refine inw_row hM17 1 (v:=numV v6) rfl rfl rfl rfl rowNu rfl rfl ?_;simp only[nm0,nm1,nm2,nm3]
 obtain⟨v10,ev10⟩:∃ x,x=(v2+PN-v6)%PN:=⟨_,rfl⟩
 have pv10:v10<PN:=by rw[ev10];exact Nat.mod_lt _ PN_pos
 have Kv10:=fun W=>rsub' v2 v6 W pv2 pv6
 simp only[← ev10] at Kv10
 refine inw_callV (args:=#[numV v2,numV v6]) (v:=numV v10) (fun W=>run_call_fn W (enters_of Tryz.func114 rfl rfl) rfl (by simp[Act.eval])) (fun W _=>Kv10 W) rfl rfl ?_;simp only[nm0,nm1,nm2,nm3]
 refine inw_row hM17 4 (v:=numV v2) rfl rfl rfl rfl rowNu rfl rfl ?_;simp only[nm0,nm1,nm2,nm3]
 refine inw_row hM17 1 (v:=numV v6) rfl rfl rfl rfl rowNu rfl rfl ?_;simp only[nm0,nm1,nm2,nm3]
 obtain⟨v11,ev11⟩:∃ x,x=(v2+v6)%PN:=⟨_,rfl⟩
 have pv11:v11<PN:=by rw[ev11];exact Nat.mod_lt _ PN_pos
 have Kv11:=fun W=>radd' v2 v6 W pv2 pv6
 simp only[← ev11] at Kv11
 refine inw_callV (args:=#[numV v2,numV v6]) (v:=numV v11) (fun W=>run_call_fn W (enters_of Tryz.func128 rfl rfl) rfl (by simp[Act.eval])) (fun W _=>Kv11 W) rfl rfl ?_;simp only[nm0,nm1,nm2,nm3]
 refine inw_new (.cells z4 23 (0,0)) rfl rfl (fun A W=>run_alloc_of rfl (al_Nu W)) ?_;simp only[List.nil_append,List.cons_append]
 refine inw_new (.cells z4 23 (0,0)) rfl rfl (fun A W=>run_alloc_of rfl (al_Nu W)) ?_;simp only[List.nil_append,List.cons_append]
 refine inw_fin fun d os=>?_
 refine given_new (t:=13) rfl fun b11 lb11 gb11=>?_
 refine given_new (t:=14) rfl fun b12 lb12 gb12=>?_
 refine given_nil fun hap=>?_
 simp only[nm0,nm1,nm2,nm3] at hap ⊢
 have nb11b12:b11≠b12:=hap.ne 6 7 rfl rfl rfl rfl rfl rfl rfl
 have hM18:=hM17.news2 (below_regrown W17 d os) lb11 gb11 lb12 gb12 nb11b12
 clear hap lb11 gb11 lb12 gb12 nb11b12
 generalize grow (redrawn W17 d) os=W18 at hM18 ⊢
 change wpAny _ _ _ _ 2 _ _ _
 refine any_set (n:=8) (by kernel_rfl) rfl hM18 0 (cs:=(elR v10)) rfl rfl rfl rfl rowNu rfl (one_el v10) rfl rfl fun W19 hM19=>?_
 simp only[nm2,nm3] at hM19
 refine any_set (n:=9) (by kernel_rfl) rfl hM19 1 (cs:=(elR v11)) rfl rfl rfl rfl rowNu rfl (one_el v11) rfl rfl fun W20 hM20=>?_
 simp only[nm2,nm3] at hM20
 refine wpAny_done (by kernel_rfl) ?_ _
 (go_step;go_step;go_step;refine wp_region_inw 16 HMIX.out (by decide) (by kernel_rfl) (by kernel_rfl) ?_)
 refine inw_row hM20 7 (v:=numV v1) rfl rfl rfl rfl rowNu rfl rfl ?_;simp only[nm0,nm1,nm2,nm3]
 refine inw_row hM20 2 (v:=numV v9) rfl rfl rfl rfl rowNu rfl rfl ?_;simp only[nm0,nm1,nm2,nm3]
 obtain⟨v12,ev12⟩:∃ x,x=v1*v9%PN:=⟨_,rfl⟩
 have pv12:v12<PN:=by rw[ev12];exact Nat.mod_lt _ PN_pos
 have Kv12:=fun W=>rmul' v1 v9 W pv1 pv9
 simp only[← ev12] at Kv12
 refine inw_callV (args:=#[numV v1,numV v9]) (v:=numV v12) (fun W=>run_call_fn W (enters_of Tryz.func67 rfl rfl) rfl (by simp[Act.eval])) (fun W _=>Kv12 W) rfl rfl ?_;simp only[nm0,nm1,nm2,nm3]
 refine inw_row hM20 0 (v:=numV v10) rfl rfl rfl rfl rowNu rfl rfl ?_;simp only[nm0,nm1,nm2,nm3]
 obtain⟨v13,ev13⟩:∃ x,x=v12*v10%PN:=⟨_,rfl⟩
 have pv13:v13<PN:=by rw[ev13];exact Nat.mod_lt _ PN_pos
 have Kv13:=fun W=>rmul' v12 v10 W pv12 pv10
 simp only[← ev13] at Kv13
 refine inw_callV (args:=#[numV v12,numV v10]) (v:=numV v13) (fun W=>run_call_fn W (enters_of Tryz.func67 rfl rfl) rfl (by simp[Act.eval])) (fun W _=>Kv13 W) rfl rfl ?_;simp only[nm0,nm1,nm2,nm3]
 refine inw_row hM20 7 (v:=numV v1) rfl rfl rfl rfl rowNu rfl rfl ?_;simp only[nm0,nm1,nm2,nm3]
 refine inw_row hM20 5 (v:=numV v4) rfl rfl rfl rfl rowNu rfl rfl ?_;simp only[nm0,nm1,nm2,nm3]
 refine inw_row hM20 4 (v:=numV v3) rfl rfl rfl rfl rowNu rfl rfl ?_;simp only[nm0,nm1,nm2,nm3]
 obtain⟨v14,ev14⟩:∃ x,x=(v4+v3)%PN:=⟨_,rfl⟩
 have pv14:v14<PN:=by rw[ev14];exact Nat.mod_lt _ PN_pos
 have Kv14:=fun W=>radd' v4 v3 W pv4 pv3
 simp only[← ev14] at Kv14
 refine inw_callV (args:=#[numV v4,numV v3]) (v:=numV v14) (fun W=>run_call_fn W (enters_of Tryz.func128 rfl rfl) rfl (by simp[Act.eval])) (fun W _=>Kv14 W) rfl rfl ?_;simp only[nm0,nm1,nm2,nm3]
 obtain⟨v15,ev15⟩:∃ x,x=v1*v14%PN:=⟨_,rfl⟩
 have pv15:v15<PN:=by rw[ev15];exact Nat.mod_lt _ PN_pos
 have Kv15:=fun W=>rmul' v1 v14 W pv1 pv14
 simp only[← ev15] at Kv15
 refine inw_callV (args:=#[numV v1,numV v14]) (v:=numV v15) (fun W=>run_call_fn W (enters_of Tryz.func67 rfl rfl) rfl (by simp[Act.eval])) (fun W _=>Kv15 W) rfl rfl ?_;simp only[nm0,nm1,nm2,nm3]
 refine inw_row hM20 1 (v:=numV v11) rfl rfl rfl rfl rowNu rfl rfl ?_;simp only[nm0,nm1,nm2,nm3]
 obtain⟨v16,ev16⟩:∃ x,x=v15*v11%PN:=⟨_,rfl⟩
 have pv16:v16<PN:=by rw[ev16];exact Nat.mod_lt _ PN_pos
 have Kv16:=fun W=>rmul' v15 v11 W pv15 pv11
 simp only[← ev16] at Kv16
 refine inw_callV (args:=#[numV v15,numV v11]) (v:=numV v16) (fun W=>run_call_fn W (enters_of Tryz.func67 rfl rfl) rfl (by simp[Act.eval])) (fun W _=>Kv16 W) rfl rfl ?_;simp only[nm0,nm1,nm2,nm3]
 refine inw_row hM20 0 (v:=numV v10) rfl rfl rfl rfl rowNu rfl rfl ?_;simp only[nm0,nm1,nm2,nm3]
 refine inw_row hM20 1 (v:=numV v11) rfl rfl rfl rfl rowNu rfl rfl ?_;simp only[nm0,nm1,nm2,nm3]
 obtain⟨v17,ev17⟩:∃ x,x=v10*v11%PN:=⟨_,rfl⟩
 have pv17:v17<PN:=by rw[ev17];exact Nat.mod_lt _ PN_pos
 have Kv17:=fun W=>rmul' v10 v11 W pv10 pv11
 simp only[← ev17] at Kv17
 refine inw_callV (args:=#[numV v10,numV v11]) (v:=numV v17) (fun W=>run_call_fn W (enters_of Tryz.func67 rfl rfl) rfl (by simp[Act.eval])) (fun W _=>Kv17 W) rfl rfl ?_;simp only[nm0,nm1,nm2,nm3]
 refine inw_pure (v:=rpV v13 v16 v17) (fun W=>run_build_of rfl (by simp[Act.eval]) (bdR v13 v16 v17 W)) rfl rfl ?_;simp only[nm0,nm1,nm2,nm3]
 refine inw_fin fun d os=>?_
 refine given_nil fun hap=>?_
 have hM21:=hM20.calls (below_regrown W20 d os)
 clear hap 
 generalize grow (redrawn W20 d) os=W21 at hM21 ⊢
 change wpAny _ _ _ _ 1 _ _ _
 refine any_set (n:=16) (by kernel_rfl) rfl hM21 8 (cs:=((rpL v13 v16 v17).toArray)) rfl rfl rfl rfl rowRp rfl (one_rp v13 v16 v17) rfl rfl fun W22 hM22=>?_
 simp only[nm2,nm3] at hM22
 refine wpAny_done (by kernel_rfl) ?_ _
 (go_step;go_step;go_step;refine bodyPost_ret (v:=rpV v13 v16 v17) (results_arr Tryz.results116 rfl (hM22.load 8 rfl rowRp)) rfl ⟨?_,hM22.below⟩)
 exact by rw[ev17,ev16,ev15,ev14,ev13,ev12,ev11,ev10,ev9,ev8,ev7,ev6,ev5,ev4,ev3,ev2,ev1];simp only[amod]
theorem i5_is:IV 5=11579208923731619542357098500868790785326998466564056403945758400791312963990:=IV_pm 5 _ (by decide +kernel)
theorem y_is:4*IV 5%PN=bY:=by
 rw[i5_is]
 decide +kernel
def sBase:Nat:=26187595835145689230469591415084376402084551887632582719101735842039498021991
theorem sqR_of (Y u c r:Nat) (h1:(dN*(Y*Y%PN)%PN+1)%PN=u) (h2:IV u=c) (h3:(Y*Y%PN+PN-1)%PN*c%PN=r):sqR Y=r:=by
 unfold sqR
 rw[h1,h2,h3]
theorem sqR_bY:sqR bY=sBase:=sqR_of bY 35320460721920060721965471946471712506633951349663716574434581141966314745466 36615873626505047815401509688526422966742341385236691817538452001808239043262 sBase (by decide +kernel) (IV_pm _ _ (by decide +kernel)) (by decide +kernel)
theorem base_root:rootN iV (sqR bY)=bX∧okN iV (sqR bY)=true:=by
 rw[sqR_bY]
 obtain⟨e1,e2⟩:=rootC_is iV sBase 42783823269122696939284341094755422415180979639778424813682678720006717057747 (r0N_pm sBase _ (by decide +kernel))
 rw[e1,e2]
 decide +kernel
theorem div45 (w:World):Calls Tryz.prog 132 #[numV 4,numV 5] w fun e w'=>e=.returned (numV bY)∧Below w.heap.size w w':=by
 have h:=div_any' 4 5 w (by decide +kernel) (by decide +kernel)
 rw[y_is] at h
 exact h
theorem rmul45 (I:Nat) (hI:I=IV 5) (w:World):Calls Tryz.prog 67 #[numV 4,numV I] w fun e w'=>e=.returned (numV bY)∧Below w.heap.size w w':=by
 have h:=rmul' 4 I w (by decide +kernel) (by rw[hI];exact IV_lt _)
 rw[hI] at h ⊢
 rw[y_is] at h
 exact h
set_option maxRecDepth 20000 in
set_option maxHeartbeats 8000000 in
theorem rbase_any (w:World):Calls Tryz.prog 25 #[] w fun E w'=>E=.returned (rpV bX bY 1)∧Below w.heap.size w w':=by
 have HMIX:=Lib.hid (show Tryz.prog.follows .mixedOrders=true by kernel_rfl)
 go_enter Tryz.func25,Tryz.ntmps25
 have hM0:=Mem.start w
 (go_step;go_step;refine wp_region_lit ?_)
 refine wl_new hM0 (f:=fun b=>.pointer (some ⟨b,0,none⟩)) (ob:=.cells z12 55 (0,0)) (fun W=>run_alloc_of rfl (al_Rp W)) rfl fun b1 W1 hM1=>?_
 simp only[nm0,nm1,nm2,nm3]
 refine wpList_nil ?_
 (go_step;go_step;go_step;refine wp_region_lit ?_)
 refine wl_call hM1 (args:=#[.int .u64 4]) (v:=numV 4) (fun W=>run_call_fn W (enters_of Tryz.func68 rfl rfl) rfl (by simp[Act.eval])) (rsmall' 4 (by decide) W1) rfl fun W2 hM2=>?_
 simp only[nm0,nm1,nm2,nm3]
 refine wl_call hM2 (args:=#[.int .u64 5]) (v:=numV 5) (fun W=>run_call_fn W (enters_of Tryz.func68 rfl rfl) rfl (by simp[Act.eval])) (rsmall' 5 (by decide) W2) rfl fun W3 hM3=>?_
 simp only[nm0,nm1,nm2,nm3]
 obtain⟨v1,ev1⟩:∃ x,x=IV 5:=⟨_,rfl⟩
 have pv1:v1<PN:=by rw[ev1];exact IV_lt _
 have Kv1:=fun W=>rinv' 5 W (by decide +kernel)
 simp only[← ev1] at Kv1
 refine wl_call hM3 (args:=#[numV 5]) (v:=numV v1) (fun W=>run_call_fn W (enters_of Tryz.func69 rfl rfl) rfl (by simp[Act.eval])) (Kv1 W3) rfl fun W4 hM4=>?_
 simp only[nm0,nm1,nm2,nm3]
 refine wl_call hM4 (args:=#[numV 4,numV v1]) (v:=numV bY) (fun W=>run_call_fn W (enters_of Tryz.func67 rfl rfl) rfl (by simp[Act.eval])) (rmul45 v1 ev1 W4) rfl fun W5 hM5=>?_
 simp only[nm0,nm1,nm2,nm3]
 refine wl_new hM5 (f:=fun b=>.pointer (some ⟨b,0,none⟩)) (ob:=.cells z4 23 (0,0)) (fun W=>run_alloc_of rfl (al_Nu W)) rfl fun b2 W6 hM6=>?_
 simp only[nm0,nm1,nm2,nm3]
 refine wl_set hM6 0 (cs:=(elR bY)) rfl rfl rfl rfl rowNu rfl (one_el bY) rfl rfl fun W7 hM7=>?_
 simp only[nm2,nm3] at hM7
 refine wpList_nil ?_
 (go_step;go_step;go_step;refine wp_region_lit ?_)
 refine wl_row hM7 0 (v:=numV bY) rfl rfl rfl rfl rowNu rfl ?_
 simp only[nm0,nm1,nm2,nm3]
 obtain⟨v2,ev2⟩:∃ x,x=sqR bY:=⟨_,rfl⟩
 have pv2:v2<PN:=by rw[ev2];exact sqR_lt _
 have Kv2:=fun W=>rsquare_any bY W bY_lt
 simp only[← ev2] at Kv2
 refine wl_call hM7 (args:=#[numV bY]) (v:=numV v2) (fun W=>run_call_fn W (enters_of Tryz.func71 rfl rfl) rfl (by simp[Act.eval])) (Kv2 W7) rfl fun W8 hM8=>?_
 simp only[nm0,nm1,nm2,nm3]
 obtain⟨v3,ev3⟩:∃ x,x=rootN iV v2:=⟨_,rfl⟩
 have pv3:v3<PN:=by rw[ev3];exact rootN_below _
 have Kv3:=fun W=>rroot' v2 W pv2
 simp only[← ev3] at Kv3
 obtain⟨ok1,eok1⟩:∃ x,x=okN iV v2:=⟨_,rfl⟩
 simp only[← eok1] at Kv3
 refine wl_call hM8 (args:=#[numV v2]) (v:=.tuple #[numV v3,.bool ok1]) (fun W=>run_call_fn W (enters_of Tryz.func70 rfl rfl) rfl (by simp[Act.eval])) (Kv3 W8) rfl fun W9 hM9=>?_
 simp only[nm0,nm1,nm2,nm3]
 refine wl_pure (v:=.tuple #[numV v3,.bool ok1]) (fun _=>rfl) rfl ?_
 simp only[nm0,nm1,nm2,nm3]
 refine wl_pure (v:=numV v3) (fun _=>rfl) rfl ?_
 simp only[nm0,nm1,nm2,nm3]
 refine wl_pure (v:=.bool ok1) (fun _=>rfl) rfl ?_
 simp only[nm0,nm1,nm2,nm3]
 refine wl_new hM9 (f:=fun b=>.pointer (some ⟨b,0,none⟩)) (ob:=.cells z4 23 (0,0)) (fun W=>run_alloc_of rfl (al_Nu W)) rfl fun b3 W10 hM10=>?_
 simp only[nm0,nm1,nm2,nm3]
 refine wl_set hM10 0 (cs:=(elR v3)) rfl rfl rfl rfl rowNu rfl (one_el v3) rfl rfl fun W11 hM11=>?_
 simp only[nm2,nm3] at hM11
 refine wl_pure (v:=.bool ok1) (fun _=>rfl) rfl ?_
 simp only[nm0,nm1,nm2,nm3]
 refine wpList_nil ?_
 (go_step;go_step;go_step;refine wp_region_lit ?_)
 refine wl_row hM11 0 (v:=numV v3) rfl rfl rfl rfl rowNu rfl ?_
 simp only[nm0,nm1,nm2,nm3]
 refine wl_row hM11 1 (v:=numV bY) rfl rfl rfl rfl rowNu rfl ?_
 simp only[nm0,nm1,nm2,nm3]
 refine wl_call hM11 (args:=#[numV v3,numV bY]) (v:=rpV v3 bY 1) (fun W=>run_call_fn W (enters_of Tryz.func72 rfl rfl) rfl (by simp[Act.eval])) (rmake_any v3 bY W11) rfl fun W12 hM12=>?_
 simp only[nm0,nm1,nm2,nm3]
 refine wl_set hM12 2 (cs:=((rpL v3 bY 1).toArray)) rfl rfl rfl rfl rowRp rfl (one_rp v3 bY 1) rfl rfl fun W13 hM13=>?_
 simp only[nm2,nm3] at hM13
 refine wpList_nil ?_
 (go_step;go_step;go_step;refine bodyPost_ret (v:=rpV v3 bY 1) (results_arr Tryz.results25 rfl (hM13.load 2 rfl rowRp)) rfl ⟨?_,hM13.below⟩)
 exact by rw[ev3,ev2,base_root.1]
set_option maxRecDepth 20000 in
set_option maxHeartbeats 8000000 in
theorem base_gen (Y:Nat) (hY:Y<PN) (h45:∀ w,Calls Tryz.prog 132 #[numV 4,numV 5] w fun e w'=>e=.returned (numV Y)∧Below w.heap.size w w') (w:World):Calls Tryz.prog 96 #[] w fun E w'=>E=.returned (ptV (rootN iV (sqR Y)) Y 1 (rootN iV (sqR Y)*Y%PN))∧Below w.heap.size w w':=by
 have HMIX:=Lib.hid (show Tryz.prog.follows .mixedOrders=true by kernel_rfl)
 go_enter Tryz.func96,Tryz.ntmps96
 have hM0:=Mem.start w
 (go_step;go_step;refine wp_region_lit ?_)
 refine wl_new hM0 (f:=fun b=>.pointer (some ⟨b,0,none⟩)) (ob:=.cells z16 39 (0,0)) (fun W=>run_alloc_of rfl (al_Pt W)) rfl fun b1 W1 hM1=>?_
 simp only[nm0,nm1,nm2,nm3]
 refine wpList_nil ?_
 (go_step;go_step;go_step;refine wp_region_lit ?_)
 refine wl_call hM1 (args:=#[.int .u64 4]) (v:=numV 4) (fun W=>run_call_fn W (enters_of Tryz.func34 rfl rfl) rfl (by simp[Act.eval])) (psmall_any_ 4 (by decide) W1) rfl fun W2 hM2=>?_
 simp only[nm0,nm1,nm2,nm3]
 refine wl_call hM2 (args:=#[.int .u64 5]) (v:=numV 5) (fun W=>run_call_fn W (enters_of Tryz.func34 rfl rfl) rfl (by simp[Act.eval])) (psmall_any_ 5 (by decide) W2) rfl fun W3 hM3=>?_
 simp only[nm0,nm1,nm2,nm3]
 refine wl_call hM3 (args:=#[numV 4,numV 5]) (v:=numV Y) (fun W=>run_call_fn W (enters_of Tryz.func132 rfl rfl) rfl (by simp[Act.eval])) (h45 W3) rfl fun W4 hM4=>?_
 simp only[nm0,nm1,nm2,nm3]
 refine wl_new hM4 (f:=fun b=>.pointer (some ⟨b,0,none⟩)) (ob:=.cells z4 36 (0,0)) (fun W=>run_alloc_of rfl (al_El W)) rfl fun b2 W5 hM5=>?_
 simp only[nm0,nm1,nm2,nm3]
 refine wl_set hM5 0 (cs:=(elR Y)) rfl rfl rfl rfl rowEl rfl (one_el Y) rfl rfl fun W6 hM6=>?_
 simp only[nm2,nm3] at hM6
 refine wpList_nil ?_
 (go_step;go_step;go_step;refine wp_region_lit ?_)
 refine wl_row hM6 0 (v:=numV Y) rfl rfl rfl rfl rowEl rfl ?_
 simp only[nm0,nm1,nm2,nm3]
 refine wl_row hM6 0 (v:=numV Y) rfl rfl rfl rfl rowEl rfl ?_
 simp only[nm0,nm1,nm2,nm3]
 refine wl_new hM6 (f:=fun b=>.slice (some ⟨b,0,none⟩) 2 2) (ob:=.cells (elR Y++elR Y) 36 (0,0)) (fun W=>run_slice_of rfl (by simp[Act.eval]) (bs2 Y Y W)) rfl fun b3 W7 hM7=>?_
 simp only[nm0,nm1,nm2,nm3]
 obtain⟨v1,ev1⟩:∃ x,x=Y*Y%PN:=⟨_,rfl⟩
 have pv1:v1<PN:=by rw[ev1];exact Nat.mod_lt _ PN_pos
 have Kv1:=mul_two' Y Y hY hY
 rw[← ev1] at Kv1
 refine wl_call hM7 (args:=#[.slice (some ⟨b3,0,none⟩) 2 2]) (v:=numV v1) (fun W=>run_call_fn W (enters_of Tryz.func76 rfl rfl) rfl (by simp[Act.eval])) (Kv1 b3 W7 (hM7.get 0 rfl)) rfl fun W8 hM8=>?_
 simp only[nm0,nm1,nm2,nm3]
 refine wl_new hM8 (f:=fun b=>.pointer (some ⟨b,0,none⟩)) (ob:=.cells z4 36 (0,0)) (fun W=>run_alloc_of rfl (al_El W)) rfl fun b4 W9 hM9=>?_
 simp only[nm0,nm1,nm2,nm3]
 refine wl_set hM9 0 (cs:=(elR v1)) rfl rfl rfl rfl rowEl rfl (one_el v1) rfl rfl fun W10 hM10=>?_
 simp only[nm2,nm3] at hM10
 refine wpList_nil ?_
 (go_step;go_step;go_step;refine wp_region_lit ?_)
 refine wl_call hM10 (args:=#[.int .u64 1]) (v:=numV 1) (fun W=>run_call_fn W (enters_of Tryz.func34 rfl rfl) rfl (by simp[Act.eval])) (psmall_any_ 1 (by decide) W10) rfl fun W11 hM11=>?_
 simp only[nm0,nm1,nm2,nm3]
 refine wl_new hM11 (f:=fun b=>.pointer (some ⟨b,0,none⟩)) (ob:=.cells z4 36 (0,0)) (fun W=>run_alloc_of rfl (al_El W)) rfl fun b5 W12 hM12=>?_
 simp only[nm0,nm1,nm2,nm3]
 refine wl_set hM12 0 (cs:=(elR 1)) rfl rfl rfl rfl rowEl rfl (one_el 1) rfl rfl fun W13 hM13=>?_
 simp only[nm2,nm3] at hM13
 refine wpList_nil ?_
 (go_step;go_step;go_step;refine wp_region_inz 16 14 rfl rfl (steady_extract rfl) (by kernel_rfl) (by decide) HMIX.out (by decide) (by kernel_rfl) (by kernel_rfl) ?_)
 refine inw_row hM13 1 (v:=numV v1) rfl rfl rfl rfl rowEl rfl rfl ?_;simp only[nm0,nm1,nm2,nm3]
 refine inw_row hM13 0 (v:=numV 1) rfl rfl rfl rfl rowEl rfl rfl ?_;simp only[nm0,nm1,nm2,nm3]
 obtain⟨v2,ev2⟩:∃ x,x=(v1+PN-1)%PN:=⟨_,rfl⟩
 have pv2:v2<PN:=by rw[ev2];exact Nat.mod_lt _ PN_pos
 have Kv2:=fun W=>psub_any v1 1 W pv1 (by decide +kernel)
 simp only[← ev2] at Kv2
 refine inw_callV (args:=#[numV v1,numV 1]) (v:=numV v2) (fun W=>run_call_fn W (enters_of Tryz.func80 rfl rfl) rfl (by simp[Act.eval])) (fun W _=>Kv2 W) rfl rfl ?_;simp only[nm0,nm1,nm2,nm3]
 refine inw_callV (args:=#[]) (v:=numV dN) (fun W=>run_call_fn W (enters_of Tryz.func78 rfl rfl) rfl (by simp[Act.eval])) (fun W _=>curD_any W) rfl rfl ?_;simp only[nm0,nm1,nm2,nm3]
 refine inw_row hM13 1 (v:=numV v1) rfl rfl rfl rfl rowEl rfl rfl ?_;simp only[nm0,nm1,nm2,nm3]
 refine inw_slice (n:=2) (L:=elR dN++elR v1) (T:=36) (fun W=>run_slice_of rfl (by simp[Act.eval]) (bs2 dN v1 W)) rfl rfl ?_;simp only[List.nil_append,List.cons_append]
 obtain⟨v3,ev3⟩:∃ x,x=dN*v1%PN:=⟨_,rfl⟩
 have pv3:v3<PN:=by rw[ev3];exact Nat.mod_lt _ PN_pos
 have Kv3:=mul_two' dN v1 d_is.2 pv1
 rw[← ev3] at Kv3
 refine inw_callS 5 20 (v:=numV v3) rfl rfl (fun _=>rfl) (fun b W=>run_call_fn W (enters_of Tryz.func76 rfl rfl) rfl (by simp[Act.eval,Act.put])) (fun b W h=>Kv3 b W h) ?_;simp only[nm0,nm1,nm2,nm3]
 refine inw_row hM13 0 (v:=numV 1) rfl rfl rfl rfl rowEl rfl rfl ?_;simp only[nm0,nm1,nm2,nm3]
 refine inw_slice (n:=2) (L:=elR v3++elR 1) (T:=36) (fun W=>run_slice_of rfl (by simp[Act.eval]) (bs2 v3 1 W)) rfl rfl ?_;simp only[List.nil_append,List.cons_append]
 obtain⟨v4,ev4⟩:∃ x,x=(v3+1)%PN:=⟨_,rfl⟩
 have pv4:v4<PN:=by rw[ev4];exact Nat.mod_lt _ PN_pos
 have Kv4:=add_two' v3 1 pv3 (by decide +kernel)
 rw[← ev4] at Kv4
 refine inw_callS 8 23 (v:=numV v4) rfl rfl (fun _=>rfl) (fun b W=>run_call_fn W (enters_of Tryz.func77 rfl rfl) rfl (by simp[Act.eval,Act.put])) (fun b W h=>Kv4 b W h) ?_;simp only[nm0,nm1,nm2,nm3]
 obtain⟨v5,ev5⟩:∃ x,x=v2*IV v4%PN:=⟨_,rfl⟩
 have pv5:v5<PN:=by rw[ev5];exact Nat.mod_lt _ PN_pos
 have Kv5:=fun W=>div_any' v2 v4 W pv2 pv4
 simp only[← ev5] at Kv5
 refine inw_callV (args:=#[numV v2,numV v4]) (v:=numV v5) (fun W=>run_call_fn W (enters_of Tryz.func132 rfl rfl) rfl (by simp[Act.eval])) (fun W _=>Kv5 W) rfl rfl ?_;simp only[nm0,nm1,nm2,nm3]
 obtain⟨v6,ev6⟩:∃ x,x=rootN iV v5:=⟨_,rfl⟩
 have pv6:v6<PN:=by rw[ev6];exact rootN_below _
 have Kv6:=fun W=>proot' v5 W pv5
 simp only[← ev6] at Kv6
 obtain⟨ok1,eok1⟩:∃ x,x=okN iV v5:=⟨_,rfl⟩
 simp only[← eok1] at Kv6
 refine inw_callV (args:=#[numV v5]) (v:=.tuple #[numV v6,.bool ok1]) (fun W=>run_call_fn W (enters_of Tryz.func79 rfl rfl) rfl (by simp[Act.eval])) (fun W _=>Kv6 W) rfl rfl ?_;simp only[nm0,nm1,nm2,nm3]
 refine inw_pure (v:=.tuple #[numV v6,.bool ok1]) (fun _=>rfl) rfl rfl ?_;simp only[nm0,nm1,nm2,nm3]
 refine inw_pure (v:=numV v6) (fun _=>rfl) rfl rfl ?_;simp only[nm0,nm1,nm2,nm3]
 refine inw_pure (v:=.bool ok1) (fun _=>rfl) rfl rfl ?_;simp only[nm0,nm1,nm2,nm3]
 refine inw_new (.cells z4 36 (0,0)) rfl rfl (fun A W=>run_alloc_of rfl (al_El W)) ?_;simp only[List.nil_append,List.cons_append]
 refine inw_fin fun d os=>?_
 refine given_mk (t:=20) rfl fun s5=>?_
 refine given_mk (t:=23) rfl fun s8=>?_
 refine given_new (t:=4) rfl fun b6 lb6 gb6=>?_
 refine given_nil fun hap=>?_
 simp only[nm0,nm1,nm2,nm3] at hap ⊢
 have hM14:=hM13.news1 (below_regrown W13 d os) lb6 gb6 
 clear hap lb6 gb6
 generalize grow (redrawn W13 d) os=W14 at hM14 ⊢
 change wpAny _ _ _ _ 2 _ _ _
 refine any_set (n:=16) (by kernel_rfl) rfl hM14 0 (cs:=(elR v6)) rfl rfl rfl rfl rowEl rfl (one_el v6) rfl rfl fun W15 hM15=>?_
 simp only[nm2,nm3] at hM15
 refine any_pure (n:=17) (v:=.bool ok1) (by kernel_rfl) rfl (fun _=>rfl) rfl rfl ?_
 simp only[nm0,nm1,nm2,nm3]
 refine wpAny_done (by kernel_rfl) ?_ _
 refine NoPanic.normal ?_
 (go_step;go_step;go_step;refine wp_region_lit ?_)
 refine wl_row hM15 0 (v:=numV v6) rfl rfl rfl rfl rowEl rfl ?_
 simp only[nm0,nm1,nm2,nm3]
 refine wl_row hM15 4 (v:=numV Y) rfl rfl rfl rfl rowEl rfl ?_
 simp only[nm0,nm1,nm2,nm3]
 obtain⟨v7,ev7⟩:∃ x,x=v6*Y%PN:=⟨_,rfl⟩
 have pv7:v7<PN:=by rw[ev7];exact Nat.mod_lt _ PN_pos
 have KA:=fun W=>at_any v6 Y W pv6 hY
 simp only[← ev7] at KA
 refine wl_call hM15 (args:=#[numV v6,numV Y]) (v:=ptV v6 Y 1 v7) (fun W=>run_call_fn W (enters_of Tryz.func73 rfl rfl) rfl (by simp[Act.eval])) (KA W15) rfl fun W16 hM16=>?_
 simp only[nm0,nm1,nm2,nm3]
 refine wl_set hM16 5 (cs:=((ptL v6 Y 1 v7).toArray)) rfl rfl rfl rfl rowPt rfl (one_pt v6 Y 1 v7) rfl rfl fun W17 hM17=>?_
 simp only[nm2,nm3] at hM17
 refine wpList_nil ?_
 (go_step;go_step;go_step;refine bodyPost_ret (v:=ptV v6 Y 1 v7) (results_arr Tryz.results96 rfl (hM17.load 5 rfl rowPt)) rfl ⟨?_,hM17.below⟩)
 exact by
  unfold sqR
  rw[ev7,ev6,ev5,ev4,ev3,ev2,ev1]
theorem base_any (w:World):Calls Tryz.prog 96 #[] w fun E w'=>E=.returned (ptV bX bY 1 (bX*bY%PN))∧Below w.heap.size w w':=by
 have h:=base_gen bY bY_lt div45 w
 rw[base_root.1] at h
 exact h
theorem one_z16:z16.all (·.oneCell')=true:=by simp[z16,Value.oneCell']
abbrev N3:=Nat × Nat × Nat
/-- The reference's Add, on three numbers each. -/
def add3 (a b:N3):N3:=(addX a.1 a.2.1 a.2.2 b.1 b.2.1 b.2.2,addY a.1 a.2.1 a.2.2 b.1 b.2.1 b.2.2,addZ a.1 a.2.1 a.2.2 b.1 b.2.1 b.2.2)
def In3 (a:N3):Prop:=a.1<PN∧a.2.1<PN∧a.2.2<PN
theorem in3_add (a b:N3):In3 (add3 a b):=⟨Nat.mod_lt _ PN_pos,Nat.mod_lt _ PN_pos,Nat.mod_lt _ PN_pos⟩
/-- What its first m rounds come to. -/
def tms (k:Nat) (q:N3):Nat→N3
 | 0=>(0,1,1)
 | m+1=>if k/2^(255-m)%2=1 then add3 (add3 (tms k q m) (tms k q m)) q else add3 (tms k q m) (tms k q m)
theorem in3_tms (k:Nat) (q:N3):∀ m,In3 (tms k q m)
 | 0=>by
   show In3 (0,1,1)
   exact⟨by decide +kernel,by decide +kernel,by decide +kernel⟩
 | m+1=>by
   unfold tms
   split
   ·exact in3_add _ _
   ·exact in3_add _ _
theorem rof' (k:Nat) (hk:k<B64^4) (w:World):Calls Tryz.prog 108 #[numV k] w fun e w'=>∃ g,e=.returned (.slice (some ⟨g,0,none⟩) 16 16)∧w'.heap[g]?=some (.cells (rowH (dg k) 16).toArray 22 (0,0))∧w.heap.size≤g∧Below w.heap.size w w' :=
 (rof_any k w hk).mono fun e w' ⟨g,h1,h2,h3,h4⟩=>⟨g,h1,h2.1,h3,h4⟩
theorem rbit' (k i:Nat) (n:Int) (bt:Nat) (hn:n=(i:Int)) (hb:k/2^i%2=bt) (hi:i≤100000) (hk:k<B64^4) (g:Nat) (W:World) (h:W.heap[g]?=some (.cells (rowH (dg k) 16).toArray 22 (0,0))) :
    Calls Tryz.prog 124 #[.slice (some ⟨g,0,none⟩) 16 16,.int .i64 n] W fun e w'=>e=.returned (.int .u64 (bt:Int))∧Below W.heap.size W w':=by
 have ho:OwnN W g 16 k:=⟨h,by have:B64^4=65536^16:=by decide +kernel
                              omega,by decide⟩
 have hc:=rbit_any (some ⟨g,0,none⟩) 16 16 k i W (ho.is 16 (Nat.le_refl _)) hi
 rw[hn,← hb]
 exact hc.mono fun e w' ⟨h1,h2⟩=>by
  subst h2
  exact⟨h1,Below.refl _ _⟩
theorem bin_geq_i (n:Int) (x y:Operand) (W:World):(do eqGuard .geq 3 x y (.int .i64 n) (.int .i64 0);binOp .geq 3 (.int .i64 n) (.int .i64 0):Sem Value).run Tryz.prog W=.ok (.bool (decide (0≤n))) W:=by
 go_simp
theorem bin_sub_i (n:Int) (x y:Operand) (W:World) (h0:0≤n) (h1:n≤1000000):(do eqGuard .sub 3 x y (.int .i64 n) (.int .i64 1);binOp .sub 3 (.int .i64 n) (.int .i64 1):Sem Value).run Tryz.prog W=.ok (.int .i64 (n-1)) W:=by
 have e:IntKind.i64.wrap (n-1)=n-1:=IntWalk.i64_in _ (by omega)
 go_simp
theorem bin_eql_u (n:Nat) (x y:Operand) (W:World):(do eqGuard .eql 22 x y (.int .u64 (n:Int)) (.int .u64 1);binOp .eql 22 (.int .u64 (n:Int)) (.int .u64 1):Sem Value).run Tryz.prog W=.ok (.bool (decide (n=1))) W:=by
 have e:((n:Int) == 1)=decide (n=1):=by
  by_cases h:n=1
  ·subst h;rfl
  ·rw[decide_eq_false h]
   exact beq_eq_false_iff_ne.2 (by omega)
 go_simp
theorem add3_any (a b:N3) (w:World) (ha:In3 a) (hb:In3 b):Calls Tryz.prog 116 #[rpV a.1 a.2.1 a.2.2,rpV b.1 b.2.1 b.2.2,numV dN] w fun E w'=>E=.returned (rpV (add3 a b).1 (add3 a b).2.1 (add3 a b).2.2)∧Below w.heap.size w w' :=
 rptadd_any _ _ _ _ _ _ ha.1 ha.2.1 ha.2.2 hb.1 hb.2.1 hb.2.2 w
set_option maxRecDepth 20000 in
set_option maxHeartbeats 8000000 in
theorem times_any (k:Nat) (q:N3) (w:World) (hk:k<B64^4) (iq:In3 q):Calls Tryz.prog 65 #[numV k,rpV q.1 q.2.1 q.2.2,numV dN] w fun E w'=>E=.returned (rpV (tms k q 256).1 (tms k q 256).2.1 (tms k q 256).2.2)∧Below w.heap.size w w':=by
 have HMIX:=Lib.hid (show Tryz.prog.follows .mixedOrders=true by kernel_rfl)
 go_enter Tryz.func65,Tryz.ntmps65
 have hM0:=Mem.start w
 (go_step;go_step;refine wp_region_lit ?_)
 refine wl_new hM0 (f:=fun b=>.pointer (some ⟨b,0,none⟩)) (ob:=.cells (elR k) 23 (0,0)) (fun W=>run_box_of rfl rfl (bx_Nu k W)) rfl fun b1 W1 hM1=>?_
 simp only[nm0,nm1,nm2,nm3]
 refine wl_new hM1 (f:=fun b=>.pointer (some ⟨b,0,none⟩)) (ob:=.cells ((rpL q.1 q.2.1 q.2.2).toArray) 55 (0,0)) (fun W=>run_box_of rfl rfl (bx_Rp _ _ _ W)) rfl fun b2 W2 hM2=>?_
 simp only[nm0,nm1,nm2,nm3]
 refine wl_new hM2 (f:=fun b=>.pointer (some ⟨b,0,none⟩)) (ob:=.cells (elR dN) 23 (0,0)) (fun W=>run_box_of rfl rfl (bx_Nu dN W)) rfl fun b3 W3 hM3=>?_
 simp only[nm0,nm1,nm2,nm3]
 refine wl_new hM3 (f:=fun b=>.pointer (some ⟨b,0,none⟩)) (ob:=.cells z12 55 (0,0)) (fun W=>run_alloc_of rfl (al_Rp W)) rfl fun b4 W4 hM4=>?_
 simp only[nm0,nm1,nm2,nm3]
 refine wpList_nil ?_
 (go_step;go_step;go_step;refine wp_region_lit ?_)
 refine wl_row hM4 3 (v:=numV k) rfl rfl rfl rfl rowNu rfl ?_
 simp only[nm0,nm1,nm2,nm3]
 refine wl_callN hM4 (args:=#[numV k]) (v:=fun b=>.slice (some ⟨b,0,none⟩) 16 16) (ob:=.cells ((rowH (dg k) 16).toArray) 22 (0,0)) (fun W=>run_call_fn W (enters_of Tryz.func108 rfl rfl) rfl (by simp[Act.eval])) (rof' k hk W4) rfl fun b5 W5 hM5=>?_
 simp only[nm0,nm1,nm2,nm3]
 refine wl_pure (v:=.slice (some ⟨b5,0,none⟩) 16 16) (fun _=>rfl) rfl ?_
 simp only[nm0,nm1,nm2,nm3]
 refine wpList_nil ?_
 (go_step;go_step;go_step;refine wp_region_lit ?_)
 refine wl_call hM5 (args:=#[]) (v:=rpV 0 1 1) (fun W=>run_call_fn W (enters_of Tryz.func112 rfl rfl) rfl (by simp[Act.eval])) (rzero_any W5) rfl fun W6 hM6=>?_
 simp only[nm0,nm1,nm2,nm3]
 refine wl_new hM6 (f:=fun b=>.pointer (some ⟨b,0,none⟩)) (ob:=.cells z12 55 (0,0)) (fun W=>run_alloc_of rfl (al_Rp W)) rfl fun b6 W7 hM7=>?_
 simp only[nm0,nm1,nm2,nm3]
 refine wl_set hM7 0 (cs:=((rpL 0 1 1).toArray)) rfl rfl rfl rfl rowRp rfl (one_rp _ _ _) rfl rfl fun W8 hM8=>?_
 simp only[nm2,nm3] at hM8
 refine wpList_nil ?_
 (go_step;go_step;go_step;go_step;refine wp_region_lit ?_)
 refine wl_pure (v:=.int .i64 255) (fun _=>rfl) rfl ?_
 simp only[nm0,nm1,nm2,nm3]
 refine wpList_nil ?_
 (go_step;go_step;go_step;go_loopw [9] (fun i wr=>∃ m:Nat,m≤256∧i=.int .i64 (255-(m:Int))∧Mem w [(b6,.cells ((rpL (tms k q m).1 (tms k q m).2.1 (tms k q m).2.2).toArray) 55 (0,0)),(b5,.cells ((rowH (dg k) 16).toArray) 22 (0,0)),(b4,.cells z12 55 (0,0)),(b3,.cells (elR dN) 23 (0,0)),(b2,.cells ((rpL q.1 q.2.1 q.2.2).toArray) 55 (0,0)),(b1,.cells (elR k) 23 (0,0))] wr) (fun i _=>(Go.RowKit.intOf i+1).toNat))
 case atStart=>exact⟨0,by omega,rfl,hM8⟩
 case round =>
  obtain⟨m,hm,rfl,hR⟩:=hrel
  clear hM1 hM2 hM3 hM4 hM5 hM6 hM7 hM8
  obtain⟨n,hn⟩:∃ n:Int,n=255-(m:Int):=⟨_,rfl⟩
  rw[← hn]
  obtain⟨a0,ea0⟩:∃ a,a=tms k q m:=⟨_,rfl⟩
  have ia0:In3 a0:=by rw[ea0];exact in3_tms k q m
  rw[← ea0] at hR
  (go_step;go_step;go_step;refine wp_region_lit ?_)
  refine wl_pure (v:=.int .i64 n) (fun _=>rfl) rfl ?_
  simp only[nm0,nm1,nm2,nm3]
  obtain⟨c1,hc1⟩:∃ x,x=decide (0≤n):=⟨_,rfl⟩
  refine wl_pure (v:=.bool c1) (fun W=>run_bin_of rfl rfl rfl (by rw[hc1];exact bin_geq_i n _ _ W)) rfl ?_
  simp only[nm0,nm1,nm2,nm3]
  refine wpList_nil ?_
  cases c1
  ·skip
   have hm6:m=256:=by
    have h9:=of_decide_eq_false hc1.symm
    omega
   subst hm6
   (go_step;go_step;go_step;go_step;go_step;go_step;go_step;go_step;go_step;refine wp_region_lit ?_)
   refine wl_row hR 0 (v:=rpV a0.1 a0.2.1 a0.2.2) rfl rfl rfl rfl rowRp rfl ?_
   simp only[nm0,nm1,nm2,nm3]
   refine wl_set hR 2 (cs:=((rpL a0.1 a0.2.1 a0.2.2).toArray)) rfl rfl rfl rfl rowRp rfl (one_rp _ _ _) rfl rfl fun W10 hM10=>?_
   simp only[nm2,nm3] at hM10
   refine wpList_nil ?_
   (go_step;go_step;go_step;refine bodyPost_ret (v:=rpV a0.1 a0.2.1 a0.2.2) (results_arr Tryz.results65 rfl (hM10.load 2 rfl rowRp)) rfl ⟨?_,hM10.below⟩)
   exact by rw[ea0]
  ·skip
   have hn0:0≤n:=of_decide_eq_true hc1.symm
   have hn1:n≤1000000:=by omega
   have hml:m<256:=by omega
   have hni:n=((255-m:Nat):Int):=by omega
   obtain⟨bt,hbt⟩:∃ x,k/2^(255-m)%2=x:=⟨_,rfl⟩
   (go_step;go_step;go_step;go_step;go_step;go_step;go_step;go_step;go_step;refine wp_region_lit ?_)
   refine wl_row hR 0 (v:=rpV a0.1 a0.2.1 a0.2.2) rfl rfl rfl rfl rowRp rfl ?_
   simp only[nm0,nm1,nm2,nm3]
   refine wl_row hR 0 (v:=rpV a0.1 a0.2.1 a0.2.2) rfl rfl rfl rfl rowRp rfl ?_
   simp only[nm0,nm1,nm2,nm3]
   refine wl_row hR 3 (v:=numV dN) rfl rfl rfl rfl rowNu rfl ?_
   simp only[nm0,nm1,nm2,nm3]
   obtain⟨a1,ea1⟩:∃ x,x=add3 a0 a0:=⟨_,rfl⟩
   have ia1:In3 a1:=by rw[ea1];exact in3_add _ _
   have Ka1:=fun W=>add3_any a0 a0 W ia0 ia0
   simp only[← ea1] at Ka1
   refine wl_call hR (args:=#[rpV a0.1 a0.2.1 a0.2.2,rpV a0.1 a0.2.1 a0.2.2,numV dN]) (v:=rpV a1.1 a1.2.1 a1.2.2) (fun W=>run_call_fn W (enters_of Tryz.func116 rfl rfl) rfl (by simp[Act.eval])) (Ka1 wr) rfl fun W10 hM10=>?_
   simp only[nm0,nm1,nm2,nm3]
   refine wl_set hM10 0 (cs:=((rpL a1.1 a1.2.1 a1.2.2).toArray)) rfl rfl rfl rfl rowRp rfl (one_rp _ _ _) rfl rfl fun W11 hM11=>?_
   simp only[nm2,nm3] at hM11
   refine wpList_nil ?_
   (go_step;go_step;go_step;refine wp_region_lit ?_)
   refine wl_pure (v:=.slice (some ⟨b5,0,none⟩) 16 16) (fun _=>rfl) rfl ?_
   simp only[nm0,nm1,nm2,nm3]
   refine wl_pure (v:=.int .i64 n) (fun _=>rfl) rfl ?_
   simp only[nm0,nm1,nm2,nm3]
   refine wl_call hM11 (args:=#[.slice (some ⟨b5,0,none⟩) 16 16,.int .i64 n]) (v:=.int .u64 (bt:Int)) (fun W=>run_call_fn W (enters_of Tryz.func124 rfl rfl) rfl (by simp[Act.eval])) (rbit' k (255-m) n bt hni hbt (by omega) hk b5 W11 (hM11.get 1 rfl)) rfl fun W12 hM12=>?_
   simp only[nm0,nm1,nm2,nm3]
   obtain⟨c2,hc2⟩:∃ x,x=decide (bt=1):=⟨_,rfl⟩
   refine wl_pure (v:=.bool c2) (fun W=>run_bin_of rfl rfl rfl (by rw[hc2];exact bin_eql_u bt _ _ W)) rfl ?_
   simp only[nm0,nm1,nm2,nm3]
   refine wpList_nil ?_
   cases c2
   ·skip
    have hb1:¬ bt=1:=of_decide_eq_false hc2.symm
    (go_step;go_step;go_step;go_step;go_step;go_step;refine wp_region_lit ?_)
    refine wl_pure (v:=.int .i64 n) (fun _=>rfl) rfl ?_
    simp only[nm0,nm1,nm2,nm3]
    refine wl_pure (v:=.int .i64 (n-1)) (fun W=>run_bin_of rfl rfl rfl (bin_sub_i n _ _ W hn0 hn1)) rfl ?_
    simp only[nm0,nm1,nm2,nm3]
    refine wl_pure (v:=.int .i64 (n-1)) (fun _=>rfl) rfl ?_
    simp only[nm0,nm1,nm2,nm3]
    refine wpList_nil ?_
    go_roundw
    case rel =>
     have hn2:n-1=255-((m+1:Nat):Int):=by omega
     refine⟨_,_,_,_,_,_,_,_,_,_,_,_,_,_,_,_,_,?_,rfl⟩
     refine⟨m+1,by omega,congrArg (Value.int .i64) hn2,?_⟩
     have ht:tms k q (m+1)=a1:=by
      unfold tms
      rw[hbt,if_neg hb1,← ea0,← ea1]
     rw[ht]
     exact hM12
    case measure=>simp[Go.RowKit.intOf];omega
   ·skip
    have hb1:bt=1:=of_decide_eq_true hc2.symm
    (go_step;go_step;go_step;refine wp_region_lit ?_)
    refine wl_row hM12 0 (v:=rpV a1.1 a1.2.1 a1.2.2) rfl rfl rfl rfl rowRp rfl ?_
    simp only[nm0,nm1,nm2,nm3]
    refine wl_row hM12 4 (v:=rpV q.1 q.2.1 q.2.2) rfl rfl rfl rfl rowRp rfl ?_
    simp only[nm0,nm1,nm2,nm3]
    refine wl_row hM12 3 (v:=numV dN) rfl rfl rfl rfl rowNu rfl ?_
    simp only[nm0,nm1,nm2,nm3]
    obtain⟨a2,ea2⟩:∃ x,x=add3 a1 q:=⟨_,rfl⟩
    have ia2:In3 a2:=by rw[ea2];exact in3_add _ _
    have Ka2:=fun W=>add3_any a1 q W ia1 iq
    simp only[← ea2] at Ka2
    refine wl_call hM12 (args:=#[rpV a1.1 a1.2.1 a1.2.2,rpV q.1 q.2.1 q.2.2,numV dN]) (v:=rpV a2.1 a2.2.1 a2.2.2) (fun W=>run_call_fn W (enters_of Tryz.func116 rfl rfl) rfl (by simp[Act.eval])) (Ka2 W12) rfl fun W13 hM13=>?_
    simp only[nm0,nm1,nm2,nm3]
    refine wl_set hM13 0 (cs:=((rpL a2.1 a2.2.1 a2.2.2).toArray)) rfl rfl rfl rfl rowRp rfl (one_rp _ _ _) rfl rfl fun W14 hM14=>?_
    simp only[nm2,nm3] at hM14
    refine wpList_nil ?_
    (go_step;go_step;refine wp_region_lit ?_)
    refine wl_pure (v:=.int .i64 n) (fun _=>rfl) rfl ?_
    simp only[nm0,nm1,nm2,nm3]
    refine wl_pure (v:=.int .i64 (n-1)) (fun W=>run_bin_of rfl rfl rfl (bin_sub_i n _ _ W hn0 hn1)) rfl ?_
    simp only[nm0,nm1,nm2,nm3]
    refine wl_pure (v:=.int .i64 (n-1)) (fun _=>rfl) rfl ?_
    simp only[nm0,nm1,nm2,nm3]
    refine wpList_nil ?_
    go_roundw
    case rel =>
     have hn2:n-1=255-((m+1:Nat):Int):=by omega
     refine⟨_,_,_,_,_,_,_,_,_,_,_,_,_,_,_,_,_,?_,rfl⟩
     refine⟨m+1,by omega,congrArg (Value.int .i64) hn2,?_⟩
     have ht:tms k q (m+1)=a2:=by
      unfold tms
      rw[hbt,if_pos hb1,← ea0,← ea1,← ea2]
     rw[ht]
     exact hM14
    case measure=>simp[Go.RowKit.intOf];omega
end Go.Proofs.YtnaldciakclccaaGreat
