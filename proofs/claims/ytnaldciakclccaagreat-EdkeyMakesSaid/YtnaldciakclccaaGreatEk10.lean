/- The curve's Same and Make (layer 20): their contracts. prime.Root (layer 19): its contract. The document's examples of layer 19. The reference's great, and its Mul from a place on (layer 19): contracts. -/
import Derived.Test.YtnaldciakclccaaGreatEk09
import Derived.Test.YtnaldciakclccaaGreatEk05
namespace Go.Proofs.YtnaldciakclccaaGreat
set_option maxRecDepth 20000
set_option linter.unusedSimpArgs false
set_option linter.unusedVariables false
open Go.RowKit Go.Sort
def sameB (X Y Z U V R:Nat):Bool:=decide (X*R%PN=U*Z%PN) && decide (Y*R%PN=V*Z%PN)
set_option maxRecDepth 20000 in
set_option maxHeartbeats 8000000 in
theorem same_any (X Y Z T U V R S:Nat) (hX:X<PN) (hY:Y<PN) (hZ:Z<PN) (hT:T<PN) (hU:U<PN) (hV:V<PN) (hR:R<PN) (hS:S<PN) (hzZ:0<Z) (hzR:0<R) (w:World):Calls Tryz.prog 84 #[ptV X Y Z T,ptV U V R S] w fun E w'=>E=.returned (.bool (sameB X Y Z U V R))∧Below w.heap.size w w':=by
 unfold sameB
 have HMIX:=Lib.hid (show Tryz.prog.follows .mixedOrders=true by kernel_rfl)
 go_enter Tryz.func84,Tryz.ntmps84
 have hM0:=Mem.start w
 (go_step;go_step;refine wp_region_lit ?_)
 refine wl_new hM0 (f:=fun b=>.pointer (some ⟨b,0,none⟩)) (ob:=.cells ((ptL X Y Z T).toArray) 39 (0,0)) (fun W=>run_box_of rfl rfl (bx_Pt X Y Z T W)) rfl fun b1 W1 hM1=>?_
 simp only[nm0,nm1,nm2,nm3]
 refine wl_new hM1 (f:=fun b=>.pointer (some ⟨b,0,none⟩)) (ob:=.cells ((ptL U V R S).toArray) 39 (0,0)) (fun W=>run_box_of rfl rfl (bx_Pt U V R S W)) rfl fun b2 W2 hM2=>?_
 simp only[nm0,nm1,nm2,nm3]
 refine wl_pure (v:=.bool false) (fun _=>rfl) rfl ?_
 simp only[nm0,nm1,nm2,nm3]
 refine wpList_nil ?_
 (go_step;go_step;go_step;refine wp_region_lit ?_)
 refine wl_row hM2 1 (v:=ptV X Y Z T) rfl rfl rfl rfl rowPt rfl ?_
 simp only[nm0,nm1,nm2,nm3]
 refine wl_call hM2 (args:=#[ptV X Y Z T]) (v:=.tuple #[numV X,numV Y,numV Z,numV T]) (fun W=>run_call_fn W (enters_of Tryz.func82 rfl rfl) rfl (by simp[Act.eval])) (numbers_any X Y Z T hX hY hZ hT hzZ W2) rfl fun W3 hM3=>?_
 simp only[nm0,nm1,nm2,nm3]
 refine wl_pure (v:=.tuple #[numV X,numV Y,numV Z,numV T]) (fun _=>rfl) rfl ?_
 simp only[nm0,nm1,nm2,nm3]
 refine wl_pure (v:=numV X) (fun _=>rfl) rfl ?_
 simp only[nm0,nm1,nm2,nm3]
 refine wl_pure (v:=numV Y) (fun _=>rfl) rfl ?_
 simp only[nm0,nm1,nm2,nm3]
 refine wl_pure (v:=numV Z) (fun _=>rfl) rfl ?_
 simp only[nm0,nm1,nm2,nm3]
 refine wl_pure (v:=numV T) (fun _=>rfl) rfl ?_
 simp only[nm0,nm1,nm2,nm3]
 refine wl_new hM3 (f:=fun b=>.pointer (some ⟨b,0,none⟩)) (ob:=.cells z4 36 (0,0)) (fun W=>run_alloc_of rfl (al_El W)) rfl fun b3 W4 hM4=>?_
 simp only[nm0,nm1,nm2,nm3]
 refine wl_new hM4 (f:=fun b=>.pointer (some ⟨b,0,none⟩)) (ob:=.cells z4 36 (0,0)) (fun W=>run_alloc_of rfl (al_El W)) rfl fun b4 W5 hM5=>?_
 simp only[nm0,nm1,nm2,nm3]
 refine wl_new hM5 (f:=fun b=>.pointer (some ⟨b,0,none⟩)) (ob:=.cells z4 36 (0,0)) (fun W=>run_alloc_of rfl (al_El W)) rfl fun b5 W6 hM6=>?_
 simp only[nm0,nm1,nm2,nm3]
 refine wl_new hM6 (f:=fun b=>.pointer (some ⟨b,0,none⟩)) (ob:=.cells z4 36 (0,0)) (fun W=>run_alloc_of rfl (al_El W)) rfl fun b6 W7 hM7=>?_
 simp only[nm0,nm1,nm2,nm3]
 refine wl_set hM7 3 (cs:=(elR X)) rfl rfl rfl rfl rowEl rfl (one_el X) rfl rfl fun W8 hM8=>?_
 simp only[nm2,nm3] at hM8
 refine wl_set hM8 2 (cs:=(elR Y)) rfl rfl rfl rfl rowEl rfl (one_el Y) rfl rfl fun W9 hM9=>?_
 simp only[nm2,nm3] at hM9
 refine wl_set hM9 1 (cs:=(elR Z)) rfl rfl rfl rfl rowEl rfl (one_el Z) rfl rfl fun W10 hM10=>?_
 simp only[nm2,nm3] at hM10
 refine wl_set hM10 0 (cs:=(elR T)) rfl rfl rfl rfl rowEl rfl (one_el T) rfl rfl fun W11 hM11=>?_
 simp only[nm2,nm3] at hM11
 refine wpList_nil ?_
 (go_step;go_step;go_step;refine wp_region_lit ?_)
 refine wl_row hM11 4 (v:=ptV U V R S) rfl rfl rfl rfl rowPt rfl ?_
 simp only[nm0,nm1,nm2,nm3]
 refine wl_call hM11 (args:=#[ptV U V R S]) (v:=.tuple #[numV U,numV V,numV R,numV S]) (fun W=>run_call_fn W (enters_of Tryz.func82 rfl rfl) rfl (by simp[Act.eval])) (numbers_any U V R S hU hV hR hS hzR W11) rfl fun W12 hM12=>?_
 simp only[nm0,nm1,nm2,nm3]
 refine wl_pure (v:=.tuple #[numV U,numV V,numV R,numV S]) (fun _=>rfl) rfl ?_
 simp only[nm0,nm1,nm2,nm3]
 refine wl_pure (v:=numV U) (fun _=>rfl) rfl ?_
 simp only[nm0,nm1,nm2,nm3]
 refine wl_pure (v:=numV V) (fun _=>rfl) rfl ?_
 simp only[nm0,nm1,nm2,nm3]
 refine wl_pure (v:=numV R) (fun _=>rfl) rfl ?_
 simp only[nm0,nm1,nm2,nm3]
 refine wl_pure (v:=numV S) (fun _=>rfl) rfl ?_
 simp only[nm0,nm1,nm2,nm3]
 refine wl_new hM12 (f:=fun b=>.pointer (some ⟨b,0,none⟩)) (ob:=.cells z4 36 (0,0)) (fun W=>run_alloc_of rfl (al_El W)) rfl fun b7 W13 hM13=>?_
 simp only[nm0,nm1,nm2,nm3]
 refine wl_new hM13 (f:=fun b=>.pointer (some ⟨b,0,none⟩)) (ob:=.cells z4 36 (0,0)) (fun W=>run_alloc_of rfl (al_El W)) rfl fun b8 W14 hM14=>?_
 simp only[nm0,nm1,nm2,nm3]
 refine wl_new hM14 (f:=fun b=>.pointer (some ⟨b,0,none⟩)) (ob:=.cells z4 36 (0,0)) (fun W=>run_alloc_of rfl (al_El W)) rfl fun b9 W15 hM15=>?_
 simp only[nm0,nm1,nm2,nm3]
 refine wl_new hM15 (f:=fun b=>.pointer (some ⟨b,0,none⟩)) (ob:=.cells z4 36 (0,0)) (fun W=>run_alloc_of rfl (al_El W)) rfl fun b10 W16 hM16=>?_
 simp only[nm0,nm1,nm2,nm3]
 refine wl_set hM16 3 (cs:=(elR U)) rfl rfl rfl rfl rowEl rfl (one_el U) rfl rfl fun W17 hM17=>?_
 simp only[nm2,nm3] at hM17
 refine wl_set hM17 2 (cs:=(elR V)) rfl rfl rfl rfl rowEl rfl (one_el V) rfl rfl fun W18 hM18=>?_
 simp only[nm2,nm3] at hM18
 refine wl_set hM18 1 (cs:=(elR R)) rfl rfl rfl rfl rowEl rfl (one_el R) rfl rfl fun W19 hM19=>?_
 simp only[nm2,nm3] at hM19
 refine wl_set hM19 0 (cs:=(elR S)) rfl rfl rfl rfl rowEl rfl (one_el S) rfl rfl fun W20 hM20=>?_
 simp only[nm2,nm3] at hM20
 refine wpList_nil ?_
 (go_step;go_step;go_step;refine wp_region_inw 21 HMIX.out (by decide) (by kernel_rfl) (by kernel_rfl) ?_)
 refine inw_row hM20 7 (v:=numV X) rfl rfl rfl rfl rowEl rfl rfl ?_;simp only[nm0,nm1,nm2,nm3]
 refine inw_row hM20 1 (v:=numV R) rfl rfl rfl rfl rowEl rfl rfl ?_;simp only[nm0,nm1,nm2,nm3]
 refine inw_slice (n:=2) (L:=elR X++elR R) (T:=36) (fun W=>run_slice_of rfl (by simp[Act.eval]) (bs2 X R W)) rfl rfl ?_;simp only[List.nil_append,List.cons_append]
 obtain⟨v1,ev1⟩:∃ x,x=X*R%PN:=⟨_,rfl⟩
 have pv1:v1<PN:=by rw[ev1];exact Nat.mod_lt _ PN_pos
 have Kv1:=mul_two' X R hX hR
 rw[← ev1] at Kv1
 refine inw_callS 2 29 (v:=numV v1) rfl rfl (fun _=>rfl) (fun b W=>run_call_fn W (enters_of Tryz.func76 rfl rfl) rfl (by simp[Act.eval,Act.put])) (fun b W h=>Kv1 b W h) ?_;simp only[nm0,nm1,nm2,nm3]
 refine inw_row hM20 3 (v:=numV U) rfl rfl rfl rfl rowEl rfl rfl ?_;simp only[nm0,nm1,nm2,nm3]
 refine inw_row hM20 5 (v:=numV Z) rfl rfl rfl rfl rowEl rfl rfl ?_;simp only[nm0,nm1,nm2,nm3]
 refine inw_slice (n:=2) (L:=elR U++elR Z) (T:=36) (fun W=>run_slice_of rfl (by simp[Act.eval]) (bs2 U Z W)) rfl rfl ?_;simp only[List.nil_append,List.cons_append]
 obtain⟨v2,ev2⟩:∃ x,x=U*Z%PN:=⟨_,rfl⟩
 have pv2:v2<PN:=by rw[ev2];exact Nat.mod_lt _ PN_pos
 have Kv2:=mul_two' U Z hU hZ
 rw[← ev2] at Kv2
 refine inw_callS 6 33 (v:=numV v2) rfl rfl (fun _=>rfl) (fun b W=>run_call_fn W (enters_of Tryz.func76 rfl rfl) rfl (by simp[Act.eval,Act.put])) (fun b W h=>Kv2 b W h) ?_;simp only[nm0,nm1,nm2,nm3]
 obtain⟨c1,hc1⟩:∃ x,x=decide (v1=v2):=⟨_,rfl⟩
 refine inw_pure (v:=.bool c1) (fun W=>run_bin_of rfl rfl rfl (by rw[hc1];exact bin_eql_el v1 v2 _ _ W (of_PN pv1) (of_PN pv2))) rfl rfl ?_;simp only[nm0,nm1,nm2,nm3]
 cases c1
 ·skip
  refine inw_pure (v:=.bool false) (fun _=>rfl) rfl rfl ?_;simp only[nm0,nm1,nm2,nm3]
  refine inw_skip rfl rfl ?_;simp only[nm0,nm1,nm2,nm3]
  refine inw_skip rfl rfl ?_;simp only[nm0,nm1,nm2,nm3]
  refine inw_skip rfl rfl ?_;simp only[nm0,nm1,nm2,nm3]
  refine inw_skip rfl rfl ?_;simp only[nm0,nm1,nm2,nm3]
  refine inw_skip rfl rfl ?_;simp only[nm0,nm1,nm2,nm3]
  refine inw_skip rfl rfl ?_;simp only[nm0,nm1,nm2,nm3]
  refine inw_skip rfl rfl ?_;simp only[nm0,nm1,nm2,nm3]
  refine inw_skip rfl rfl ?_;simp only[nm0,nm1,nm2,nm3]
  refine inw_skip rfl rfl ?_;simp only[nm0,nm1,nm2,nm3]
  refine inw_pure (v:=.bool false) (fun _=>rfl) rfl rfl ?_;simp only[nm0,nm1,nm2,nm3]
  refine inw_pure (v:=.bool false) (fun _=>rfl) rfl rfl ?_;simp only[nm0,nm1,nm2,nm3]
  refine inw_fin fun d os=>?_
  refine given_mk (t:=29) rfl fun s2=>?_
  refine given_mk (t:=33) rfl fun s6=>?_
  refine given_nil fun hap=>?_
  simp only[nm0,nm1,nm2,nm3] at hap ⊢
  have hM21:=hM20.calls (below_regrown W20 d os)
  clear hap 
  generalize grow (redrawn W20 d) os=W21 at hM21 ⊢
  refine wpAny_done (by kernel_rfl) ?_ _
  (go_step;go_step;go_step;refine bodyPost_ret (v:=.bool false) (results_slot Tryz.results84 rfl) rfl ⟨?_,hM21.below⟩)
  exact by subst ev2 ev1;rw[← hc1];simp
 ·skip
  refine inw_pure (v:=.bool true) (fun _=>rfl) rfl rfl ?_;simp only[nm0,nm1,nm2,nm3]
  refine inw_row hM20 6 (v:=numV Y) rfl rfl rfl rfl rowEl rfl rfl ?_;simp only[nm0,nm1,nm2,nm3]
  refine inw_row hM20 1 (v:=numV R) rfl rfl rfl rfl rowEl rfl rfl ?_;simp only[nm0,nm1,nm2,nm3]
  refine inw_slice (n:=2) (L:=elR Y++elR R) (T:=36) (fun W=>run_slice_of rfl (by simp[Act.eval]) (bs2 Y R W)) rfl rfl ?_;simp only[List.nil_append,List.cons_append]
  obtain⟨v3,ev3⟩:∃ x,x=Y*R%PN:=⟨_,rfl⟩
  have pv3:v3<PN:=by rw[ev3];exact Nat.mod_lt _ PN_pos
  have Kv3:=mul_two' Y R hY hR
  rw[← ev3] at Kv3
  refine inw_callS 12 39 (v:=numV v3) rfl rfl (fun _=>rfl) (fun b W=>run_call_fn W (enters_of Tryz.func76 rfl rfl) rfl (by simp[Act.eval,Act.put])) (fun b W h=>Kv3 b W h) ?_;simp only[nm0,nm1,nm2,nm3]
  refine inw_row hM20 2 (v:=numV V) rfl rfl rfl rfl rowEl rfl rfl ?_;simp only[nm0,nm1,nm2,nm3]
  refine inw_row hM20 5 (v:=numV Z) rfl rfl rfl rfl rowEl rfl rfl ?_;simp only[nm0,nm1,nm2,nm3]
  refine inw_slice (n:=2) (L:=elR V++elR Z) (T:=36) (fun W=>run_slice_of rfl (by simp[Act.eval]) (bs2 V Z W)) rfl rfl ?_;simp only[List.nil_append,List.cons_append]
  obtain⟨v4,ev4⟩:∃ x,x=V*Z%PN:=⟨_,rfl⟩
  have pv4:v4<PN:=by rw[ev4];exact Nat.mod_lt _ PN_pos
  have Kv4:=mul_two' V Z hV hZ
  rw[← ev4] at Kv4
  refine inw_callS 16 43 (v:=numV v4) rfl rfl (fun _=>rfl) (fun b W=>run_call_fn W (enters_of Tryz.func76 rfl rfl) rfl (by simp[Act.eval,Act.put])) (fun b W h=>Kv4 b W h) ?_;simp only[nm0,nm1,nm2,nm3]
  obtain⟨c2,hc2⟩:∃ x,x=decide (v3=v4):=⟨_,rfl⟩
  refine inw_pure (v:=.bool c2) (fun W=>run_bin_of rfl rfl rfl (by rw[hc2];exact bin_eql_el v3 v4 _ _ W (of_PN pv3) (of_PN pv4))) rfl rfl ?_;simp only[nm0,nm1,nm2,nm3]
  refine inw_pure (v:=.bool c2) (fun _=>rfl) rfl rfl ?_;simp only[nm0,nm1,nm2,nm3]
  refine inw_pure (v:=.bool c2) (fun _=>rfl) rfl rfl ?_;simp only[nm0,nm1,nm2,nm3]
  refine inw_fin fun d os=>?_
  refine given_mk (t:=29) rfl fun s2=>?_
  refine given_mk (t:=33) rfl fun s6=>?_
  refine given_mk (t:=39) rfl fun s12=>?_
  refine given_mk (t:=43) rfl fun s16=>?_
  refine given_nil fun hap=>?_
  simp only[nm0,nm1,nm2,nm3] at hap ⊢
  have hM21:=hM20.calls (below_regrown W20 d os)
  clear hap 
  generalize grow (redrawn W20 d) os=W21 at hM21 ⊢
  refine wpAny_done (by kernel_rfl) ?_ _
  (go_step;go_step;go_step;refine bodyPost_ret (v:=.bool c2) (results_slot Tryz.results84 rfl) rfl ⟨?_,hM21.below⟩)
  exact by subst ev4 ev3 ev2 ev1;rw[← hc1,← hc2];simp
/-- What Make looks at. -/
def makeB (X Y:Nat):Bool:=decide (121666*((Y*Y%PN+PN-X*X%PN)%PN)%PN=(121666+PN-121665*(X*X%PN)%PN*(Y*Y%PN)%PN)%PN)
def makeR (X Y:Nat):Value:=bif makeB X Y then .tuple #[ptV X Y 1 (X*Y%PN),.int .i64 0] else .tuple #[ptV 0 1 1 0,.int .i64 22]
set_option maxRecDepth 20000 in
set_option maxHeartbeats 8000000 in
theorem make_any (X Y:Nat) (hX:X<PN) (hY:Y<PN) (w:World):Calls Tryz.prog 33 #[numV X,numV Y] w fun E w'=>E=.returned (makeR X Y)∧Below w.heap.size w w':=by
 have HMIX:=Lib.hid (show Tryz.prog.follows .mixedOrders=true by kernel_rfl)
 go_enter Tryz.func33,Tryz.ntmps33
 have hM0:=Mem.start w
 (go_step;go_step;refine wp_region_lit ?_)
 refine wl_new hM0 (f:=fun b=>.pointer (some ⟨b,0,none⟩)) (ob:=.cells (elR X) 36 (0,0)) (fun W=>run_box_of rfl rfl (bx_El X W)) rfl fun b1 W1 hM1=>?_
 simp only[nm0,nm1,nm2,nm3]
 refine wl_new hM1 (f:=fun b=>.pointer (some ⟨b,0,none⟩)) (ob:=.cells (elR Y) 36 (0,0)) (fun W=>run_box_of rfl rfl (bx_El Y W)) rfl fun b2 W2 hM2=>?_
 simp only[nm0,nm1,nm2,nm3]
 refine wl_new hM2 (f:=fun b=>.pointer (some ⟨b,0,none⟩)) (ob:=.cells z16 39 (0,0)) (fun W=>run_alloc_of rfl (al_Pt W)) rfl fun b3 W3 hM3=>?_
 simp only[nm0,nm1,nm2,nm3]
 refine wl_pure (v:=.int .i64 0) (fun _=>rfl) rfl ?_
 simp only[nm0,nm1,nm2,nm3]
 refine wpList_nil ?_
 (go_step;go_step;go_step;refine wp_region_inw 10 HMIX.out (by decide) (by kernel_rfl) (by kernel_rfl) ?_)
 refine inw_row hM3 2 (v:=numV X) rfl rfl rfl rfl rowEl rfl rfl ?_;simp only[nm0,nm1,nm2,nm3]
 refine inw_row hM3 2 (v:=numV X) rfl rfl rfl rfl rowEl rfl rfl ?_;simp only[nm0,nm1,nm2,nm3]
 refine inw_slice (n:=2) (L:=elR X++elR X) (T:=36) (fun W=>run_slice_of rfl (by simp[Act.eval]) (bs2 X X W)) rfl rfl ?_;simp only[List.nil_append,List.cons_append]
 obtain⟨v1,ev1⟩:∃ x,x=X*X%PN:=⟨_,rfl⟩
 have pv1:v1<PN:=by rw[ev1];exact Nat.mod_lt _ PN_pos
 have Kv1:=mul_two' X X hX hX
 rw[← ev1] at Kv1
 refine inw_callS 2 12 (v:=numV v1) rfl rfl (fun _=>rfl) (fun b W=>run_call_fn W (enters_of Tryz.func76 rfl rfl) rfl (by simp[Act.eval,Act.put])) (fun b W h=>Kv1 b W h) ?_;simp only[nm0,nm1,nm2,nm3]
 refine inw_row hM3 1 (v:=numV Y) rfl rfl rfl rfl rowEl rfl rfl ?_;simp only[nm0,nm1,nm2,nm3]
 refine inw_row hM3 1 (v:=numV Y) rfl rfl rfl rfl rowEl rfl rfl ?_;simp only[nm0,nm1,nm2,nm3]
 refine inw_slice (n:=2) (L:=elR Y++elR Y) (T:=36) (fun W=>run_slice_of rfl (by simp[Act.eval]) (bs2 Y Y W)) rfl rfl ?_;simp only[List.nil_append,List.cons_append]
 obtain⟨v2,ev2⟩:∃ x,x=Y*Y%PN:=⟨_,rfl⟩
 have pv2:v2<PN:=by rw[ev2];exact Nat.mod_lt _ PN_pos
 have Kv2:=mul_two' Y Y hY hY
 rw[← ev2] at Kv2
 refine inw_callS 6 16 (v:=numV v2) rfl rfl (fun _=>rfl) (fun b W=>run_call_fn W (enters_of Tryz.func76 rfl rfl) rfl (by simp[Act.eval,Act.put])) (fun b W h=>Kv2 b W h) ?_;simp only[nm0,nm1,nm2,nm3]
 refine inw_new (.cells z4 36 (0,0)) rfl rfl (fun A W=>run_alloc_of rfl (al_El W)) ?_;simp only[List.nil_append,List.cons_append]
 refine inw_new (.cells z4 36 (0,0)) rfl rfl (fun A W=>run_alloc_of rfl (al_El W)) ?_;simp only[List.nil_append,List.cons_append]
 refine inw_fin fun d os=>?_
 refine given_mk (t:=12) rfl fun s2=>?_
 refine given_mk (t:=16) rfl fun s6=>?_
 refine given_new (t:=6) rfl fun b4 lb4 gb4=>?_
 refine given_new (t:=7) rfl fun b5 lb5 gb5=>?_
 refine given_nil fun hap=>?_
 simp only[nm0,nm1,nm2,nm3] at hap ⊢
 have nb4b5:b4≠b5:=hap.ne 8 9 rfl rfl rfl rfl rfl rfl rfl
 have hM4:=hM3.news2 (below_regrown W3 d os) lb4 gb4 lb5 gb5 nb4b5
 clear hap lb4 gb4 lb5 gb5 nb4b5
 generalize grow (redrawn W3 d) os=W4 at hM4 ⊢
 change wpAny _ _ _ _ 2 _ _ _
 refine any_set (n:=10) (by kernel_rfl) rfl hM4 0 (cs:=(elR v1)) rfl rfl rfl rfl rowEl rfl (one_el v1) rfl rfl fun W5 hM5=>?_
 simp only[nm2,nm3] at hM5
 refine any_set (n:=11) (by kernel_rfl) rfl hM5 1 (cs:=(elR v2)) rfl rfl rfl rfl rowEl rfl (one_el v2) rfl rfl fun W6 hM6=>?_
 simp only[nm2,nm3] at hM6
 refine wpAny_done (by kernel_rfl) ?_ _
 (go_step;go_step;go_step;refine wp_region_inw 7 HMIX.out (by decide) (by kernel_rfl) (by kernel_rfl) ?_)
 refine inw_callV (args:=#[.int .u64 121666]) (v:=numV 121666) (fun W=>run_call_fn W (enters_of Tryz.func34 rfl rfl) rfl (by simp[Act.eval])) (fun W _=>psmall_any_ 121666 (by decide) W) rfl rfl ?_;simp only[nm0,nm1,nm2,nm3]
 refine inw_row hM6 1 (v:=numV v2) rfl rfl rfl rfl rowEl rfl rfl ?_;simp only[nm0,nm1,nm2,nm3]
 refine inw_row hM6 0 (v:=numV v1) rfl rfl rfl rfl rowEl rfl rfl ?_;simp only[nm0,nm1,nm2,nm3]
 obtain⟨v3,ev3⟩:∃ x,x=(v2+PN-v1)%PN:=⟨_,rfl⟩
 have pv3:v3<PN:=by rw[ev3];exact Nat.mod_lt _ PN_pos
 have Kv3:=fun W=>psub_any v2 v1 W pv2 pv1
 simp only[← ev3] at Kv3
 refine inw_callV (args:=#[numV v2,numV v1]) (v:=numV v3) (fun W=>run_call_fn W (enters_of Tryz.func80 rfl rfl) rfl (by simp[Act.eval])) (fun W _=>Kv3 W) rfl rfl ?_;simp only[nm0,nm1,nm2,nm3]
 refine inw_slice (n:=2) (L:=elR 121666++elR v3) (T:=36) (fun W=>run_slice_of rfl (by simp[Act.eval]) (bs2 121666 v3 W)) rfl rfl ?_;simp only[List.nil_append,List.cons_append]
 obtain⟨v4,ev4⟩:∃ x,x=121666*v3%PN:=⟨_,rfl⟩
 have pv4:v4<PN:=by rw[ev4];exact Nat.mod_lt _ PN_pos
 have Kv4:=mul_two' 121666 v3 (by decide +kernel) pv3
 rw[← ev4] at Kv4
 refine inw_callS 4 22 (v:=numV v4) rfl rfl (fun _=>rfl) (fun b W=>run_call_fn W (enters_of Tryz.func76 rfl rfl) rfl (by simp[Act.eval,Act.put])) (fun b W h=>Kv4 b W h) ?_;simp only[nm0,nm1,nm2,nm3]
 refine inw_new (.cells z4 36 (0,0)) rfl rfl (fun A W=>run_alloc_of rfl (al_El W)) ?_;simp only[List.nil_append,List.cons_append]
 refine inw_fin fun d os=>?_
 refine given_mk (t:=22) rfl fun s4=>?_
 refine given_new (t:=8) rfl fun b6 lb6 gb6=>?_
 refine given_nil fun hap=>?_
 simp only[nm0,nm1,nm2,nm3] at hap ⊢
 have hM7:=hM6.news1 (below_regrown W6 d os) lb6 gb6 
 clear hap lb6 gb6
 generalize grow (redrawn W6 d) os=W7 at hM7 ⊢
 change wpAny _ _ _ _ 1 _ _ _
 refine any_set (n:=7) (by kernel_rfl) rfl hM7 0 (cs:=(elR v4)) rfl rfl rfl rfl rowEl rfl (one_el v4) rfl rfl fun W8 hM8=>?_
 simp only[nm2,nm3] at hM8
 refine wpAny_done (by kernel_rfl) ?_ _
 (go_step;go_step;go_step;refine wp_region_inw 8 HMIX.out (by decide) (by kernel_rfl) (by kernel_rfl) ?_)
 refine inw_callV (args:=#[.int .u64 121666]) (v:=numV 121666) (fun W=>run_call_fn W (enters_of Tryz.func34 rfl rfl) rfl (by simp[Act.eval])) (fun W _=>psmall_any_ 121666 (by decide) W) rfl rfl ?_;simp only[nm0,nm1,nm2,nm3]
 refine inw_callV (args:=#[.int .u64 121665]) (v:=numV 121665) (fun W=>run_call_fn W (enters_of Tryz.func34 rfl rfl) rfl (by simp[Act.eval])) (fun W _=>psmall_any_ 121665 (by decide) W) rfl rfl ?_;simp only[nm0,nm1,nm2,nm3]
 refine inw_row hM8 1 (v:=numV v1) rfl rfl rfl rfl rowEl rfl rfl ?_;simp only[nm0,nm1,nm2,nm3]
 refine inw_row hM8 2 (v:=numV v2) rfl rfl rfl rfl rowEl rfl rfl ?_;simp only[nm0,nm1,nm2,nm3]
 refine inw_slice (n:=3) (L:=elR 121665++elR v1++elR v2) (T:=36) (fun W=>run_slice_of rfl (by simp[Act.eval]) (bs3 121665 v1 v2 W)) rfl rfl ?_;simp only[List.nil_append,List.cons_append]
 obtain⟨v5,ev5⟩:∃ x,x=121665*v1%PN*v2%PN:=⟨_,rfl⟩
 have pv5:v5<PN:=by rw[ev5];exact Nat.mod_lt _ PN_pos
 have Kv5:=mul_three 121665 v1 v2 (by decide +kernel) pv1 pv2
 rw[← ev5] at Kv5
 refine inw_callS 4 28 (v:=numV v5) rfl rfl (fun _=>rfl) (fun b W=>run_call_fn W (enters_of Tryz.func76 rfl rfl) rfl (by simp[Act.eval,Act.put])) (fun b W h=>Kv5 b W h) ?_;simp only[nm0,nm1,nm2,nm3]
 obtain⟨v6,ev6⟩:∃ x,x=(121666+PN-v5)%PN:=⟨_,rfl⟩
 have pv6:v6<PN:=by rw[ev6];exact Nat.mod_lt _ PN_pos
 have Kv6:=fun W=>psub_any 121666 v5 W (by decide +kernel) pv5
 simp only[← ev6] at Kv6
 refine inw_callV (args:=#[numV 121666,numV v5]) (v:=numV v6) (fun W=>run_call_fn W (enters_of Tryz.func80 rfl rfl) rfl (by simp[Act.eval])) (fun W _=>Kv6 W) rfl rfl ?_;simp only[nm0,nm1,nm2,nm3]
 refine inw_new (.cells z4 36 (0,0)) rfl rfl (fun A W=>run_alloc_of rfl (al_El W)) ?_;simp only[List.nil_append,List.cons_append]
 refine inw_fin fun d os=>?_
 refine given_mk (t:=28) rfl fun s4=>?_
 refine given_new (t:=9) rfl fun b7 lb7 gb7=>?_
 refine given_nil fun hap=>?_
 simp only[nm0,nm1,nm2,nm3] at hap ⊢
 have hM9:=hM8.news1 (below_regrown W8 d os) lb7 gb7 
 clear hap lb7 gb7
 generalize grow (redrawn W8 d) os=W9 at hM9 ⊢
 change wpAny _ _ _ _ 1 _ _ _
 refine any_set (n:=8) (by kernel_rfl) rfl hM9 0 (cs:=(elR v6)) rfl rfl rfl rfl rowEl rfl (one_el v6) rfl rfl fun W10 hM10=>?_
 simp only[nm2,nm3] at hM10
 refine wpAny_done (by kernel_rfl) ?_ _
 (go_step;go_step;go_step;go_step;refine wp_region_lit ?_)
 refine wl_row hM10 1 (v:=numV v4) rfl rfl rfl rfl rowEl rfl ?_
 simp only[nm0,nm1,nm2,nm3]
 refine wl_row hM10 0 (v:=numV v6) rfl rfl rfl rfl rowEl rfl ?_
 simp only[nm0,nm1,nm2,nm3]
 obtain⟨c1,hc1⟩:∃ x,x=!decide (v4=v6):=⟨_,rfl⟩
 refine wl_pure (v:=.bool c1) (fun W=>run_bin_of rfl rfl rfl (by rw[hc1];exact bin_neq_el v4 v6 _ _ W (of_PN pv4) (of_PN pv6))) rfl ?_
 simp only[nm0,nm1,nm2,nm3]
 refine wpList_nil ?_
 cases c1
 ·skip
  (go_step;go_step;go_step;go_step;go_step;go_step;go_step;refine wp_region_lit ?_)
  refine wl_row hM10 6 (v:=numV X) rfl rfl rfl rfl rowEl rfl ?_
  simp only[nm0,nm1,nm2,nm3]
  refine wl_row hM10 5 (v:=numV Y) rfl rfl rfl rfl rowEl rfl ?_
  simp only[nm0,nm1,nm2,nm3]
  obtain⟨v7,ev7⟩:∃ x,x=X*Y%PN:=⟨_,rfl⟩
  have pv7:v7<PN:=by rw[ev7];exact Nat.mod_lt _ PN_pos
  have KA:=fun W=>at_any X Y W hX hY
  simp only[← ev7] at KA
  refine wl_call hM10 (args:=#[numV X,numV Y]) (v:=ptV X Y 1 v7) (fun W=>run_call_fn W (enters_of Tryz.func73 rfl rfl) rfl (by simp[Act.eval])) (KA W10) rfl fun W11 hM11=>?_
  simp only[nm0,nm1,nm2,nm3]
  refine wl_set hM11 4 (cs:=((ptL X Y 1 v7).toArray)) rfl rfl rfl rfl rowPt rfl (one_pt X Y 1 v7) rfl rfl fun W12 hM12=>?_
  simp only[nm2,nm3] at hM12
  refine wl_pure (v:=.int .i64 0) (fun _=>rfl) rfl ?_
  simp only[nm0,nm1,nm2,nm3]
  refine wpList_nil ?_
  (go_step;go_step;go_step;refine bodyPost_ret (v:=.tuple #[ptV X Y 1 v7,.int .i64 0]) (results_arr_tmp Tryz.results33 rfl rfl (hM12.load 4 rfl rowPt)) rfl ⟨?_,hM12.below⟩)
  exact by subst ev7 ev6 ev5 ev4 ev3 ev2 ev1;rw[makeR,show makeB X Y=true from (Bool.not_eq_false' _).mp hc1.symm];rfl
 ·skip
  (go_step;go_step;go_step;go_step;refine wp_region_lit ?_)
  refine wl_call hM10 (args:=#[]) (v:=ptV 0 1 1 0) (fun W=>run_call_fn W (enters_of Tryz.func27 rfl rfl) rfl (by simp[Act.eval])) (zero_any W10) rfl fun W11 hM11=>?_
  simp only[nm0,nm1,nm2,nm3]
  refine wl_set hM11 4 (cs:=((ptL 0 1 1 0).toArray)) rfl rfl rfl rfl rowPt rfl (one_pt 0 1 1 0) rfl rfl fun W12 hM12=>?_
  simp only[nm2,nm3] at hM12
  refine wl_pure (v:=.int .i64 22) (fun _=>rfl) rfl ?_
  simp only[nm0,nm1,nm2,nm3]
  refine wpList_nil ?_
  (go_step;go_step;go_step;go_step;refine bodyPost_ret (v:=.tuple #[ptV 0 1 1 0,.int .i64 22]) (results_arr_tmp Tryz.results33 rfl rfl (hM12.load 4 rfl rowPt)) rfl ⟨?_,hM12.below⟩)
  exact by subst ev6 ev5 ev4 ev3 ev2 ev1;rw[makeR,show makeB X Y=false from (Bool.not_eq_true' _).mp hc1.symm];rfl
open Go.RowKit
abbrev C8 (w:World) (b n c m:Nat):Prop:=w.cell? ⟨b,0,none⟩=some (.int .u64 (wd n 0:Int))∧w.cell? ⟨b,1,none⟩=some (.int .u64 (wd n 1:Int))∧w.cell? ⟨b,2,none⟩=some (.int .u64 (wd n 2:Int))∧w.cell? ⟨b,3,none⟩=some (.int .u64 (wd n 3:Int))∧w.cell? ⟨c,0,none⟩=some (.int .u64 (wd m 0:Int))∧w.cell? ⟨c,1,none⟩=some (.int .u64 (wd m 1:Int))∧w.cell? ⟨c,2,none⟩=some (.int .u64 (wd m 2:Int))∧w.cell? ⟨c,3,none⟩=some (.int .u64 (wd m 3:Int))
theorem C8.of {w:World} {b n c m:Nat} (h:C4 w b n) (g:C4 w c m):C8 w b n c m:=⟨h.1,h.2.1,h.2.2.1,h.2.2.2,g⟩
theorem C8.left {w:World} {b n c m:Nat} (h:C8 w b n c m):C4 w b n:=⟨h.1,h.2.1,h.2.2.1,h.2.2.2.1⟩
theorem C8.right {w:World} {b n c m:Nat} (h:C8 w b n c m):C4 w c m:=h.2.2.2.2
theorem C8.calls {w w':World} {b n c m N:Nat} (hb:Below N w w') (h:C8 w b n c m) (hN:w.heap.size≤N):C8 w' b n c m:=C8.of (C4.calls hb h.left hN) (C4.calls hb h.right hN)
theorem C8.alloc {w:World} {b n c m:Nat} (h:C8 w b n c m) (o:Obj):C8 (w.alloc o) b n c m:=C8.of (h.left.alloc o) (h.right.alloc o)
theorem C8.drew {w:World} {b n c m:Nat} (h:C8 w b n c m):C8 w.drew b n c m:=h
def P3:Nat:=(PN+3)/8
def P4:Nat:=(PN-1)/4
theorem P3_B:P3<B64^4:=by decide +kernel
theorem P4_B:P4<B64^4:=by decide +kernel
theorem num_P3:numV P3=.agg #[.int .u64 18446744073709551614,.int .u64 18446744073709551615,.int .u64 18446744073709551615,.int .u64 1152921504606846975]:=by
 unfold numV
 rw[show wd P3 0=18446744073709551614 by decide +kernel,show wd P3 1=18446744073709551615 by decide +kernel,show wd P3 2=18446744073709551615 by decide +kernel,show wd P3 3=1152921504606846975 by decide +kernel]
 rfl
theorem num_P4:numV P4=.agg #[.int .u64 18446744073709551611,.int .u64 18446744073709551615,.int .u64 18446744073709551615,.int .u64 2305843009213693951]:=by
 unfold numV
 rw[show wd P4 0=18446744073709551611 by decide +kernel,show wd P4 1=18446744073709551615 by decide +kernel,show wd P4 2=18446744073709551615 by decide +kernel,show wd P4 3=2305843009213693951 by decide +kernel]
 rfl
def r0N (a:Nat):Nat:=a^P3%PN
theorem powmod_lt (g k:Nat):g^k%PN<PN:=Nat.mod_lt _ PN_pos
/-- With i, a root of -1. -/
def r1N (i a:Nat):Nat:=if r0N a*r0N a%PN=a then r0N a else r0N a*i%PN
def okN (i a:Nat):Bool:=decide (r1N i a*r1N i a%PN=a)
def rootN (i a:Nat):Nat:=if r1N i a*r1N i a%PN=a then (if r1N i a%2=1 then (0+PN-r1N i a)%PN else r1N i a) else 0
theorem r0N_lt (a:Nat):r0N a<PN:=Nat.mod_lt _ PN_pos
theorem r1N_lt (i a:Nat):r1N i a<PN:=by
 unfold r1N
 split
 ·exact r0N_lt a
 ·exact Nat.mod_lt _ PN_pos
set_option maxHeartbeats 8000000 in
theorem proot_any (i:Nat) (hi:i<PN) (KI:∀ w,Calls Tryz.prog 133 #[numV 2,numV P4] w fun e w'=>e=.returned (numV i)∧Below w.heap.size w w') (a:Nat) (w:World) (ha:a<PN):Calls Tryz.prog 79 #[numV a] w fun e w'=>e=.returned (.tuple #[numV (rootN i a),.bool (okN i a)])∧Below w.heap.size w w':=by
 have K3:=Lib.hid (fun w=>ppow_any a P3 w ha P3_B)
 rw[num_P3,show a^P3%PN=r0N a from rfl] at K3
 have hr0:=r0N_lt a
 obtain⟨xa,xr,xz,xB⟩:=a2_at a 36 36 w
 have H1:Hid (r1N i a=if r0N a*r0N a%PN=a then r0N a else r0N a*i%PN):=rfl
 have hr1:=r1N_lt i a
 obtain⟨r0,hr⟩:∃ r0,r0N a=r0:=⟨_,rfl⟩
 rw[hr] at K3 hr0 H1
 obtain⟨r1,hq⟩:∃ r1,r1N i a=r1:=⟨_,rfl⟩
 rw[hq] at H1 hr1
 have HR1:=Lib.hid hq
 have KMM:=Lib.hid mul_two
 have KI:=Lib.hid KI
 rw[num_P4] at KI
 have KS:=Lib.hid (fun w=>psmall_any 2 w (by decide))
 obtain⟨c2,hc2⟩:∃ c2,c2=2:=⟨2,rfl⟩
 have KS:Hid (∀ w,Calls Tryz.prog 34 #[.int .u64 2] w fun e w'=>e=.returned (numV c2)∧Below w.heap.size w w'):=fun w=>by rw[hc2];exact KS.out w
 rw[← hc2] at KI
 clear hc2
 simp only[numV_agg] at K3 KMM KI KS ⊢
 obtain⟨⟨p0,p1,p2,p3⟩,_⟩:=fourV xa
 have HLT:=Lib.hid (And.intro ha (And.intro hr0 (And.intro hr1 hi)))
 clear hr hq ha hr0 hr1 hi
 go_enter Tryz.func79,Tryz.ntmps79
 go_wp2_with fail
 change Calls _ _ _ (A2 a 36 36 w) _
 generalize A2 a 36 36 w=X at *
 refine (K3.out X).mono ?_
 rintro e w1 ⟨rfl,hb1⟩
 have hs1:w.heap.size+2≤w1.heap.size:=by have:=hb1.size;omega
 have XA:=Lib.hid ((xa.keep hb1).alloc (.cells #[.int .u64 (wd r0 0:Int),.int .u64 (wd r0 1:Int),.int .u64 (wd r0 2:Int),.int .u64 (wd r0 3:Int)] 36))
 have XR:=Lib.hid ((xr.keep hb1).alloc (.cells #[.int .u64 (wd r0 0:Int),.int .u64 (wd r0 1:Int),.int .u64 (wd r0 2:Int),.int .u64 (wd r0 3:Int)] 36))
 have XB:=Lib.hid (b_alloc (b_calls hb1 xB (by omega)) (.cells #[.int .u64 (wd r0 0:Int),.int .u64 (wd r0 1:Int),.int .u64 (wd r0 2:Int),.int .u64 (wd r0 3:Int)] 36))
 have XO:Hid (IsA (w1.alloc (.cells #[.int .u64 (wd r0 0:Int),.int .u64 (wd r0 1:Int),.int .u64 (wd r0 2:Int),.int .u64 (wd r0 3:Int)] 36)) w1.heap.size r0 36):=(alloc_new w1 _ :)
 have hY1:(w1.alloc (.cells #[.int .u64 (wd r0 0:Int),.int .u64 (wd r0 1:Int),.int .u64 (wd r0 2:Int),.int .u64 (wd r0 3:Int)] 36)).heap.size=w1.heap.size+1:=alloc_size1 _ _
 have hYs:w1.heap.size+1≤(w1.alloc (.cells #[.int .u64 (wd r0 0:Int),.int .u64 (wd r0 1:Int),.int .u64 (wd r0 2:Int),.int .u64 (wd r0 3:Int)] 36)).heap.size:=by rw[hY1];omega
 clear xa xr xB hb1 xz hY1 p0 p1 p2 p3
 go_wp2_with fail
 generalize w1.alloc (.cells #[.int .u64 (wd r0 0:Int),.int .u64 (wd r0 1:Int),.int .u64 (wd r0 2:Int),.int .u64 (wd r0 3:Int)] 36)=Y at *
 generalize w1.heap.size=go at *
 have hq0:r0*r0%PN<PN:=Nat.mod_lt _ PN_pos
 have KQ:=Lib.hid (KMM.out r0 r0 HLT.out.2.1 HLT.out.2.1)
 obtain⟨q0,hq0'⟩:∃ q0,r0*r0%PN=q0:=⟨_,rfl⟩
 rw[hq0'] at KQ H1 hq0
 have kq:=fun w=>eql_el q0 a w (of_PN hq0) (of_PN HLT.out.1)
 have hC:C8 Y go r0 w.heap.size a:=C8.of (cells4 XO.out) (cells4 XA.out)
 have hCd:C8 Y.drew go r0 w.heap.size a:=hC
 clear hq0 hq0'
 go_region_held3 (fun w'=>w'.cell? ⟨go,0,none⟩=some (.int .u64 (wd r0 0:Int))∧w'.cell? ⟨go,1,none⟩=some (.int .u64 (wd r0 1:Int))∧w'.cell? ⟨go,2,none⟩=some (.int .u64 (wd r0 2:Int))∧w'.cell? ⟨go,3,none⟩=some (.int .u64 (wd r0 3:Int))∧w'.cell? ⟨w.heap.size,0,none⟩=some (.int .u64 (wd a 0:Int))∧w'.cell? ⟨w.heap.size,1,none⟩=some (.int .u64 (wd a 1:Int))∧w'.cell? ⟨w.heap.size,2,none⟩=some (.int .u64 (wd a 2:Int))∧w'.cell? ⟨w.heap.size,3,none⟩=some (.int .u64 (wd a 3:Int))) (first | (with_reducible exact hCd) | (focus ((repeat (first | (with_reducible assumption) | (with_reducible apply C8.alloc) | (with_reducible apply C8.drew) | (with_reducible apply C8.calls) | exact Nat.le_refl _ | omega | (simp;done)));done))) (first
  | (go_at_call 76;(refine (KQ.out _ _ ?_).mono ?_);(focus ((first | exact alloc_new _ _ | exact drew_keep (alloc_new _ _));done));rintro e w3 ⟨rfl,hb3⟩))
 rename_i hH
 clear hH hC hCd
 have hs3:Y.heap.size+1≤w3.heap.size:=by have:=hb3.size;rw[World.size_drew,alloc_size1] at this;exact this
 have ro3:=isA_calls hb3 (XO.out.alloc _).drew (Nat.le_refl _)
 have ra3:=isA_calls hb3 (XA.out.alloc _).drew (Nat.le_refl _)
 have rr3:=isA_calls hb3 (XR.out.alloc _).drew (Nat.le_refl _)
 have rb3:=b_calls hb3 (b_drew (b_alloc XB.out _)) (by rw[World.size_drew,alloc_size1];omega)
 clear hb3 kq XO XA XR XB
 by_cases h0:q0=a
 ·rw[decide_eq_true h0]
  have hr1:=H1.out
  rw[if_pos h0] at hr1
  subst hr1
  have RO:=Lib.hid ro3
  have RA:=Lib.hid ra3
  have RR:=Lib.hid rr3
  have RB:=Lib.hid rb3
  have hU:go<w3.heap.size:=by omega
  clear ro3 ra3 rr3 rb3 h0 H1
  go_wp2_with fail
  generalize w3=U at *
  have HQR:=Lib.hid (show r1*r1%PN=r1*r1%PN from rfl)
  have hq1:r1*r1%PN<PN:=Nat.mod_lt _ PN_pos
  have KQ1:=Lib.hid (KMM.out r1 r1 HLT.out.2.2.1 HLT.out.2.2.1)
  obtain⟨q1,hq1'⟩:∃ q1,r1*r1%PN=q1:=⟨_,rfl⟩
  have HQ1:=Lib.hid hq1'
  rw[hq1'] at KQ1 hq1
  have kq:=fun w=>eql_el q1 a w (of_PN hq1) (of_PN HLT.out.1)
  have hC:C8 U go r1 w.heap.size a:=C8.of (cells4 RO.out) (cells4 RA.out)
  have hCd:C8 U.drew go r1 w.heap.size a:=hC
  clear hq1 hq1'
  go_region_held3 (fun w'=>w'.cell? ⟨go,0,none⟩=some (.int .u64 (wd r1 0:Int))∧w'.cell? ⟨go,1,none⟩=some (.int .u64 (wd r1 1:Int))∧w'.cell? ⟨go,2,none⟩=some (.int .u64 (wd r1 2:Int))∧w'.cell? ⟨go,3,none⟩=some (.int .u64 (wd r1 3:Int))∧w'.cell? ⟨w.heap.size,0,none⟩=some (.int .u64 (wd a 0:Int))∧w'.cell? ⟨w.heap.size,1,none⟩=some (.int .u64 (wd a 1:Int))∧w'.cell? ⟨w.heap.size,2,none⟩=some (.int .u64 (wd a 2:Int))∧w'.cell? ⟨w.heap.size,3,none⟩=some (.int .u64 (wd a 3:Int))) (first | (with_reducible exact hCd) | (focus ((repeat (first | (with_reducible assumption) | (with_reducible apply C8.alloc) | (with_reducible apply C8.drew) | (with_reducible apply C8.calls) | exact Nat.le_refl _ | omega | (simp;done)));done))) (first
   | (go_at_call 76;(refine (KQ1.out _ _ ?_).mono ?_);(focus ((first | exact alloc_new _ _ | exact drew_keep (alloc_new _ _));done));rintro e w6 ⟨rfl,hb6⟩))
  rename_i hH
  clear hH hC hCd
  have hs6:U.heap.size+1≤w6.heap.size:=by have:=hb6.size;rw[World.size_drew,alloc_size1] at this;exact this
  have ro6:=isA_calls hb6 (RO.out.alloc _).drew (Nat.le_refl _)
  have ra6:=isA_calls hb6 (RA.out.alloc _).drew (Nat.le_refl _)
  have rr6:=isA_zero' (isA_calls hb6 (RR.out.alloc _).drew (Nat.le_refl _))
  have rb6:=b_calls hb6 (b_drew (b_alloc RB.out _)) (by rw[World.size_drew,alloc_size1];omega)
  clear hb6 kq
  by_cases h1:q1=a
  ·rw[decide_eq_true h1]
   have KO:=Lib.hid (fun w=>podd_any r1 w)
   have KN:=Lib.hid (fun w=>pneg_any r1 w HLT.out.2.2.1)
   simp only[numV_agg] at KO KN
   obtain⟨⟨s0,s1,s2,s3⟩,_⟩:=fourV ro6
   have RO6:=Lib.hid ro6
   have RR6:=Lib.hid rr6
   have RB6:=Lib.hid rb6
   have H1T:=Lib.hid h1
   clear ro6 ra6 rr6 rb6 h1 RO RA RR RB
   go_wp2_with fail
   refine (KO.out _).mono ?_
   rintro e w7 ⟨rfl,hb7⟩
   have hs7:=hb7.size
   have ro7:=RO6.out.keep hb7
   have rr7:=keep RR6.out hb7
   have rb7:=b_calls hb7 RB6.out (by omega)
   clear RO6 RR6 RB6 hb7 s0 s1 s2 s3
   by_cases h2:r1%2=1
   ·rw[decide_eq_true h2]
    have hR:rootN i a=(0+PN-r1)%PN:=by
     unfold rootN
     rw[HR1.out,HQ1.out,if_pos H1T.out,if_pos h2]
    have hO:okN i a=true:=by
     unfold okN
     rw[HR1.out,HQ1.out]
     exact decide_eq_true H1T.out
    obtain⟨R,hRR⟩:∃ R,(0+PN-r1)%PN=R:=⟨_,rfl⟩
    rw[hRR] at KN hR
    have HRT:=Lib.hid (And.intro hR hO)
    obtain⟨⟨s0,s1,s2,s3⟩,_⟩:=fourV ro7
    have RO7:=Lib.hid ro7
    have RR7:=Lib.hid rr7
    have RB7:=Lib.hid rb7
    clear h2 hR hO hRR ro7 rr7 rb7
    go_wp2_with fail
    refine (KN.out _).mono ?_
    rintro e w8 ⟨rfl,hb8⟩
    have hs8:=hb8.size
    have ro8:=RO7.out.keep hb8
    have rr8:=keep RR7.out hb8
    obtain⟨⟨d0,d1,d2,d3⟩,e0,e1,e2,e3⟩:=fourV ro8
    obtain⟨⟨c0,c1,c2,c3⟩,f0,f1,f2,f3⟩:=fourV rr8
    have hne1:go≠w.heap.size+1:=by omega
    have hne2:w.heap.size+1≠go:=by omega
    have KL:=Lib.hid (load_el (isA_set (n:=R) (far_keep (b:=go) (v0:=.int .u64 (wd R 0:Int)) (v1:=.int .u64 (wd R 1:Int)) (v2:=.int .u64 (wd R 2:Int)) (v3:=.int .u64 (wd R 3:Int)) rr8 hne2)))
    have BR:=Lib.hid (b_set4 (b_set4 (b_calls hb8 RB7.out (by omega)) (v0:=.int .u64 (wd R 0:Int)) (v1:=.int .u64 (wd R 1:Int)) (v2:=.int .u64 (wd R 2:Int)) (v3:=.int .u64 (wd R 3:Int)) (b:=go) (by omega)) (v0:=.int .u64 (wd R 0:Int)) (v1:=.int .u64 (wd R 1:Int)) (v2:=.int .u64 (wd R 2:Int)) (v3:=.int .u64 (wd R 3:Int)) (b:=w.heap.size+1) (by omega))
    clear RO7 RR7 RB7 hb8 ro8 rr8 s0 s1 s2 s3
    go_wp2_with fail
    exact bodyPost_ret (results_arr_tmp Tryz.results79 (by rfl) (by rfl) KL.out) rfl ⟨by rw[HRT.out.1,HRT.out.2];rfl,BR.out⟩
   ·rw[decide_eq_false h2]
    have hR:rootN i a=r1:=by
     unfold rootN
     rw[HR1.out,HQ1.out,if_pos H1T.out,if_neg h2]
    have hO:okN i a=true:=by
     unfold okN
     rw[HR1.out,HQ1.out]
     exact decide_eq_true H1T.out
    have HRT:=Lib.hid (And.intro hR hO)
    obtain⟨⟨s0,s1,s2,s3⟩,_⟩:=fourV ro7
    obtain⟨⟨d0,d1,d2,d3⟩,e0,e1,e2,e3⟩:=fourV rr7
    have KL:=Lib.hid (load_el (isA_set (n:=r1) rr7))
    have BR:=Lib.hid (b_set4 rb7 (v0:=.int .u64 (wd r1 0:Int)) (v1:=.int .u64 (wd r1 1:Int)) (v2:=.int .u64 (wd r1 2:Int)) (v3:=.int .u64 (wd r1 3:Int)) (b:=w.heap.size+1) (by omega))
    clear h2 hR hO ro7 rr7 rb7
    go_wp2_with fail
    exact bodyPost_ret (results_arr_tmp Tryz.results79 (by rfl) (by rfl) KL.out) rfl ⟨by rw[HRT.out.1,HRT.out.2];rfl,BR.out⟩
  ·rw[decide_eq_false h1]
   have hR:rootN i a=0:=by
    unfold rootN
    rw[HR1.out,HQ1.out,if_neg h1]
   have hO:okN i a=false:=by
    unfold okN
    rw[HR1.out,HQ1.out]
    exact decide_eq_false h1
   have HRT:=Lib.hid (And.intro hR hO)
   obtain⟨⟨d0,d1,d2,d3⟩,e0,e1,e2,e3⟩:=fourV rr6
   have KL:=Lib.hid (load_el (isA_zero (set4_row (v0:=.int .u64 0) (v1:=.int .u64 0) (v2:=.int .u64 0) (v3:=.int .u64 0) rr6)))
   have BR:=Lib.hid (b_set4 rb6 (v0:=.int .u64 0) (v1:=.int .u64 0) (v2:=.int .u64 0) (v3:=.int .u64 0) (b:=w.heap.size+1) (by omega))
   clear h1 hR hO ro6 ra6 rr6 rb6 RO RA RR RB
   go_wp2_with fail
   exact bodyPost_ret (results_arr_tmp Tryz.results79 (by rfl) (by rfl) KL.out) rfl ⟨by rw[HRT.out.1,HRT.out.2];rfl,BR.out⟩
 ·rw[decide_eq_false h0]
  have hr1:=H1.out
  rw[if_neg h0] at hr1
  have KR:=Lib.hid (KMM.out r0 i HLT.out.2.1 HLT.out.2.2.2)
  rw[← hr1] at KR
  obtain⟨⟨p0,p1,p2,p3⟩,g0,g1,g2,g3⟩:=fourV ro3
  have RO:=Lib.hid ro3
  have RA:=Lib.hid ra3
  have RR:=Lib.hid rr3
  have RB:=Lib.hid rb3
  clear ro3 ra3 rr3 rb3 h0 H1 hr1
  go_wp2_with fail
  go_cut [] (fun wc=>IsA wc go r1 36∧IsA wc w.heap.size a 36∧IsA wc (w.heap.size+1) 0 36∧Below w.heap.size w wc∧go<wc.heap.size)
  case first =>
   go_region_law (first
    | (go_simp;go_at_call 34;go_must (refine (KS.out _).mono ?_);rintro e w4 ⟨rfl,hb4⟩
       have ro4:=isA_calls hb4 RO.out.drew (Nat.le_refl _)
       obtain⟨⟨k0,k1,k2,k3⟩,f0,f1,f2,f3⟩:=fourV ro4)
    | (go_simp;go_at_call 133;go_must (refine (KI.out _).mono ?_);rintro e w5 ⟨rfl,hb5⟩
       have ro5:=isA_calls hb5 ro4 (Nat.le_refl _)
       obtain⟨⟨m0,m1,m2,m3⟩,h0,h1,h2,h3⟩:=fourV ro5)
    | (go_simp;go_at_call 76;(refine (KR.out _ _ ?_).mono ?_);(focus ((first | exact alloc_new _ _ | exact drew_keep (alloc_new _ _));done));rintro e w6 ⟨rfl,hb6⟩
       have ro6:=isA_calls hb6 (ro5.alloc _) (Nat.le_refl _)
       obtain⟨⟨n0,n1,n2,n3⟩,o0,o1,o2,o3⟩:=fourV ro6))
   all_goals
    have hz4:w3.heap.size≤w4.heap.size:=hb4.size
    have hz5:=hb5.size
    have hz6:w5.heap.size+1≤w6.heap.size:=by have:=hb6.size;rw[alloc_size1] at this;exact this
    have RO':=Lib.hid (isA_set (n:=r1) ro6)
    have RA':=Lib.hid ((isA_calls hb6 ((isA_calls hb5 (isA_calls hb4 RA.out.drew (Nat.le_refl _)) (Nat.le_refl _)).alloc _) (Nat.le_refl _)).far (c:=go) (v0:=.int .u64 (wd r1 0:Int)) (v1:=.int .u64 (wd r1 1:Int)) (v2:=.int .u64 (wd r1 2:Int)) (v3:=.int .u64 (wd r1 3:Int)) (by omega))
    have RR':=Lib.hid ((isA_calls hb6 ((isA_calls hb5 (isA_calls hb4 RR.out.drew (Nat.le_refl _)) (Nat.le_refl _)).alloc _) (Nat.le_refl _)).far (c:=go) (v0:=.int .u64 (wd r1 0:Int)) (v1:=.int .u64 (wd r1 1:Int)) (v2:=.int .u64 (wd r1 2:Int)) (v3:=.int .u64 (wd r1 3:Int)) (by omega))
    have RB':=Lib.hid (b_set4 (b_calls hb6 (b_alloc (b_calls hb5 (b_calls hb4 (b_drew RB.out) (by rw[World.size_drew];omega)) (by omega)) _) (by rw[alloc_size1];omega)) (v0:=.int .u64 (wd r1 0:Int)) (v1:=.int .u64 (wd r1 1:Int)) (v2:=.int .u64 (wd r1 2:Int)) (v3:=.int .u64 (wd r1 3:Int)) (b:=go) (by omega))
    have hU:go<((((w6.setCell ⟨go,0,none⟩ (.int .u64 (wd r1 0:Int))).setCell ⟨go,1,none⟩ (.int .u64 (wd r1 1:Int))).setCell ⟨go,2,none⟩ (.int .u64 (wd r1 2:Int))).setCell ⟨go,3,none⟩ (.int .u64 (wd r1 3:Int))).heap.size:=by simp only[set_size];omega
    go_wp2_with fail
    go_meet
    case rel=>exact⟨RO'.out,RA'.out,RR'.out,RB'.out,hU⟩
  case rest =>
   clear RO RA RR RB p0 p1 p2 p3 g0 g1 g2 g3 KS KI KR
   obtain⟨ro,ra,rr,rb,hU⟩:=hcut
   have RO:=Lib.hid ro
   have RA:=Lib.hid ra
   have RR:=Lib.hid rr
   have RB:=Lib.hid rb
   clear ro ra rr rb
   go_wp2_with fail
   generalize wc=U at *
   have HQR:=Lib.hid (show r1*r1%PN=r1*r1%PN from rfl)
   have hq1:r1*r1%PN<PN:=Nat.mod_lt _ PN_pos
   have KQ1:=Lib.hid (KMM.out r1 r1 HLT.out.2.2.1 HLT.out.2.2.1)
   obtain⟨q1,hq1'⟩:∃ q1,r1*r1%PN=q1:=⟨_,rfl⟩
   have HQ1:=Lib.hid hq1'
   rw[hq1'] at KQ1 hq1
   have kq:=fun w=>eql_el q1 a w (of_PN hq1) (of_PN HLT.out.1)
   have hC:C8 U go r1 w.heap.size a:=C8.of (cells4 RO.out) (cells4 RA.out)
   have hCd:C8 U.drew go r1 w.heap.size a:=hC
   clear hq1 hq1'
   go_region_held3 (fun w'=>w'.cell? ⟨go,0,none⟩=some (.int .u64 (wd r1 0:Int))∧w'.cell? ⟨go,1,none⟩=some (.int .u64 (wd r1 1:Int))∧w'.cell? ⟨go,2,none⟩=some (.int .u64 (wd r1 2:Int))∧w'.cell? ⟨go,3,none⟩=some (.int .u64 (wd r1 3:Int))∧w'.cell? ⟨w.heap.size,0,none⟩=some (.int .u64 (wd a 0:Int))∧w'.cell? ⟨w.heap.size,1,none⟩=some (.int .u64 (wd a 1:Int))∧w'.cell? ⟨w.heap.size,2,none⟩=some (.int .u64 (wd a 2:Int))∧w'.cell? ⟨w.heap.size,3,none⟩=some (.int .u64 (wd a 3:Int))) (first | (with_reducible exact hCd) | (focus ((repeat (first | (with_reducible assumption) | (with_reducible apply C8.alloc) | (with_reducible apply C8.drew) | (with_reducible apply C8.calls) | exact Nat.le_refl _ | omega | (simp;done)));done))) (first
    | (go_at_call 76;(refine (KQ1.out _ _ ?_).mono ?_);(focus ((first | exact alloc_new _ _ | exact drew_keep (alloc_new _ _));done));rintro e w6 ⟨rfl,hb6⟩))
   rename_i hH
   clear hH hC hCd
   have hs6:U.heap.size+1≤w6.heap.size:=by have:=hb6.size;rw[World.size_drew,alloc_size1] at this;exact this
   have ro6:=isA_calls hb6 (RO.out.alloc _).drew (Nat.le_refl _)
   have ra6:=isA_calls hb6 (RA.out.alloc _).drew (Nat.le_refl _)
   have rr6:=isA_zero' (isA_calls hb6 (RR.out.alloc _).drew (Nat.le_refl _))
   have rb6:=b_calls hb6 (b_drew (b_alloc RB.out _)) (by rw[World.size_drew,alloc_size1];omega)
   clear hb6 kq
   by_cases h1:q1=a
   ·rw[decide_eq_true h1]
    have KO:=Lib.hid (fun w=>podd_any r1 w)
    have KN:=Lib.hid (fun w=>pneg_any r1 w HLT.out.2.2.1)
    simp only[numV_agg] at KO KN
    obtain⟨⟨s0,s1,s2,s3⟩,_⟩:=fourV ro6
    have RO6:=Lib.hid ro6
    have RR6:=Lib.hid rr6
    have RB6:=Lib.hid rb6
    have H1T:=Lib.hid h1
    clear ro6 ra6 rr6 rb6 h1 RO RA RR RB
    go_wp2_with fail
    refine (KO.out _).mono ?_
    rintro e w7 ⟨rfl,hb7⟩
    have hs7:=hb7.size
    have ro7:=RO6.out.keep hb7
    have rr7:=keep RR6.out hb7
    have rb7:=b_calls hb7 RB6.out (by omega)
    clear RO6 RR6 RB6 hb7 s0 s1 s2 s3
    by_cases h2:r1%2=1
    ·rw[decide_eq_true h2]
     have hR:rootN i a=(0+PN-r1)%PN:=by
      unfold rootN
      rw[HR1.out,HQ1.out,if_pos H1T.out,if_pos h2]
     have hO:okN i a=true:=by
      unfold okN
      rw[HR1.out,HQ1.out]
      exact decide_eq_true H1T.out
     obtain⟨R,hRR⟩:∃ R,(0+PN-r1)%PN=R:=⟨_,rfl⟩
     rw[hRR] at KN hR
     have HRT:=Lib.hid (And.intro hR hO)
     obtain⟨⟨s0,s1,s2,s3⟩,_⟩:=fourV ro7
     have RO7:=Lib.hid ro7
     have RR7:=Lib.hid rr7
     have RB7:=Lib.hid rb7
     clear h2 hR hO hRR ro7 rr7 rb7
     go_wp2_with fail
     refine (KN.out _).mono ?_
     rintro e w8 ⟨rfl,hb8⟩
     have hs8:=hb8.size
     have ro8:=RO7.out.keep hb8
     have rr8:=keep RR7.out hb8
     obtain⟨⟨d0,d1,d2,d3⟩,e0,e1,e2,e3⟩:=fourV ro8
     obtain⟨⟨c0,c1,c2,c3⟩,f0,f1,f2,f3⟩:=fourV rr8
     have hne1:go≠w.heap.size+1:=by omega
     have hne2:w.heap.size+1≠go:=by omega
     have KL:=Lib.hid (load_el (isA_set (n:=R) (far_keep (b:=go) (v0:=.int .u64 (wd R 0:Int)) (v1:=.int .u64 (wd R 1:Int)) (v2:=.int .u64 (wd R 2:Int)) (v3:=.int .u64 (wd R 3:Int)) rr8 hne2)))
     have BR:=Lib.hid (b_set4 (b_set4 (b_calls hb8 RB7.out (by omega)) (v0:=.int .u64 (wd R 0:Int)) (v1:=.int .u64 (wd R 1:Int)) (v2:=.int .u64 (wd R 2:Int)) (v3:=.int .u64 (wd R 3:Int)) (b:=go) (by omega)) (v0:=.int .u64 (wd R 0:Int)) (v1:=.int .u64 (wd R 1:Int)) (v2:=.int .u64 (wd R 2:Int)) (v3:=.int .u64 (wd R 3:Int)) (b:=w.heap.size+1) (by omega))
     clear RO7 RR7 RB7 hb8 ro8 rr8 s0 s1 s2 s3
     go_wp2_with fail
     exact bodyPost_ret (results_arr_tmp Tryz.results79 (by rfl) (by rfl) KL.out) rfl ⟨by rw[HRT.out.1,HRT.out.2];rfl,BR.out⟩
    ·rw[decide_eq_false h2]
     have hR:rootN i a=r1:=by
      unfold rootN
      rw[HR1.out,HQ1.out,if_pos H1T.out,if_neg h2]
     have hO:okN i a=true:=by
      unfold okN
      rw[HR1.out,HQ1.out]
      exact decide_eq_true H1T.out
     have HRT:=Lib.hid (And.intro hR hO)
     obtain⟨⟨s0,s1,s2,s3⟩,_⟩:=fourV ro7
     obtain⟨⟨d0,d1,d2,d3⟩,e0,e1,e2,e3⟩:=fourV rr7
     have KL:=Lib.hid (load_el (isA_set (n:=r1) rr7))
     have BR:=Lib.hid (b_set4 rb7 (v0:=.int .u64 (wd r1 0:Int)) (v1:=.int .u64 (wd r1 1:Int)) (v2:=.int .u64 (wd r1 2:Int)) (v3:=.int .u64 (wd r1 3:Int)) (b:=w.heap.size+1) (by omega))
     clear h2 hR hO ro7 rr7 rb7
     go_wp2_with fail
     exact bodyPost_ret (results_arr_tmp Tryz.results79 (by rfl) (by rfl) KL.out) rfl ⟨by rw[HRT.out.1,HRT.out.2];rfl,BR.out⟩
   ·rw[decide_eq_false h1]
    have hR:rootN i a=0:=by
     unfold rootN
     rw[HR1.out,HQ1.out,if_neg h1]
    have hO:okN i a=false:=by
     unfold okN
     rw[HR1.out,HQ1.out]
     exact decide_eq_false h1
    have HRT:=Lib.hid (And.intro hR hO)
    obtain⟨⟨d0,d1,d2,d3⟩,e0,e1,e2,e3⟩:=fourV rr6
    have KL:=Lib.hid (load_el (isA_zero (set4_row (v0:=.int .u64 0) (v1:=.int .u64 0) (v2:=.int .u64 0) (v3:=.int .u64 0) rr6)))
    have BR:=Lib.hid (b_set4 rb6 (v0:=.int .u64 0) (v1:=.int .u64 0) (v2:=.int .u64 0) (v3:=.int .u64 0) (b:=w.heap.size+1) (by omega))
    clear h1 hR hO ro6 ra6 rr6 rb6 RO RA RR RB
    go_wp2_with fail
    exact bodyPost_ret (results_arr_tmp Tryz.results79 (by rfl) (by rfl) KL.out) rfl ⟨by rw[HRT.out.1,HRT.out.2];rfl,BR.out⟩
theorem b_callsS {w W W':World} {N:Nat} (hb:Below N W W') (h:Below w.heap.size w W) (hN:W.heap.size≤N):Below w.heap.size w W':=h.trans (hb.mono (Nat.le_trans h.size hN))
def iV:Nat:=19681161376707505956807079304988542015446066515923890162744021073123829784752
theorem pow_is (g k c:Nat) (hk:k<2^256) (h:pm PN 256 k g 1%PN=c):g^k%PN=c:=by
 rw[pm_eq PN 256 k g 1 hk,Nat.one_mul] at h
 exact h
theorem p3_lt:P3<2^256:=by decide +kernel
theorem p4_lt:P4<2^256:=by decide +kernel
theorem p2_lt:P2<2^256:=by decide +kernel
theorem ppow_pm (g k c:Nat) (w:World) (hg:g<PN) (hk:k<B64^4) (hk2:k<2^256) (h:pm PN 256 k g 1%PN=c):Calls Tryz.prog 133 #[numV g,numV k] w fun e w'=>e=.returned (numV c)∧Below w.heap.size w w':=by
 have h1:=ppow_any g k w hg hk
 rw[pow_is g k c hk2 h] at h1
 exact h1
theorem r0N_pm (a c:Nat) (h:pm PN 256 P3 a 1%PN=c):r0N a=c:=by
 unfold r0N
 exact pow_is a P3 c p3_lt h
theorem iV_lt:iV<PN:=by decide +kernel
theorem iV_is:∀ w,Calls Tryz.prog 133 #[numV 2,numV P4] w fun e w'=>e=.returned (numV iV)∧Below w.heap.size w w':=fun w=>ppow_pm 2 P4 iV w (by decide +kernel) P4_B p4_lt (by decide +kernel)
/-- A root, by numbers. -/
def rootC (i a r:Nat):Nat × Bool:=if (if r*r%PN=a then r else r*i%PN)*(if r*r%PN=a then r else r*i%PN)%PN=a then (if (if r*r%PN=a then r else r*i%PN)%2=1 then (0+PN-(if r*r%PN=a then r else r*i%PN))%PN else (if r*r%PN=a then r else r*i%PN),true) else (0,false)
theorem rootC_is (i a r:Nat) (h:r0N a=r):rootN i a=(rootC i a r).1∧okN i a=(rootC i a r).2:=by
 unfold rootN okN r1N rootC
 rw[h]
 generalize (if r*r%PN=a then r else r*i%PN)=q
 by_cases hq:q*q%PN=a
 ·rw[if_pos hq,if_pos hq,decide_eq_true hq]
  exact⟨rfl,rfl⟩
 ·rw[if_neg hq,if_neg hq,decide_eq_false hq]
  exact⟨rfl,rfl⟩
/-- Limbs that stand in a block from a place on. -/
def IsO (w:World) (b o len n:Nat):Prop:=n<65536^len∧b<w.heap.size∧∀ i,i<len→w.cell? ⟨b,o+i,none⟩=some (.int .u64 (dg n i:Int))
theorem IsO.below {w w':World} {b o len n:Nat} (h:IsO w b o len n) (hb:Below w.heap.size w w'):IsO w' b o len n:=⟨h.1,Nat.lt_of_lt_of_le h.2.1 hb.size,fun i hi=>(hb.cell (p:=⟨b,o+i,none⟩) h.2.1).trans (h.2.2 i hi)⟩
theorem dg_low (n i:Nat) (hi:i<16):dg (n%65536^16) i=dg n i:=hd_mod n i 16 hi
theorem dg_high (n i:Nat):dg (n/65536^16) i=dg n (16+i):=hd_div n i 16
theorem IsN_cells {w:World} {g la ca n:Nat} (h:IsN w (some ⟨g,0,none⟩) la ca n) (h0:0<la):la≤ca∧g<w.heap.size∧∀ i,i<la→w.cell? ⟨g,i,none⟩=some (.int .u64 (dg n i:Int)):=by
 obtain⟨_,_,h3 | ⟨b,e,h4,h5,h6⟩⟩:=h
 ·omega
 ·cases e
  exact⟨h4,h5,h6⟩
theorem IsN_low {w:World} {g la ca n:Nat} (h:IsN w (some ⟨g,0,none⟩) la ca n) (hl:16≤la):IsN w (some ⟨g,0,none⟩) 16 ca (n%65536^16):=by
 obtain⟨h4,h5,h6⟩:=IsN_cells h (by omega)
 exact⟨Nat.mod_lt _ (by decide),by omega,.inr ⟨g,rfl,by omega,h5,fun i hi=>by rw[dg_low n i hi];exact h6 i (by omega)⟩⟩
theorem IsO_high {w:World} {g la ca n:Nat} (h:IsN w (some ⟨g,0,none⟩) la ca n) (hl:16<la):IsO w g 16 (la-16) (n/65536^16):=by
 obtain⟨h4,h5,h6⟩:=IsN_cells h (by omega)
 refine⟨?_,h5,fun i hi=>by rw[dg_high];exact h6 (16+i) (by omega)⟩
 rw[Nat.div_lt_iff_lt_mul (by decide),← Nat.pow_add,show la-16+16=la by omega]
 exact h.1
theorem dg_all (n la:Nat) (h:n<65536^la) (hz:∀ j,16≤j→j<la→dg n j=0):∀ k,16≤la-k→n/65536^(la-k)=0
 | 0,_=>by rw[Nat.sub_zero];exact Nat.div_eq_of_lt h
 | k+1,hk=>by
   have ih:=dg_all n la h hz k (by omega)
   have h1:=dg_step n (la-(k+1))
   rw[hz (la-(k+1)) hk (by omega),show la-(k+1)+1=la-k by omega,ih] at h1
   omega
theorem not_great (n la:Nat) (h:n<65536^la) (hz:∀ j,16≤j→j<la→dg n j=0):n<65536^16:=by
 rcases Nat.lt_or_ge la 16 with hl | hl
 ·exact Nat.lt_of_lt_of_le h (Nat.pow_le_pow_right (by decide) (by omega))
 ·have h1:=dg_all n la h hz (la-16) (by omega)
  rw[show la-(la-16)=16 by omega] at h1
  have h2:=Nat.div_add_mod n (65536^16)
  have h3:=Nat.mod_lt n (show 0<65536^16 by decide)
  rw[h1,Nat.mul_zero,Nat.zero_add] at h2
  omega
theorem is_great (n j:Nat) (hj:16≤j) (h:dg n j≠0):65536^16≤n:=by
 rcases Nat.lt_or_ge n (65536^16) with hl | hl
 ·exact absurd (dg_out hl hj) h
 ·exact hl
set_option maxHeartbeats 4000000 in
theorem great_any (g la ca n:Nat) (w:World) (h:IsN w (some ⟨g,0,none⟩) la ca n) (hla:16≤la) (hl:la≤100) :
    Calls Tryz.prog 171 #[.slice (some ⟨g,0,none⟩) la ca] w fun e w'=>e=.returned (.bool (decide (65536^16≤n)))∧Below w.heap.size w w':=by
 obtain⟨h4,h5,h6⟩:=IsN_cells h (by omega)
 have HN:=Lib.hid h.1
 have HC:=Lib.hid h6
 have l1:(la:Int)≤100:=by omega
 obtain⟨D,hD⟩:∃ D,decide (65536^16≤n)=D:=⟨_,rfl⟩
 have HD:=Lib.hid hD
 rw[hD]
 clear h h4 h6 hD
 go_enter Tryz.func171,Tryz.ntmps171
 go_wp2_with fail
 go_loopw [3] (fun i wr=>∃ k:Nat,16≤k∧k≤la∧i=.int .i64 (k:Int)∧(∀ j,16≤j→j<k→dg n j=0)∧wr=w) (fun i _=>la-(Go.RowKit.intOf i).toNat)
 case atStart=>exact⟨16,by omega,by omega,rfl,fun j h1 h2=>absurd h1 (by omega),rfl⟩
 case round =>
  obtain⟨k,hk1,hk2,rfl,hz,rfl⟩:=hrel
  by_cases hlt:k<la
  ·have p1:(k:Int)<(la:Int):=by omega
   have p0:(0:Int)≤(k:Int):=by omega
   have c0:=HC.out k hlt
   by_cases hd:dg n k=0
   ·have HZ:=Lib.hid (show ∀ j,16≤j→j<k+1→dg n j=0 from fun j h1 h2=>by
      rcases Nat.lt_or_ge j k with h | h
      ·exact hz j h1 h
      ·obtain rfl:j=k:=by omega
       exact hd)
    rw[hd] at c0
    clear hz hd
    go_wp2_with fail
    go_roundw
    case rel=>exact⟨k+1,by omega,by omega,congrArg (Value.int .i64) (by omega),HZ.out,trivial⟩
    case measure =>
     simp[Go.RowKit.intOf]
     omega
   ·have HG:=Lib.hid (is_great n k hk1 hd)
    have hdI:¬ (dg n k:Int)=0:=by omega
    have hdB:((dg n k:Int) == 0)=false:=by simp;exact hd
    obtain⟨x,hx⟩:∃ x,dg n k=x:=⟨_,rfl⟩
    rw[hx] at c0 hdI hdB
    clear hz hd hx
    go_wp2_with fail
    go_ret
    exact⟨by rw[← HD.out,decide_eq_true HG.out];rfl,Below.refl _ _⟩
  ·obtain rfl:k=la:=by omega
   have p1:¬ (k:Int)<(k:Int):=by omega
   have HG:=Lib.hid (not_great n k HN.out hz)
   clear hz
   go_wp2_with fail
   go_ret
   exact⟨by rw[← HD.out,decide_eq_false (by have:=HG.out;omega)];rfl,Below.refl _ _⟩
set_option maxHeartbeats 1000000 in
theorem rmulO_any (a b:Nat) (la ca lb cb n m:Nat) (w:World) (ha:IsO w a 16 la n) (hb:IsN w (some ⟨b,0,none⟩) lb cb m) (sa:la≤90) (sb:lb≤90) (pa:0<la) (pb:0<lb) :
    Calls Tryz.prog 110 #[.slice (some ⟨a,16,none⟩) la ca,.slice (some ⟨b,0,none⟩) lb cb] w fun e w'=>∃ g,e=.returned (.slice (some ⟨g,0,none⟩) (la+lb) (la+lb))∧OwnN w' g (la+lb) (n*m)∧w.heap.size≤g∧Below w.heap.size w w':=by
 have l1:(la:Int)≤90:=by omega
 have l2:(lb:Int)≤90:=by omega
 have m1:=fun w=>make_limbs (la+lb) ((la:Int)+(lb:Int)) (by omega) (by omega) w
 have HA:=Lib.hid ha
 have HB:=Lib.hid hb
 clear ha hb
 go_enter Tryz.func110,Tryz.ntmps110
 go_wp2_with fail
 clear m1
 go_loopw [6] (fun i wr=>∃ i':Nat,∃ p:Nat→Nat,i'≤la∧i=.int .i64 (i':Int)∧(∀ k,p k<H16)∧(∀ k,i'+lb≤k→p k=0)∧valH p (la+lb)=(n%H16^i')*m∧wr.heap[w.heap.size]?=some (.cells (rowH p (la+lb)).toArray 22 (0,0))∧Below w.heap.size w wr) (fun i _=>la-(intOf i).toNat)
 case atStart=>exact⟨0,fun _=>0,by omega,rfl,fun _=>(by decide:0<H16),fun _ _=>rfl,by rw[Nat.pow_zero,Nat.mod_one,Nat.zero_mul];exact valH_zero _,alloc_new _ _,gr_alloc (Below.refl _ _) _⟩
 case round =>
  obtain⟨i,p,hi,rfl,hp,hz,hV,y0,hbl⟩:=hrel
  by_cases hlt:i<la
  ·have p1:(i:Int)<(la:Int):=by omega
   have HP:=Lib.hid hp
   have HZ:=Lib.hid hz
   have HV:=Lib.hid hV
   have HY:=Lib.hid y0
   clear hp hz hV y0
   go_wp2_with fail
   go_loopw [7,8] (fun c j wr=>∃ j' c':Nat,∃ p:Nat→Nat,j'≤lb∧j=.int .i64 (j':Int)∧c=.int .u64 (c':Int)∧c'<65536∧(∀ k,p k<H16)∧(∀ k,i+lb≤k→p k=0)∧valH p (la+lb)+c'*H16^(i+j')=(n%H16^i)*m+hd n i*(m%H16^j')*H16^i∧wr.heap[w.heap.size]?=some (.cells (rowH p (la+lb)).toArray 22 (0,0))∧Below w.heap.size w wr) (fun _ j _=>lb-(intOf j).toNat)
   case atStart=>exact⟨0,0,p,by omega,rfl,rfl,by omega,HP.out,HZ.out,by rw[HV.out,Nat.pow_zero,Nat.mod_one,Nat.mul_zero,Nat.zero_mul,Nat.zero_mul],HY.out,hbl⟩
   case round =>
    clear HP HZ HV HY hbl
    obtain⟨j,c,p,hj,rfl,rfl,hc,hp,hz,hV,y0,hbl⟩:=hrel
    by_cases hjl:j<lb
    ·have p2:(j:Int)<(lb:Int):=by omega
     have c0:=(HA.out.below hbl).2.2 i hlt
     have c1:=IsN_at (IsN_below HB.out hbl) j hjl
     obtain⟨c4,f4⟩:=arr_get y0 (rowH_get p (la+lb) (i+j) (by omega))
     have hx:=dg_lt n i
     have hy:=dg_lt m j
     have hpk:p (i+j)<65536:=hp _
     obtain⟨k1,k2,k3,k4,k5,ke⟩:=mulH_step (dg n i) (dg m j) (p (i+j)) c hx hy hpk hc
     have HVS:=Lib.hid (valH_step p (la+lb) (i+j) (dg n i) (by omega) _ c ((p (i+j)+dg n i*dg m j+c)/65536) ((p (i+j)+dg n i*dg m j+c)%65536) (dg m j) m i j rfl hV ke rfl)
     have HSET:=Lib.hid (arr_set (i:=i+j) y0 (.int .u64 ((p (i+j)+dg n i*dg m j+c)%65536:Nat)))
     have HPP:=Lib.hid hp
     have HZZ:=Lib.hid hz
     have K4:=Lib.hid k4
     have K5:=Lib.hid k5
     have xy:((dg n i:Int)*(dg m j:Int))=((dg n i*dg m j:Nat):Int):=by rw[Int.natCast_mul]
     clear hp hz hV y0 ke
     generalize dg n i*dg m j=M at *
     generalize hX:dg n i=x at *
     have HX:=Lib.hid hX
     clear hX
     generalize dg m j=y at *
     generalize p (i+j)=z at *
     have nat1:((i:Int)+(j:Int)).toNat=i+j:=by omega
     have q1:(i:Int)+(j:Int)<(la:Int)+(lb:Int):=by omega
     have q2:(i:Int)<90:=by omega
     have q3:(j:Int)<90:=by omega
     clear k4 k5
     go_wp2_with fail
     go_quiet (fail)
     go_wp2_with fail
     go_roundw
     case rel =>
      have e1:((z:Int)+(M:Int)+(c:Int))/65536=(((z+M+c)/65536:Nat):Int):=by omega
      have e2:((z:Int)+(M:Int)+(c:Int))%65536=(((z+M+c)%65536:Nat):Int):=by omega
      rw[e1,e2]
      refine⟨j+1,(z+M+c)/65536,upd p (i+j) ((z+M+c)%65536),by omega,by go_num,rfl,K5.out,updH_lt HPP.out K4.out,updH_zero HZZ.out (by omega),?_,?_,(below_drewN1 hbl nq).setCell (p:=⟨w.heap.size,i+j,none⟩) (Nat.le_refl _) _⟩
      ·rw[hd_dg,HX.out];exact HVS.out
      ·rw[← rowH_set];exact HSET.out
     case measure=>simp[intOf];omega
    ·have hj':j=lb:=by omega
     subst hj'
     have HVR:=Lib.hid (valH_row p (la+j) i c n m j (by omega) HB.out.1 (hz (i+j) (by omega)) hV)
     obtain⟨c4,f4⟩:=arr_get y0 (rowH_get p (la+j) (i+j) (by omega))
     have HSET:=Lib.hid (arr_set (i:=i+j) y0 (.int .u64 (c:Int)))
     have HPP:=Lib.hid hp
     have HZZ:=Lib.hid hz
     clear hp hz hV y0
     generalize p (i+j)=z at c4
     have nat1:((i:Int)+(j:Int)).toNat=i+j:=by omega
     have q1:(i:Int)+(j:Int)<(la:Int)+(j:Int):=by omega
     have q2:(i:Int)<90:=by omega
     have q3:(j:Int)≤90:=by omega
     go_wp2_with fail
     go_roundw
     case rel =>
      refine⟨i+1,upd p (i+j) c,by omega,by go_num,updH_lt HPP.out hc,updH_zero (fun k hk=>HZZ.out k (by omega)) (by omega),HVR.out,?_,hbl.setCell (p:=⟨w.heap.size,i+j,none⟩) (Nat.le_refl _) _⟩
      rw[← rowH_set];exact HSET.out
     case measure=>simp[intOf];omega
  ·have hi':i=la:=by omega
   subst hi'
   have hO:=Lib.hid (show OwnN wr w.heap.size (i+lb) (n*m) from by
    have hn:n<H16^i:=HA.out.1
    have hm:m<H16^lb:=HB.out.1
    rw[Nat.mod_eq_of_lt hn] at hV
    refine⟨?_,?_,by omega⟩
    ·rw[rowH_same (p:=dg (n*m)) (q:=p) (fun k hk=>by rw[← hV];exact valH_dg p (i+lb) hp k hk)]
     exact y0
    ·show n*m<H16^(i+lb)
     rw[Nat.pow_add]
     exact Nat.mul_lt_mul'' hn hm)
   clear hp hz hV y0
   go_wp2_with fail
   go_ret
   exact⟨w.heap.size,rfl,hO.out,Nat.le_refl _,hbl⟩
end Go.Proofs.YtnaldciakclccaaGreat
