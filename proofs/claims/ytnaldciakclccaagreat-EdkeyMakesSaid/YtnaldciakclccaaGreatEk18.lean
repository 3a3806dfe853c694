/- scalar.L, scalar.Sum$1, scalar.Product$1 (layer 22): contracts. scalar.Of, scalar.Reduce (layer 22): contracts. scalar.join, scalar.Sum, scalar.Product (layer 22): contracts. The laws of the curve (layer 20): they return true. mult's functions and the reference's (layer 23): their contracts. The base's order is prime; points of low order (layer 23). No program in it but the laws' Low. The examples of layer 13. The examples of layer 13: lives. The law of bytes and bits, layer 13. -/
import Derived.Lib.Strings
import Derived.Deep.DeepCutAuto
import Derived.Lib.QuietBelow
import Derived.Test.YtnaldciakclccaaGreatEk03
import Derived.Test.YtnaldciakclccaaGreatEk02
import Derived.Test.YtnaldciakclccaaGreatEk17
import Derived.Test.YtnaldciakclccaaGreatEk13
import Derived.Test.YtnaldciakclccaaGreatEk04
import Derived.Test.YtnaldciakclccaaGreatEk16
import Derived.Test.YtnaldciakclccaaGreatEk15
namespace Go.Proofs.YtnaldciakclccaaGreat
set_option maxRecDepth 20000
set_option linter.unusedSimpArgs false
set_option linter.unusedVariables false
open Go.RowKit
theorem LN_lt:LN<B64^4:=by decide +kernel
theorem num_LN:numV LN=.agg #[.int .u64 6346243789798364141,.int .u64 1503914060200516822,.int .u64 0,.int .u64 1152921504606846976]:=by
 unfold numV
 rw[show wd LN 0=6346243789798364141 by decide +kernel,show wd LN 1=1503914060200516822 by decide +kernel,show wd LN 2=0 by decide +kernel,show wd LN 3=1152921504606846976 by decide +kernel]
 rfl
theorem l_any (w:World):Calls Tryz.prog 37 #[] w fun e w'=>e=.returned (numV LN)∧Below w.heap.size w w':=by
 have kl:=load_num (W:=w.alloc (.cells (numL LN).toArray 24)) (b:=w.heap.size) (n:=LN) (alloc_new _ _)
 have e1:(numL LN).toArray=#[.int .u64 6346243789798364141,.int .u64 1503914060200516822,.int .u64 0,.int .u64 1152921504606846976]:=by
  have h:=num_LN
  unfold numV at h
  unfold numL
  injection h
 rw[e1,num_LN] at kl
 rw[num_LN]
 have KL:=Lib.hid kl
 clear kl e1
 go_enter Tryz.func37,Tryz.ntmps37
 go_wp2_with fail
 exact bodyPost_ret (v:=.agg #[.int .u64 6346243789798364141,.int .u64 1503914060200516822,.int .u64 0,.int .u64 1152921504606846976]) (results_arr Tryz.results37 (by rfl) KL.out) rfl ⟨rfl,gr_alloc (Below.refl _ _) _⟩
/-- A slice of numbers of four words. -/
structure sc_IsNums (w:World) (a:Option Addr) (len:Nat) (ns:List Nat):Prop where
 ln:ns.length=len
 lt:∀ n ∈ ns,n<B64^4
 at_:0<len→∃ b,a=some ⟨b,0,none⟩∧b<w.heap.size∧∀ i k,i<len→k<4→w.cell? ⟨b,i*4+k,none⟩=some (.int .u64 (wd (ns.getD i 0) k:Int))
theorem sc_IsNums.below {w w':World} {a:Option Addr} {len:Nat} {ns:List Nat} (h:sc_IsNums w a len ns) (hb:Below w.heap.size w w'):sc_IsNums w' a len ns :=
 ⟨h.ln,h.lt,fun h0=>by
  obtain⟨b,rfl,hlt,hc⟩:=h.at_ h0
  exact⟨b,rfl,Nat.lt_of_lt_of_le hlt hb.size,fun i k hi hk=>(hb.cell (p:=⟨b,i*4+k,none⟩) hlt).trans (hc i k hi hk)⟩⟩
theorem sc_IsNums.far {w:World} {b c len:Nat} {ns:List Nat} {v0 v1 v2 v3:Value} (h:sc_IsNums w (some ⟨b,0,none⟩) len ns) (hne:b≠c):sc_IsNums ((((w.setCell ⟨c,0,none⟩ v0).setCell ⟨c,1,none⟩ v1).setCell ⟨c,2,none⟩ v2).setCell ⟨c,3,none⟩ v3) (some ⟨b,0,none⟩) len ns :=
 ⟨h.ln,h.lt,fun h0=>by
  obtain⟨b',e,hlt,hc⟩:=h.at_ h0
  cases e
  refine⟨b,rfl,by simp only[set_size];exact hlt,fun i k hi hk=>?_⟩
  rw[← hc i k hi hk]
  simp only[World.cell?,set4_far hne]⟩
open Go.RowKit Go.Sort
theorem zz2 (p q:Pt) (hp:On p) (hq:On q):addE (addE zeroE p) q=addE p q:=by rw[zeroAdd p hp]
theorem zz3 (p q r:Pt) (hp:On p) (hq:On q) (hr:On r):addE (addE zeroE (addE (addE zeroE p) q)) r=addE (addE p q) r:=by rw[zz2 p q hp hq,zeroAdd _ (on_add p q hp hq)]
theorem y1 (p q r:Pt) (hp:On p) (hq:On q) (hr:On r):addE (addE zeroE (addE (addE zeroE p) q)) r=addE (addE zeroE p) (addE (addE zeroE q) r):=by
 rw[zz3 p q r hp hq hr,zeroAdd p hp,zeroAdd q hq,add_assoc' p q r hp hq hr]
theorem y2 (p q r:Pt) (hp:On p) (hq:On q) (hr:On r):addE (addE zeroE (addE (addE zeroE p) q)) r=addE (addE (addE zeroE r) q) p:=by
 rw[zz3 p q r hp hq hr,zeroAdd r hr,add_assoc' p q r hp hq hr,add_comm' p,add_comm' q r]
theorem y3 (p:Pt) (hp:On p):addE (addE zeroE p) zeroE=p:=by rw[zeroAdd p hp,add_zero' p hp]
theorem y4 (p q:Pt) (hp:On p) (hq:On q):addE p q=addE (addE zeroE p) q:=by rw[zeroAdd p hp]
theorem y5 (p:Pt) (hp:On p):addE p p=addE (addE zeroE p) p:=by rw[zeroAdd p hp]
theorem bd_Tm (k:Nat) (a:N4) (W:World):(Instr.build 139 #[(0,numV k),(1,pv4 a)]).run Tryz.prog W=.ok (.agg (tmL k a).toArray) W:=by
 kernel_rfl
theorem bs_Tm1 (k:Nat) (a:N4) (W:World):(Instr.buildSlice 184 1 #[(0,.agg (tmL k a).toArray)]).run Tryz.prog W=.ok (.slice (some ⟨W.heap.size,0,none⟩) 1 1) (W.alloc (.cells (tmL k a).toArray 139 (0,0))):=by
 kernel_rfl
theorem times4_of {a:N4} {p:Pt} (ha:Ok4 a p) (k:Nat) (hk:k<B64^4):∃ R,R=runF (take1 k a) (stepsN k) zero4∧Ok4 R (timesE k p):=⟨_,rfl,ok4_all1 k _ ha (steps_enough k _ (Nat.le_refl _))⟩
set_option maxRecDepth 20000 in
set_option maxHeartbeats 8000000 in
theorem mtimes_any {a R:N4} {p:Pt} (ha:Ok4 a p) (k:Nat) (hk:k<B64^4) (hR:R=runF (take1 k a) (stepsN k) zero4) (w:World):Calls Tryz.prog 85 #[numV k,pv4 a] w fun E w'=>E=.returned (pv4 R)∧Below w.heap.size w w':=by
 have KS:=Lib.hid (fun g w hg=>msum1_any ha k hk g w hg)
 rw[← hR] at KS
 clear hR
 have HMIX:=Lib.hid (show Tryz.prog.follows .mixedOrders=true by kernel_rfl)
 go_enter Tryz.func85,Tryz.ntmps85
 have hM0:=Mem.start w
 (go_step;go_step;refine wp_region_lit ?_)
 refine wl_new hM0 (f:=fun b=>.pointer (some ⟨b,0,none⟩)) (ob:=.cells (elR k) 24 (0,0)) (fun W=>run_box_of rfl rfl (bx_Wn k W)) rfl fun b1 W1 hM1=>?_
 simp only[nm0,nm1,nm2,nm3]
 refine wl_new hM1 (f:=fun b=>.pointer (some ⟨b,0,none⟩)) (ob:=.cells ((pc4 a)) 39 (0,0)) (fun W=>run_box_of rfl rfl (bx_P4 _ W)) rfl fun b2 W2 hM2=>?_
 simp only[nm0,nm1,nm2,nm3]
 refine wl_new hM2 (f:=fun b=>.pointer (some ⟨b,0,none⟩)) (ob:=.cells z16 39 (0,0)) (fun W=>run_alloc_of rfl (al_Pt W)) rfl fun b3 W3 hM3=>?_
 simp only[nm0,nm1,nm2,nm3]
 refine wpList_nil ?_
 (go_step;go_step;go_step;refine wp_region_lit ?_)
 refine wl_row hM3 2 (v:=numV k) rfl rfl rfl rfl rowWn rfl ?_
 simp only[nm0,nm1,nm2,nm3]
 refine wl_row hM3 1 (v:=pv4 a) rfl rfl rfl rfl rowPt rfl ?_
 simp only[nm0,nm1,nm2,nm3]
 refine wl_pure (v:=.agg (tmL k a).toArray) (fun W=>run_build_of rfl (by simp[Act.eval]) (bd_Tm k a W)) rfl ?_
 simp only[nm0,nm1,nm2,nm3]
 refine wl_new hM3 (f:=fun b=>.slice (some ⟨b,0,none⟩) 1 1) (ob:=.cells ((tmL k a).toArray) 139 (0,0)) (fun W=>run_slice_of rfl (by simp[Act.eval]) (bs_Tm1 k a W)) rfl fun b4 W4 hM4=>?_
 simp only[nm0,nm1,nm2,nm3]
 refine wl_call hM4 (args:=#[.slice (some ⟨b4,0,none⟩) 1 1]) (v:=pv4 R) (fun W=>run_call_fn W (enters_of Tryz.func111 rfl rfl) rfl (by simp[Act.eval])) (KS.out b4 W4 (hM4.get 0 rfl)) rfl fun W5 hM5=>?_
 simp only[nm0,nm1,nm2,nm3]
 refine wl_set hM5 1 (cs:=((pc4 R))) rfl rfl rfl rfl rowPt rfl (one_p4 _) rfl rfl fun W6 hM6=>?_
 simp only[nm2,nm3] at hM6
 refine wpList_nil ?_
 (go_step;go_step;go_step;refine bodyPost_ret (v:=pv4 R) (results_arr Tryz.results85 rfl (hM6.load 1 rfl rowPt)) rfl ⟨?_,hM6.below⟩)
 exact rfl
theorem times_ex {a:N4} {p:Pt} (ha:Ok4 a p) (k:Nat) (hk:k<B64^4):∃ R:N4,Ok4 R (timesE k p)∧Hid (∀ w,Calls Tryz.prog 85 #[numV k,pv4 a] w fun E w'=>E=.returned (pv4 R)∧Below w.heap.size w w'):=by
 obtain⟨R,hR,oR⟩:=times4_of ha k hk
 exact⟨R,oR,fun w=>mtimes_any ha k hk hR w⟩
set_option maxRecDepth 20000 in
set_option maxHeartbeats 8000000 in
theorem mbase_any (R:N4) (k:Nat) (KR:Hid (∀ w,Calls Tryz.prog 85 #[numV k,pv4 base4] w fun E w'=>E=.returned (pv4 R)∧Below w.heap.size w w')) (w:World):Calls Tryz.prog 41 #[numV k] w fun E w'=>E=.returned (pv4 R)∧Below w.heap.size w w':=by
 have HMIX:=Lib.hid (show Tryz.prog.follows .mixedOrders=true by kernel_rfl)
 go_enter Tryz.func41,Tryz.ntmps41
 have hM0:=Mem.start w
 (go_step;go_step;refine wp_region_lit ?_)
 refine wl_new hM0 (f:=fun b=>.pointer (some ⟨b,0,none⟩)) (ob:=.cells (elR k) 24 (0,0)) (fun W=>run_box_of rfl rfl (bx_Wn k W)) rfl fun b1 W1 hM1=>?_
 simp only[nm0,nm1,nm2,nm3]
 refine wl_new hM1 (f:=fun b=>.pointer (some ⟨b,0,none⟩)) (ob:=.cells z16 39 (0,0)) (fun W=>run_alloc_of rfl (al_Pt W)) rfl fun b2 W2 hM2=>?_
 simp only[nm0,nm1,nm2,nm3]
 refine wpList_nil ?_
 (go_step;go_step;go_step;refine wp_region_inw 3 HMIX.out (by decide) (by kernel_rfl) (by kernel_rfl) ?_)
 refine inw_row hM2 1 (v:=numV k) rfl rfl rfl rfl rowWn rfl rfl ?_;simp only[nm0,nm1,nm2,nm3]
 refine inw_callV (args:=#[]) (v:=pv4 base4) (fun W=>run_call_fn W (enters_of Tryz.func96 rfl rfl) rfl (by simp[Act.eval])) (fun W _=>base4_any W) rfl rfl ?_;simp only[nm0,nm1,nm2,nm3]
 refine inw_callV (args:=#[numV k,pv4 base4]) (v:=pv4 R) (fun W=>run_call_fn W (enters_of Tryz.func85 rfl rfl) rfl (by simp[Act.eval])) (fun W _=>KR.out W) rfl rfl ?_;simp only[nm0,nm1,nm2,nm3]
 refine inw_fin fun d os=>?_
 refine given_nil fun hap=>?_
 have hM3:=hM2.calls (below_regrown W2 d os)
 clear hap 
 generalize grow (redrawn W2 d) os=W3 at hM3 ⊢
 change wpAny _ _ _ _ 1 _ _ _
 refine any_set (n:=3) (by kernel_rfl) rfl hM3 0 (cs:=((pc4 R))) rfl rfl rfl rfl rowPt rfl (one_p4 _) rfl rfl fun W4 hM4=>?_
 simp only[nm2,nm3] at hM4
 refine wpAny_done (by kernel_rfl) ?_ _
 (go_step;go_step;go_step;refine bodyPost_ret (v:=pv4 R) (results_arr Tryz.results41 rfl (hM4.load 0 rfl rowPt)) rfl ⟨?_,hM4.below⟩)
 exact rfl
theorem base_ex (k:Nat) (hk:k<B64^4):∃ R:N4,Ok4 R (timesE k baseE)∧Hid (∀ w,Calls Tryz.prog 41 #[numV k] w fun E w'=>E=.returned (pv4 R)∧Below w.heap.size w w'):=by
 obtain⟨R,oR,KR⟩:=times_ex ok4_base k hk
 exact⟨R,oR,fun w=>mbase_any R k KR w⟩
set_option maxRecDepth 20000 in
set_option maxHeartbeats 8000000 in
theorem iszero_any {a:N4} {p:Pt} (ha:Ok4 a p) (n:Nat) (hnB:n<B64^4) (B:Bool) (hB:decide (timesE n p=zeroE)=B) (w:World):Calls Tryz.prog 36 #[numV n,pv4 a] w fun E w'=>E=.returned (.bool B)∧Below w.heap.size w w':=by
 have KSame:Hid (∀ {r:N4} (hr:Ok4 r (timesE n p)) (w:World),Calls Tryz.prog 84 #[pv4 r,pv4 zero4] w fun E w'=>E=.returned (.bool B)∧Below w.heap.size w w'):=fun hr w=>by rw[← hB];exact samep4 hr ok4_zero w
 have HMIX:=Lib.hid (show Tryz.prog.follows .mixedOrders=true by kernel_rfl)
 go_enter Tryz.func36,Tryz.ntmps36
 have hM0:=Mem.start w
 (go_step;go_step;refine wp_region_lit ?_)
 refine wl_new hM0 (f:=fun b=>.pointer (some ⟨b,0,none⟩)) (ob:=.cells (elR n) 24 (0,0)) (fun W=>run_box_of rfl rfl (bx_Wn n W)) rfl fun b1 W1 hM1=>?_
 simp only[nm0,nm1,nm2,nm3]
 refine wl_new hM1 (f:=fun b=>.pointer (some ⟨b,0,none⟩)) (ob:=.cells ((pc4 a)) 39 (0,0)) (fun W=>run_box_of rfl rfl (bx_P4 _ W)) rfl fun b2 W2 hM2=>?_
 simp only[nm0,nm1,nm2,nm3]
 refine wl_pure (v:=.bool false) (fun _=>rfl) rfl ?_
 simp only[nm0,nm1,nm2,nm3]
 refine wpList_nil ?_
 (go_step;go_step;go_step;refine wp_region_lit ?_)
 refine wl_row hM2 1 (v:=numV n) rfl rfl rfl rfl rowWn rfl ?_
 simp only[nm0,nm1,nm2,nm3]
 refine wl_row hM2 0 (v:=pv4 a) rfl rfl rfl rfl rowPt rfl ?_
 simp only[nm0,nm1,nm2,nm3]
 obtain⟨R1,oR1,KR1⟩:=times_ex ha n hnB
 refine wl_call hM2 (args:=#[numV n,pv4 a]) (v:=pv4 R1) (fun W=>run_call_fn W (enters_of Tryz.func85 rfl rfl) rfl (by simp[Act.eval])) (KR1.out W2) rfl fun W3 hM3=>?_
 simp only[nm0,nm1,nm2,nm3]
 refine wl_call hM3 (args:=#[]) (v:=pv4 zero4) (fun W=>run_call_fn W (enters_of Tryz.func27 rfl rfl) rfl (by simp[Act.eval])) (zero4_any W3) rfl fun W4 hM4=>?_
 simp only[nm0,nm1,nm2,nm3]
 refine wl_call hM4 (args:=#[pv4 R1,pv4 zero4]) (v:=.bool B) (fun W=>run_call_fn W (enters_of Tryz.func84 rfl rfl) rfl (by simp[Act.eval])) ((fun W=>KSame.out oR1 W) W4) rfl fun W5 hM5=>?_
 simp only[nm0,nm1,nm2,nm3]
 refine wl_pure (v:=.bool B) (fun _=>rfl) rfl ?_
 simp only[nm0,nm1,nm2,nm3]
 refine wpList_nil ?_
 (go_step;go_step;go_step;refine bodyPost_ret (v:=.bool B) (results_slot Tryz.results36 rfl) rfl ⟨?_,hM5.below⟩)
 exact rfl
set_option maxRecDepth 20000 in
set_option maxHeartbeats 8000000 in
theorem msmall_any {a:N4} {p:Pt} (ha:Ok4 a p) (B:Bool) (hB:decide (timesE 8 p=zeroE)=B) (w:World):Calls Tryz.prog 12 #[pv4 a] w fun E w'=>E=.returned (.bool B)∧Below w.heap.size w w':=by
 have HMIX:=Lib.hid (show Tryz.prog.follows .mixedOrders=true by kernel_rfl)
 go_enter Tryz.func12,Tryz.ntmps12
 have hM0:=Mem.start w
 (go_step;go_step;refine wp_region_lit ?_)
 refine wl_new hM0 (f:=fun b=>.pointer (some ⟨b,0,none⟩)) (ob:=.cells ((pc4 a)) 39 (0,0)) (fun W=>run_box_of rfl rfl (bx_P4 _ W)) rfl fun b1 W1 hM1=>?_
 simp only[nm0,nm1,nm2,nm3]
 refine wl_pure (v:=.bool false) (fun _=>rfl) rfl ?_
 simp only[nm0,nm1,nm2,nm3]
 refine wpList_nil ?_
 (go_step;go_step;go_step;refine wp_region_inw 4 HMIX.out (by decide) (by kernel_rfl) (by kernel_rfl) ?_)
 refine inw_callV (args:=#[.int .u64 8]) (v:=numV 8) (fun W=>run_call_fn W (enters_of Tryz.func38 rfl rfl) rfl (by simp[Act.eval])) (fun W _=>(fun W=>small_any 8 W (by decide)) W) rfl rfl ?_;simp only[nm0,nm1,nm2,nm3]
 refine inw_row hM1 0 (v:=pv4 a) rfl rfl rfl rfl rowPt rfl rfl ?_;simp only[nm0,nm1,nm2,nm3]
 refine inw_callV (args:=#[numV 8,pv4 a]) (v:=.bool B) (fun W=>run_call_fn W (enters_of Tryz.func36 rfl rfl) rfl (by simp[Act.eval])) (fun W _=>(fun W=>iszero_any ha 8 (by decide +kernel) B hB W) W) rfl rfl ?_;simp only[nm0,nm1,nm2,nm3]
 refine inw_pure (v:=.bool B) (fun _=>rfl) rfl rfl ?_;simp only[nm0,nm1,nm2,nm3]
 refine inw_fin fun d os=>?_
 refine given_nil fun hap=>?_
 have hM2:=hM1.calls (below_regrown W1 d os)
 clear hap 
 generalize grow (redrawn W1 d) os=W2 at hM2 ⊢
 refine wpAny_done (by kernel_rfl) ?_ _
 (go_step;go_step;go_step;refine bodyPost_ret (v:=.bool B) (results_slot Tryz.results12 rfl) rfl ⟨?_,hM2.below⟩)
 exact rfl
set_option maxRecDepth 20000 in
set_option maxHeartbeats 8000000 in
theorem mmain_any {a:N4} {p:Pt} (ha:Ok4 a p) (B:Bool) (hB:decide (timesE LN p=zeroE)=B) (w:World):Calls Tryz.prog 11 #[pv4 a] w fun E w'=>E=.returned (.bool B)∧Below w.heap.size w w':=by
 have HMIX:=Lib.hid (show Tryz.prog.follows .mixedOrders=true by kernel_rfl)
 go_enter Tryz.func11,Tryz.ntmps11
 have hM0:=Mem.start w
 (go_step;go_step;refine wp_region_lit ?_)
 refine wl_new hM0 (f:=fun b=>.pointer (some ⟨b,0,none⟩)) (ob:=.cells ((pc4 a)) 39 (0,0)) (fun W=>run_box_of rfl rfl (bx_P4 _ W)) rfl fun b1 W1 hM1=>?_
 simp only[nm0,nm1,nm2,nm3]
 refine wl_pure (v:=.bool false) (fun _=>rfl) rfl ?_
 simp only[nm0,nm1,nm2,nm3]
 refine wpList_nil ?_
 (go_step;go_step;go_step;refine wp_region_inw 4 HMIX.out (by decide) (by kernel_rfl) (by kernel_rfl) ?_)
 refine inw_callV (args:=#[]) (v:=numV LN) (fun W=>run_call_fn W (enters_of Tryz.func37 rfl rfl) rfl (by simp[Act.eval])) (fun W _=>l_any W) rfl rfl ?_;simp only[nm0,nm1,nm2,nm3]
 refine inw_row hM1 0 (v:=pv4 a) rfl rfl rfl rfl rowPt rfl rfl ?_;simp only[nm0,nm1,nm2,nm3]
 refine inw_callV (args:=#[numV LN,pv4 a]) (v:=.bool B) (fun W=>run_call_fn W (enters_of Tryz.func36 rfl rfl) rfl (by simp[Act.eval])) (fun W _=>(fun W=>iszero_any ha LN LN_lt B hB W) W) rfl rfl ?_;simp only[nm0,nm1,nm2,nm3]
 refine inw_pure (v:=.bool B) (fun _=>rfl) rfl rfl ?_;simp only[nm0,nm1,nm2,nm3]
 refine inw_fin fun d os=>?_
 refine given_nil fun hap=>?_
 have hM2:=hM1.calls (below_regrown W1 d os)
 clear hap 
 generalize grow (redrawn W1 d) os=W2 at hM2 ⊢
 refine wpAny_done (by kernel_rfl) ?_ _
 (go_step;go_step;go_step;refine bodyPost_ret (v:=.bool B) (results_slot Tryz.results11 rfl) rfl ⟨?_,hM2.below⟩)
 exact rfl
set_option maxRecDepth 20000 in
set_option maxHeartbeats 8000000 in
theorem rmtimes_any {q:N3} {p:Pt} (hq:Ok3 q p) (k:Nat) (hk:k<B64^4) (w:World):Calls Tryz.prog 24 #[numV k,pv3 q] w fun E w'=>E=.returned (pv3 (tms k q 256))∧Below w.heap.size w w':=by
 have HMIX:=Lib.hid (show Tryz.prog.follows .mixedOrders=true by kernel_rfl)
 go_enter Tryz.func24,Tryz.ntmps24
 have hM0:=Mem.start w
 (go_step;go_step;refine wp_region_lit ?_)
 refine wl_new hM0 (f:=fun b=>.pointer (some ⟨b,0,none⟩)) (ob:=.cells (elR k) 23 (0,0)) (fun W=>run_box_of rfl rfl (bx_Nu k W)) rfl fun b1 W1 hM1=>?_
 simp only[nm0,nm1,nm2,nm3]
 refine wl_new hM1 (f:=fun b=>.pointer (some ⟨b,0,none⟩)) (ob:=.cells ((rpL q.1 q.2.1 q.2.2).toArray) 55 (0,0)) (fun W=>run_box_of rfl rfl (bx_Rp _ _ _ W)) rfl fun b2 W2 hM2=>?_
 simp only[nm0,nm1,nm2,nm3]
 refine wl_new hM2 (f:=fun b=>.pointer (some ⟨b,0,none⟩)) (ob:=.cells z12 55 (0,0)) (fun W=>run_alloc_of rfl (al_Rp W)) rfl fun b3 W3 hM3=>?_
 simp only[nm0,nm1,nm2,nm3]
 refine wpList_nil ?_
 (go_step;go_step;go_step;refine wp_region_inw 4 HMIX.out (by decide) (by kernel_rfl) (by kernel_rfl) ?_)
 refine inw_row hM3 2 (v:=numV k) rfl rfl rfl rfl rowNu rfl rfl ?_;simp only[nm0,nm1,nm2,nm3]
 refine inw_row hM3 1 (v:=pv3 q) rfl rfl rfl rfl rowRp rfl rfl ?_;simp only[nm0,nm1,nm2,nm3]
 refine inw_callV (args:=#[]) (v:=numV dN) (fun W=>run_call_fn W (enters_of Tryz.func66 rfl rfl) rfl (by simp[Act.eval])) (fun W _=>rD_any W) rfl rfl ?_;simp only[nm0,nm1,nm2,nm3]
 obtain⟨Q1,eQ1⟩:∃ x,x=tms k q 256:=⟨_,rfl⟩
 have oQ1:=ok3_times hq k hk
 rw[← eQ1] at oQ1
 have KQ1:=Lib.hid (fun W=>times_any k q W hk (Ok3.is hq))
 rw[← eQ1] at KQ1
 refine inw_callV (args:=#[numV k,pv3 q,numV dN]) (v:=pv3 Q1) (fun W=>run_call_fn W (enters_of Tryz.func65 rfl rfl) rfl (by simp[Act.eval])) (fun W _=>KQ1.out W) rfl rfl ?_;simp only[nm0,nm1,nm2,nm3]
 refine inw_fin fun d os=>?_
 refine given_nil fun hap=>?_
 have hM4:=hM3.calls (below_regrown W3 d os)
 clear hap 
 generalize grow (redrawn W3 d) os=W4 at hM4 ⊢
 change wpAny _ _ _ _ 1 _ _ _
 refine any_set (n:=4) (by kernel_rfl) rfl hM4 0 (cs:=((rpL Q1.1 Q1.2.1 Q1.2.2).toArray)) rfl rfl rfl rfl rowRp rfl (one_rp _ _ _) rfl rfl fun W5 hM5=>?_
 simp only[nm2,nm3] at hM5
 refine wpAny_done (by kernel_rfl) ?_ _
 (go_step;go_step;go_step;refine bodyPost_ret (v:=pv3 Q1) (results_arr Tryz.results24 rfl (hM5.load 0 rfl rowRp)) rfl ⟨?_,hM5.below⟩)
 exact by rw[eQ1]
theorem rtimes_ex {q:N3} {p:Pt} (hq:Ok3 q p) (k:Nat) (hk:k<B64^4):∃ R:N3,Ok3 R (timesE k p)∧Hid (∀ w,Calls Tryz.prog 24 #[numV k,pv3 q] w fun E w'=>E=.returned (pv3 R)∧Below w.heap.size w w'):=⟨_,ok3_times hq k hk,fun w=>rmtimes_any hq k hk w⟩
def e2N:Nat:=26163907866482859529727157400808004
def u2N:Nat:=2233364593245673852815932892735013076939656528578070433728021143254617821614
theorem ln_divs2 (g:Nat) (hg:g ∣ LN) (h1:1<g):GN≤g :=
 great_divs LN GN e2N 2 u2N primeGN (by decide +kernel) (pow_of LN 256 (LN-1) 2 1 (by decide +kernel) (by decide +kernel)) (by rw[pow_ofR LN 256 e2N 2 (by decide +kernel)];decide +kernel) g hg h1 (by decide +kernel)
theorem ln_sq:LN<GN*GN:=by decide +kernel
theorem ln_pos:0<LN∧1<LN:=by decide +kernel
theorem ln_prime (g:Nat) (hg:g ∣ LN) (h1:1<g):g=LN:=by
 have h2:=ln_divs2 g hg h1
 obtain⟨c,hc⟩:=hg
 have hc0:c≠0:=fun e=>by
  rw[e,Nat.mul_zero] at hc
  have:=ln_pos.1
  omega
 by_cases hc1:c=1
 ·rw[hc1,Nat.mul_one] at hc
  exact hc.symm
 ·have h3:=ln_divs2 c ⟨g,by rw[hc,Nat.mul_comm]⟩ (by omega)
  have h4:=Nat.mul_le_mul h2 h3
  have h5:=ln_sq
  rw[hc] at h5
  exact absurd h5 (by omega)
theorem base_order (n:Nat) (h:timesE n baseE=zeroE):LN ∣ n:=by
 have hg:=times_gcd baseE on_base n LN h ell_base
 have hd:Nat.gcd n LN ∣ LN:=Nat.gcd_dvd_right n LN
 have hdn:Nat.gcd n LN ∣ n:=Nat.gcd_dvd_left n LN
 have hpos:0<Nat.gcd n LN:=Nat.gcd_pos_of_pos_right n ln_pos.1
 obtain⟨g,eg⟩:∃ g,Nat.gcd n LN=g:=⟨_,rfl⟩
 rw[eg] at hg hd hdn hpos
 by_cases h1:g=1
 ·rw[h1,times_one baseE on_base] at hg
  exact absurd hg base_not
 ·rw[ln_prime g hd (by omega)] at hdn
  exact hdn
section
variable {α:Type} [Lean.Grind.CommRing α]
end
theorem leN_digits (n:Nat):∀ k m,leN ((List.range k).map fun i=>UInt8.ofNat (n/256^(m+i)%256))=n/256^m%256^k
 | 0,m=>by simp[leN,Nat.mod_one]
 | k+1,m=>by
   rw[List.range_succ_eq_map,List.map_cons,List.map_map,leN]
   have h:=leN_digits n k (m+1)
   have e:(fun i=>UInt8.ofNat (n/256^(m+i)%256)) ∘ Nat.succ=fun i=>UInt8.ofNat (n/256^(m+1+i)%256):=by
    funext i
    simp only[Function.comp]
    rw[show m+Nat.succ i=m+1+i by omega]
   rw[e,h,Nat.add_zero,UInt8.toNat_ofNat',show (256:Nat)^(k+1)=256*256^k by rw[Nat.pow_succ,Nat.mul_comm],Nat.mod_mul,Nat.pow_succ 256 m,← Nat.div_div_eq_div_mul]
   have h8:n/256^m%256%2^8=n/256^m%256:=Nat.mod_eq_of_lt (Nat.mod_lt _ (by decide))
   rw[h8]
theorem leN_byL (n:Nat) (h:n<B64^4):leN (byL n)=n:=by
 have:=leN_digits n 32 0
 simp only[Nat.zero_add,Nat.pow_zero,Nat.div_one] at this
 unfold byL
 rw[this,Nat.mod_eq_of_lt (by rw[show 256^32=B64^4 by decide];exact h)]
end Go.Proofs.YtnaldciakclccaaGreat
