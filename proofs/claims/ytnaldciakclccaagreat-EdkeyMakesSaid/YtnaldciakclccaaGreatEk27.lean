/- edkey.Of, Public and the reference's Of (layer 24): their contracts. The law EdkeyMakes (layer 24): it returns true. -/
import Derived.Test.YtnaldciakclccaaGreatEk26
namespace Go.Proofs.YtnaldciakclccaaGreat
set_option maxRecDepth 20000
set_option linter.unusedSimpArgs false
set_option linter.unusedVariables false
open Go.RowKit Go.Sort
theorem results_arr_tmp2 {P:Program} {fn:Func} {A:Array Value} {w:World} {c t s1 s2:Nat} {b:Nat} {v v1 v2:Value} (hr:fn.results=#[.cell c t,.tmp s1,.tmp s2]) (h0:A.getD c undef=.pointer (some ⟨b,0,none⟩)) (h1:A.getD s1 undef=v1) (h2:A.getD s2 undef=v2) (hl:(loadVar t ⟨b,0,none⟩).run P w=.ok v w):(results fn A).run P w=.ok (.tuple #[v,v1,v2]) w:=by
 rw[Array.getD_eq_getD_getElem?] at h0 h1 h2
 simp only[results,hr]
 simp[asAddr,h0,hl,h1,h2]
theorem results_slots2 {P:Program} {fn:Func} {A:Array Value} {w:World} {s1 s2:Nat} {v1 v2:Value} (hr:fn.results=#[.tmp s1,.tmp s2]) (h1:A.getD s1 undef=v1) (h2:A.getD s2 undef=v2):(results fn A).run P w=.ok (.tuple #[v1,v2]) w:=by
 subst h1 h2
 unfold results
 simp[hr]
/-- A key as a row. -/
def keyR (n:Nat) (f p:ByteArray):Array Value:=#[.int .u64 (wd n 0:Int),.int .u64 (wd n 1:Int),.int .u64 (wd n 2:Int),.int .u64 (wd n 3:Int),.string f,.string p]
def keyV (n:Nat) (f p:ByteArray):Value:=.agg (keyR n f p)
def keyZ:Array Value:=#[.int .u64 0,.int .u64 0,.int .u64 0,.int .u64 0,.string ⟨#[]⟩,.string ⟨#[]⟩]
theorem one_key (n:Nat) (f p:ByteArray):(keyR n f p).all (·.oneCell')=true:=by kernel_rfl
theorem one_keyZ:keyZ.all (·.oneCell')=true:=by kernel_rfl
theorem rowKey:RowTy Tryz.prog 26 6:=⟨.inl ⟨_,Tryz.underlying26⟩,by kernel_rfl⟩
theorem al_Key (W:World):(Instr.alloc 26 true (.tuple #[])).run Tryz.prog W=.ok (.pointer (some ⟨W.heap.size,0,none⟩)) (W.alloc (.cells keyZ 26 (0,0))):=by
 kernel_rfl
theorem bd_Key (n:Nat) (f p:ByteArray) (W:World):(Instr.build 26 #[(0,numV n),(1,.string f),(2,.string p)]).run Tryz.prog W=.ok (keyV n f p) W:=by
 kernel_rfl
theorem bd_Key0 (W:World):(Instr.build 26 #[]).run Tryz.prog W=.ok (.agg keyZ) W:=by
 kernel_rfl
theorem cellStr:CellTy Tryz.prog 9:=⟨⟨_,Tryz.underlying9,rfl⟩,by kernel_rfl⟩
theorem fa_Key0 (b:Nat) (W:World):(Instr.fieldAt 26 (.pointer (some ⟨b,0,none⟩)) 0).run Tryz.prog W=.ok (.pointer (some ⟨b,0,none⟩)) W:=by
 go_simp
theorem fa_Key1 (b:Nat) (W:World):(Instr.fieldAt 26 (.pointer (some ⟨b,0,none⟩)) 1).run Tryz.prog W=.ok (.pointer (some ⟨b,4,none⟩)) W:=by
 go_simp
theorem fa_Key2 (b:Nat) (W:World):(Instr.fieldAt 26 (.pointer (some ⟨b,0,none⟩)) 2).run Tryz.prog W=.ok (.pointer (some ⟨b,5,none⟩)) W:=by
 go_simp
theorem bs_S1 (s:ByteArray) (W:World):(Instr.buildSlice 74 1 #[(0,.string s)]).run Tryz.prog W=.ok (.slice (some ⟨W.heap.size,0,none⟩) 1 1) (W.alloc (.cells #[.string s] 9 (0,0))):=by
 go_simp
theorem eq_key_zero (n:Nat) (f p:ByteArray) (h:wd n 3≠0) (x y:Operand) (W:World):(do eqGuard .eql 26 x y (keyV n f p) (.agg keyZ);binOp .eql 26 (keyV n f p) (.agg keyZ):Sem Value).run Tryz.prog W=.ok (.bool false) W:=by
 have e:((wd n 3:Int) == 0)=false:=by
  rw[beq_eq_false_iff_ne]
  omega
 obtain⟨m,hm⟩:∃ m,wd n 3=m:=⟨_,rfl⟩
 obtain⟨m0,hm0⟩:∃ m,wd n 0=m:=⟨_,rfl⟩
 obtain⟨m1,hm1⟩:∃ m,wd n 1=m:=⟨_,rfl⟩
 obtain⟨m2,hm2⟩:∃ m,wd n 2=m:=⟨_,rfl⟩
 unfold keyV keyR keyZ
 rw[hm] at e
 rw[hm,hm0,hm1,hm2]
 clear hm hm0 hm1 hm2 h
 have hq:∀ w,(Op.equalIn 9999 24 (.agg #[.int .u64 (m0:Int),.int .u64 (m1:Int),.int .u64 (m2:Int),.int .u64 (m:Int)]) (.agg #[.int .u64 0,.int .u64 0,.int .u64 0,.int .u64 0])).run Tryz.prog w=.ok false w:=fun w=>by
  have h:=eql_numF 9997 w m0 m1 m2 m 0 0 0 0
  rw[e,Bool.and_false,Bool.and_false,Bool.and_false] at h
  exact h
 go_simp
theorem eq_keyZ (x y:Operand) (W:World):(do eqGuard .eql 26 x y (.agg keyZ) (.agg keyZ);binOp .eql 26 (.agg keyZ) (.agg keyZ):Sem Value).run Tryz.prog W=.ok (.bool true) W:=by
 unfold keyZ
 have hq:∀ w,(Op.equalIn 9999 24 (.agg #[.int .u64 0,.int .u64 0,.int .u64 0,.int .u64 0]) (.agg #[.int .u64 0,.int .u64 0,.int .u64 0,.int .u64 0])).run Tryz.prog w=.ok true w:=fun w=>eql_numF 9997 w 0 0 0 0 0 0 0 0
 go_simp
theorem eq_str (s:ByteArray) (x y:Operand) (W:World):(do eqGuard .eql 9 x y (.string s) (.string s);binOp .eql 9 (.string s) (.string s):Sem Value).run Tryz.prog W=.ok (.bool true) W:=by
 go_simp
theorem bin_neq_sz (n:Nat) (c:Bool) (hc:(n != 32)=c) (x y:Operand) (W:World):(do eqGuard .neq 3 x y (.int .i64 (n:Int)) (.int .i64 32);binOp .neq 3 (.int .i64 (n:Int)) (.int .i64 32):Sem Value).run Tryz.prog W=.ok (.bool c) W:=by
 have e:((n:Int) != 32)=c:=by
  rw[← hc,bne,bne]
  congr 1
  rw[Bool.eq_iff_iff]
  simp
  omega
 clear hc
 go_simp
theorem u64_bin_quo8 (a q:Nat) (hq:a/8=q) (h:a<18446744073709551616) (x y:Operand) (W:World):(do eqGuard .quo 22 x y (.int .u64 (a:Int)) (.int .u64 8);binOp .quo 22 (.int .u64 (a:Int)) (.int .u64 8):Sem Value).run Tryz.prog W=.ok (.int .u64 (q:Int)) W:=by
 have e:((a:Int).tdiv 8)=(q:Int):=by rw[Int.tdiv_eq_ediv_of_nonneg (by omega)];omega
 have e2:IntKind.u64.wrap (q:Int)=(q:Int):=IntWalk.u64_in _ (by omega)
 have e3:(a:Int)/8=(q:Int):=by omega
 clear hq
 go_simp
theorem u64_bin_mul8 (q m:Nat) (hm:q*8=m) (h:m<18446744073709551616) (x y:Operand) (W:World):(do eqGuard .mul 22 x y (.int .u64 (q:Int)) (.int .u64 8);binOp .mul 22 (.int .u64 (q:Int)) (.int .u64 8):Sem Value).run Tryz.prog W=.ok (.int .u64 (m:Int)) W:=by
 have e2:IntKind.u64.wrap ((q:Int)*8)=(m:Int):=by rw[IntWalk.u64_in _ (by omega)];omega
 clear hm
 go_simp
theorem u64_bin_rem62 (a q:Nat) (hq:a%4611686018427387904=q) (x y:Operand) (W:World):(do eqGuard .rem 22 x y (.int .u64 (a:Int)) (.int .u64 4611686018427387904);binOp .rem 22 (.int .u64 (a:Int)) (.int .u64 4611686018427387904):Sem Value).run Tryz.prog W=.ok (.int .u64 (q:Int)) W:=by
 have e:((a:Int).tmod 4611686018427387904)=(q:Int):=by rw[Int.tmod_eq_emod_of_nonneg (by omega)];omega
 have e2:IntKind.u64.wrap (q:Int)=(q:Int):=IntWalk.u64_in _ (by omega)
 have e3:(a:Int)%4611686018427387904=(q:Int):=by omega
 clear hq
 go_simp
theorem u64_bin_add62 (q m:Nat) (hm:q+4611686018427387904=m) (h:m<18446744073709551616) (x y:Operand) (W:World):(do eqGuard .add 22 x y (.int .u64 (q:Int)) (.int .u64 4611686018427387904);binOp .add 22 (.int .u64 (q:Int)) (.int .u64 4611686018427387904):Sem Value).run Tryz.prog W=.ok (.int .u64 (m:Int)) W:=by
 have e2:IntKind.u64.wrap ((q:Int)+4611686018427387904)=(m:Int):=by rw[IntWalk.u64_in _ (by omega)];omega
 clear hm
 go_simp
set_option maxRecDepth 20000 in
set_option maxHeartbeats 8000000 in
theorem keyof_w (s H F1 F2 PB:ByteArray) (n:Nat) (R:N4) (hs:s.size=32) (hH:H.size=64) (e1:H.extract 0 32=F1) (e2:H.extract 32 H.size=F2) (KH:Hid (∀ (g:Nat) (w:World),w.heap[g]?=some (.cells #[.string s] 9 (0,0))→Calls Tryz.prog 54 #[.slice (some ⟨g,0,none⟩) 1 1] w fun e w'=>e=.returned (.string H)∧Below w.heap.size w w')) (KN:Hid (∀ w,Calls Tryz.prog 55 #[.string F1] w fun e w'=>e=.returned (numV n)∧Below w.heap.size w w')) (KB:Hid (∀ w,Calls Tryz.prog 41 #[numV n] w fun e w'=>e=.returned (pv4 R)∧Below w.heap.size w w')) (KE:Hid (∀ w,Calls Tryz.prog 40 #[pv4 R] w fun e w'=>e=.returned (.string PB)∧Below w.heap.size w w')) (w:World):Calls Tryz.prog 18 #[.string s] w fun E w'=>E=.returned (keyV n F2 PB)∧Below w.heap.size w w':=by
 have hodd:(s.size != 32)=false:=by rw[hs];rfl
 have HMIX:=Lib.hid (show Tryz.prog.follows .mixedOrders=true by kernel_rfl)
 go_enter Tryz.func18,Tryz.ntmps18
 have hM0:=Mem.start w
 (go_step;go_step;refine wp_region_lit ?_)
 refine wl_new hM0 (f:=fun b=>.pointer (some ⟨b,0,none⟩)) (ob:=.cells keyZ 26 (0,0)) (fun W=>run_alloc_of rfl (al_Key W)) rfl fun b1 W1 hM1=>?_
 simp only[nm0,nm1,nm2,nm3]
 refine wpList_nil ?_
 (go_step;go_step;go_step;go_step;refine wp_region_lit ?_)
 refine wl_pure (v:=.string s) (fun _=>rfl) rfl ?_
 simp only[nm0,nm1,nm2,nm3]
 refine wl_pure (v:=.int .i64 (s.size:Int)) (fun W=>run_len_str W rfl (by simp[Act.eval]) rfl Tryz.underlying9) rfl ?_
 simp only[nm0,nm1,nm2,nm3]
 refine wl_pure (v:=.bool false) (fun W=>run_bin_of rfl rfl rfl (bin_neq_sz s.size false hodd _ _ W)) rfl ?_
 simp only[nm0,nm1,nm2,nm3]
 refine wpList_nil ?_
 (go_step;go_step;go_step;go_step;go_step;go_step;go_step;refine wp_region_lit ?_)
 refine wl_pure (v:=.string s) (fun _=>rfl) rfl ?_
 simp only[nm0,nm1,nm2,nm3]
 refine wl_new hM1 (f:=fun b=>.slice (some ⟨b,0,none⟩) 1 1) (ob:=.cells (#[.string s]) 9 (0,0)) (fun W=>run_slice_of rfl (by simp[Act.eval]) (bs_S1 s W)) rfl fun b2 W2 hM2=>?_
 simp only[nm0,nm1,nm2,nm3]
 refine wl_call hM2 (args:=#[.slice (some ⟨b2,0,none⟩) 1 1]) (v:=.string H) (fun W=>run_call_fn W (enters_of Tryz.func54 rfl rfl) rfl (by simp[Act.eval])) (KH.out b2 W2 (hM2.get 0 rfl)) rfl fun W3 hM3=>?_
 simp only[nm0,nm1,nm2,nm3]
 refine wl_pure (v:=.string H) (fun _=>rfl) rfl ?_
 simp only[nm0,nm1,nm2,nm3]
 refine wpList_nil ?_
 (go_step;go_step;go_step;refine wp_region_lit ?_)
 refine wl_pure (v:=.string H) (fun _=>rfl) rfl ?_
 simp only[nm0,nm1,nm2,nm3]
 refine wl_pure (v:=.string F1) (fun W=>e1 ▸ run_slc_str W rfl (by simp[Act.eval]) (slc_str_hi (j:=32) W Tryz.underlying9 (by rw[hH];decide))) rfl ?_
 simp only[nm0,nm1,nm2,nm3]
 refine wl_call hM3 (args:=#[.string F1]) (v:=numV n) (fun W=>run_call_fn W (enters_of Tryz.func55 rfl rfl) rfl (by simp[Act.eval])) (KN.out W3) rfl fun W4 hM4=>?_
 simp only[nm0,nm1,nm2,nm3]
 refine wl_new hM4 (f:=fun b=>.pointer (some ⟨b,0,none⟩)) (ob:=.cells z4 24 (0,0)) (fun W=>run_alloc_of rfl (al_Wn W)) rfl fun b3 W5 hM5=>?_
 simp only[nm0,nm1,nm2,nm3]
 refine wl_set hM5 0 (cs:=(elR n)) rfl rfl rfl rfl rowWn rfl (one_el n) rfl rfl fun W6 hM6=>?_
 simp only[nm2,nm3] at hM6
 refine wpList_nil ?_
 (go_step;go_step;go_step;refine wp_region_inw 7 HMIX.out (by decide) (by kernel_rfl) (by kernel_rfl) ?_)
 refine inw_row hM6 0 (v:=numV n) rfl rfl rfl rfl rowWn rfl rfl ?_;simp only[nm0,nm1,nm2,nm3]
 refine inw_pure (v:=.string H) (fun _=>rfl) rfl rfl ?_;simp only[nm0,nm1,nm2,nm3]
 refine inw_pure (v:=.string F2) (fun W=>e2 ▸ run_slc_str W rfl (by simp[Act.eval]) (slc_str_lo (i:=32) W Tryz.underlying9 (by rw[hH];decide))) rfl rfl ?_;simp only[nm0,nm1,nm2,nm3]
 refine inw_row hM6 0 (v:=numV n) rfl rfl rfl rfl rowWn rfl rfl ?_;simp only[nm0,nm1,nm2,nm3]
 refine inw_callV (args:=#[numV n]) (v:=pv4 R) (fun W=>run_call_fn W (enters_of Tryz.func41 rfl rfl) rfl (by simp[Act.eval])) (fun W _=>KB.out W) rfl rfl ?_;simp only[nm0,nm1,nm2,nm3]
 refine inw_callV (args:=#[pv4 R]) (v:=.string PB) (fun W=>run_call_fn W (enters_of Tryz.func40 rfl rfl) rfl (by simp[Act.eval])) (fun W _=>KE.out W) rfl rfl ?_;simp only[nm0,nm1,nm2,nm3]
 refine inw_pure (v:=keyV n F2 PB) (fun W=>run_build_of rfl (by simp[Act.eval]) (bd_Key n F2 PB W)) rfl rfl ?_;simp only[nm0,nm1,nm2,nm3]
 refine inw_fin fun d os=>?_
 refine given_nil fun hap=>?_
 have hM7:=hM6.calls (below_regrown W6 d os)
 clear hap 
 generalize grow (redrawn W6 d) os=W7 at hM7 ⊢
 change wpAny _ _ _ _ 1 _ _ _
 refine any_set (n:=7) (by kernel_rfl) rfl hM7 2 (cs:=((keyR n F2 PB))) rfl rfl rfl rfl rowKey rfl (one_key _ _ _) rfl rfl fun W8 hM8=>?_
 simp only[nm2,nm3] at hM8
 refine wpAny_done (by kernel_rfl) ?_ _
 (go_step;go_step;go_step;refine bodyPost_ret (v:=keyV n F2 PB) (results_arr Tryz.results18 rfl (hM8.load 2 rfl rowKey)) rfl ⟨?_,hM8.below⟩)
 exact rfl
set_option maxRecDepth 20000 in
set_option maxHeartbeats 8000000 in
theorem keyof_z (s:ByteArray) (hs:s.size≠32) (w:World):Calls Tryz.prog 18 #[.string s] w fun E w'=>E=.returned (.agg keyZ)∧Below w.heap.size w w':=by
 have hodd:(s.size != 32)=true:=by rw[bne_iff_ne];exact hs
 have HMIX:=Lib.hid (show Tryz.prog.follows .mixedOrders=true by kernel_rfl)
 go_enter Tryz.func18,Tryz.ntmps18
 have hM0:=Mem.start w
 (go_step;go_step;refine wp_region_lit ?_)
 refine wl_new hM0 (f:=fun b=>.pointer (some ⟨b,0,none⟩)) (ob:=.cells keyZ 26 (0,0)) (fun W=>run_alloc_of rfl (al_Key W)) rfl fun b1 W1 hM1=>?_
 simp only[nm0,nm1,nm2,nm3]
 refine wpList_nil ?_
 (go_step;go_step;go_step;go_step;refine wp_region_lit ?_)
 refine wl_pure (v:=.string s) (fun _=>rfl) rfl ?_
 simp only[nm0,nm1,nm2,nm3]
 refine wl_pure (v:=.int .i64 (s.size:Int)) (fun W=>run_len_str W rfl (by simp[Act.eval]) rfl Tryz.underlying9) rfl ?_
 simp only[nm0,nm1,nm2,nm3]
 refine wl_pure (v:=.bool true) (fun W=>run_bin_of rfl rfl rfl (bin_neq_sz s.size true hodd _ _ W)) rfl ?_
 simp only[nm0,nm1,nm2,nm3]
 refine wpList_nil ?_
 (go_step;go_step;go_step;go_step;refine wp_region_lit ?_)
 refine wl_pure (v:=.agg keyZ) (fun W=>run_build_of rfl (by simp[Act.eval]) (bd_Key0 W)) rfl ?_
 simp only[nm0,nm1,nm2,nm3]
 refine wl_set hM1 0 (cs:=keyZ) rfl rfl rfl rfl rowKey rfl one_keyZ rfl rfl fun W2 hM2=>?_
 simp only[nm2,nm3] at hM2
 refine wpList_nil ?_
 (go_step;go_step;go_step;go_step;refine bodyPost_ret (v:=.agg keyZ) (results_arr Tryz.results18 rfl (hM2.load 0 rfl rowKey)) rfl ⟨?_,hM2.below⟩)
 exact rfl
set_option maxRecDepth 20000 in
set_option maxHeartbeats 8000000 in
theorem edof_w (s F2 PB:ByteArray) (n:Nat) (h3:wd n 3≠0) (KK:Hid (∀ w,Calls Tryz.prog 18 #[.string s] w fun e w'=>e=.returned (keyV n F2 PB)∧Below w.heap.size w w')) (w:World):Calls Tryz.prog 6 #[.string s] w fun E w'=>E=.returned (.tuple #[keyV n F2 PB,.int .i64 0])∧Below w.heap.size w w':=by
 have HMIX:=Lib.hid (show Tryz.prog.follows .mixedOrders=true by kernel_rfl)
 go_enter Tryz.func6,Tryz.ntmps6
 have hM0:=Mem.start w
 (go_step;go_step;refine wp_region_lit ?_)
 refine wl_new hM0 (f:=fun b=>.pointer (some ⟨b,0,none⟩)) (ob:=.cells keyZ 26 (0,0)) (fun W=>run_alloc_of rfl (al_Key W)) rfl fun b1 W1 hM1=>?_
 simp only[nm0,nm1,nm2,nm3]
 refine wl_pure (v:=.int .i64 0) (fun _=>rfl) rfl ?_
 simp only[nm0,nm1,nm2,nm3]
 refine wpList_nil ?_
 (go_step;go_step;go_step;refine wp_region_lit ?_)
 refine wl_pure (v:=.string s) (fun _=>rfl) rfl ?_
 simp only[nm0,nm1,nm2,nm3]
 refine wl_call hM1 (args:=#[.string s]) (v:=keyV n F2 PB) (fun W=>run_call_fn W (enters_of Tryz.func18 rfl rfl) rfl (by simp[Act.eval])) (KK.out W1) rfl fun W2 hM2=>?_
 simp only[nm0,nm1,nm2,nm3]
 refine wl_new hM2 (f:=fun b=>.pointer (some ⟨b,0,none⟩)) (ob:=.cells keyZ 26 (0,0)) (fun W=>run_alloc_of rfl (al_Key W)) rfl fun b2 W3 hM3=>?_
 simp only[nm0,nm1,nm2,nm3]
 refine wl_set hM3 0 (cs:=((keyR n F2 PB))) rfl rfl rfl rfl rowKey rfl (one_key _ _ _) rfl rfl fun W4 hM4=>?_
 simp only[nm2,nm3] at hM4
 refine wpList_nil ?_
 (go_step;go_step;go_step;go_step;refine wp_region_lit ?_)
 refine wl_row hM4 0 (v:=keyV n F2 PB) rfl rfl rfl rfl rowKey rfl ?_
 simp only[nm0,nm1,nm2,nm3]
 refine wl_pure (v:=.agg keyZ) (fun W=>run_build_of rfl (by simp[Act.eval]) (bd_Key0 W)) rfl ?_
 simp only[nm0,nm1,nm2,nm3]
 refine wl_pure (v:=.bool false) (fun W=>run_bin_of rfl rfl rfl (eq_key_zero n F2 PB h3 _ _ W)) rfl ?_
 simp only[nm0,nm1,nm2,nm3]
 refine wpList_nil ?_
 (go_step;go_step;go_step;go_step;go_step;go_step;go_step;refine wp_region_lit ?_)
 refine wl_row hM4 0 (v:=keyV n F2 PB) rfl rfl rfl rfl rowKey rfl ?_
 simp only[nm0,nm1,nm2,nm3]
 refine wl_set hM4 1 (cs:=((keyR n F2 PB))) rfl rfl rfl rfl rowKey rfl (one_key _ _ _) rfl rfl fun W5 hM5=>?_
 simp only[nm2,nm3] at hM5
 refine wl_pure (v:=.int .i64 0) (fun _=>rfl) rfl ?_
 simp only[nm0,nm1,nm2,nm3]
 refine wpList_nil ?_
 (go_step;go_step;go_step;refine bodyPost_ret (v:=.tuple #[keyV n F2 PB,.int .i64 0]) (results_arr_tmp Tryz.results6 rfl rfl (hM5.load 1 rfl rowKey)) rfl ⟨?_,hM5.below⟩)
 exact rfl
set_option maxRecDepth 20000 in
set_option maxHeartbeats 8000000 in
theorem edof_z (s:ByteArray) (hs:s.size≠32) (w:World):Calls Tryz.prog 6 #[.string s] w fun E w'=>E=.returned (.tuple #[.agg keyZ,.int .i64 1])∧Below w.heap.size w w':=by
 have KK:=Lib.hid (fun w=>keyof_z s hs w)
 have HMIX:=Lib.hid (show Tryz.prog.follows .mixedOrders=true by kernel_rfl)
 go_enter Tryz.func6,Tryz.ntmps6
 have hM0:=Mem.start w
 (go_step;go_step;refine wp_region_lit ?_)
 refine wl_new hM0 (f:=fun b=>.pointer (some ⟨b,0,none⟩)) (ob:=.cells keyZ 26 (0,0)) (fun W=>run_alloc_of rfl (al_Key W)) rfl fun b1 W1 hM1=>?_
 simp only[nm0,nm1,nm2,nm3]
 refine wl_pure (v:=.int .i64 0) (fun _=>rfl) rfl ?_
 simp only[nm0,nm1,nm2,nm3]
 refine wpList_nil ?_
 (go_step;go_step;go_step;refine wp_region_lit ?_)
 refine wl_pure (v:=.string s) (fun _=>rfl) rfl ?_
 simp only[nm0,nm1,nm2,nm3]
 refine wl_call hM1 (args:=#[.string s]) (v:=.agg keyZ) (fun W=>run_call_fn W (enters_of Tryz.func18 rfl rfl) rfl (by simp[Act.eval])) (KK.out W1) rfl fun W2 hM2=>?_
 simp only[nm0,nm1,nm2,nm3]
 refine wl_new hM2 (f:=fun b=>.pointer (some ⟨b,0,none⟩)) (ob:=.cells keyZ 26 (0,0)) (fun W=>run_alloc_of rfl (al_Key W)) rfl fun b2 W3 hM3=>?_
 simp only[nm0,nm1,nm2,nm3]
 refine wl_set hM3 0 (cs:=keyZ) rfl rfl rfl rfl rowKey rfl one_keyZ rfl rfl fun W4 hM4=>?_
 simp only[nm2,nm3] at hM4
 refine wpList_nil ?_
 (go_step;go_step;go_step;go_step;refine wp_region_lit ?_)
 refine wl_row hM4 0 (v:=.agg keyZ) rfl rfl rfl rfl rowKey rfl ?_
 simp only[nm0,nm1,nm2,nm3]
 refine wl_pure (v:=.agg keyZ) (fun W=>run_build_of rfl (by simp[Act.eval]) (bd_Key0 W)) rfl ?_
 simp only[nm0,nm1,nm2,nm3]
 refine wl_pure (v:=.bool true) (fun W=>run_bin_of rfl rfl rfl (eq_keyZ _ _ W)) rfl ?_
 simp only[nm0,nm1,nm2,nm3]
 refine wpList_nil ?_
 (go_step;go_step;go_step;go_step;refine wp_region_lit ?_)
 refine wl_pure (v:=.agg keyZ) (fun W=>run_build_of rfl (by simp[Act.eval]) (bd_Key0 W)) rfl ?_
 simp only[nm0,nm1,nm2,nm3]
 refine wl_set hM4 1 (cs:=keyZ) rfl rfl rfl rfl rowKey rfl one_keyZ rfl rfl fun W5 hM5=>?_
 simp only[nm2,nm3] at hM5
 refine wl_pure (v:=.int .i64 1) (fun _=>rfl) rfl ?_
 simp only[nm0,nm1,nm2,nm3]
 refine wpList_nil ?_
 (go_step;go_step;go_step;go_step;refine bodyPost_ret (v:=.tuple #[.agg keyZ,.int .i64 1]) (results_arr_tmp Tryz.results6 rfl rfl (hM5.load 1 rfl rowKey)) rfl ⟨?_,hM5.below⟩)
 exact rfl
set_option maxRecDepth 20000 in
set_option maxHeartbeats 8000000 in
theorem edpub_w (s F2 PB:ByteArray) (n:Nat) (KK:Hid (∀ w,Calls Tryz.prog 6 #[.string s] w fun e w'=>e=.returned (.tuple #[keyV n F2 PB,.int .i64 0])∧Below w.heap.size w w')) (w:World):Calls Tryz.prog 7 #[.string s] w fun E w'=>E=.returned (.tuple #[.string PB,.int .i64 0])∧Below w.heap.size w w':=by
 have HMIX:=Lib.hid (show Tryz.prog.follows .mixedOrders=true by kernel_rfl)
 go_enter Tryz.func7,Tryz.ntmps7
 have hM0:=Mem.start w
 (go_step;go_step;refine wp_region_lit ?_)
 refine wl_pure (v:=.string (⟨#[]⟩)) (fun _=>rfl) rfl ?_
 simp only[nm0,nm1,nm2,nm3]
 refine wl_pure (v:=.int .i64 0) (fun _=>rfl) rfl ?_
 simp only[nm0,nm1,nm2,nm3]
 refine wpList_nil ?_
 (go_step;go_step;go_step;refine wp_region_lit ?_)
 refine wl_pure (v:=.string s) (fun _=>rfl) rfl ?_
 simp only[nm0,nm1,nm2,nm3]
 refine wl_call hM0 (args:=#[.string s]) (v:=.tuple #[keyV n F2 PB,.int .i64 0]) (fun W=>run_call_fn W (enters_of Tryz.func6 rfl rfl) rfl (by simp[Act.eval])) (KK.out w) rfl fun W1 hM1=>?_
 simp only[nm0,nm1,nm2,nm3]
 refine wl_pure (v:=.tuple #[keyV n F2 PB,.int .i64 0]) (fun _=>rfl) rfl ?_
 simp only[nm0,nm1,nm2,nm3]
 refine wl_pure (v:=keyV n F2 PB) (fun _=>rfl) rfl ?_
 simp only[nm0,nm1,nm2,nm3]
 refine wl_pure (v:=.int .i64 0) (fun _=>rfl) rfl ?_
 simp only[nm0,nm1,nm2,nm3]
 refine wl_new hM1 (f:=fun b=>.pointer (some ⟨b,0,none⟩)) (ob:=.cells keyZ 26 (0,0)) (fun W=>run_alloc_of rfl (al_Key W)) rfl fun b1 W2 hM2=>?_
 simp only[nm0,nm1,nm2,nm3]
 refine wl_set hM2 0 (cs:=((keyR n F2 PB))) rfl rfl rfl rfl rowKey rfl (one_key _ _ _) rfl rfl fun W3 hM3=>?_
 simp only[nm2,nm3] at hM3
 refine wl_pure (v:=.int .i64 0) (fun _=>rfl) rfl ?_
 simp only[nm0,nm1,nm2,nm3]
 refine wpList_nil ?_
 (go_step;go_step;go_step;refine wp_region_lit ?_)
 refine wl_pure (v:=.pointer (some ⟨b1,5,none⟩)) (fun W=>run_field_of rfl rfl (fa_Key2 b1 W)) rfl ?_
 simp only[nm0,nm1,nm2,nm3]
 refine wl_cell hM3 0 (v:=.string PB) rfl rfl rfl rfl cellStr rfl ?_
 simp only[nm0,nm1,nm2,nm3]
 refine wl_pure (v:=.int .i64 0) (fun _=>rfl) rfl ?_
 simp only[nm0,nm1,nm2,nm3]
 refine wl_pure (v:=.string PB) (fun _=>rfl) rfl ?_
 simp only[nm0,nm1,nm2,nm3]
 refine wl_pure (v:=.int .i64 0) (fun _=>rfl) rfl ?_
 simp only[nm0,nm1,nm2,nm3]
 refine wpList_nil ?_
 (go_step;go_step;go_step;refine bodyPost_ret (v:=.tuple #[.string PB,.int .i64 0]) (results_slots2 Tryz.results7 rfl rfl) rfl ⟨rfl,hM3.below⟩)
set_option maxRecDepth 20000 in
set_option maxHeartbeats 8000000 in
theorem edpub_z (s:ByteArray) (hs:s.size≠32) (w:World):Calls Tryz.prog 7 #[.string s] w fun E w'=>E=.returned (.tuple #[.string ⟨#[]⟩,.int .i64 1])∧Below w.heap.size w w':=by
 have KK:=Lib.hid (fun w=>edof_z s hs w)
 have HMIX:=Lib.hid (show Tryz.prog.follows .mixedOrders=true by kernel_rfl)
 go_enter Tryz.func7,Tryz.ntmps7
 have hM0:=Mem.start w
 (go_step;go_step;refine wp_region_lit ?_)
 refine wl_pure (v:=.string (⟨#[]⟩)) (fun _=>rfl) rfl ?_
 simp only[nm0,nm1,nm2,nm3]
 refine wl_pure (v:=.int .i64 0) (fun _=>rfl) rfl ?_
 simp only[nm0,nm1,nm2,nm3]
 refine wpList_nil ?_
 (go_step;go_step;go_step;refine wp_region_lit ?_)
 refine wl_pure (v:=.string s) (fun _=>rfl) rfl ?_
 simp only[nm0,nm1,nm2,nm3]
 refine wl_call hM0 (args:=#[.string s]) (v:=.tuple #[.agg keyZ,.int .i64 1]) (fun W=>run_call_fn W (enters_of Tryz.func6 rfl rfl) rfl (by simp[Act.eval])) (KK.out w) rfl fun W1 hM1=>?_
 simp only[nm0,nm1,nm2,nm3]
 refine wl_pure (v:=.tuple #[.agg keyZ,.int .i64 1]) (fun _=>rfl) rfl ?_
 simp only[nm0,nm1,nm2,nm3]
 refine wl_pure (v:=.agg keyZ) (fun _=>rfl) rfl ?_
 simp only[nm0,nm1,nm2,nm3]
 refine wl_pure (v:=.int .i64 1) (fun _=>rfl) rfl ?_
 simp only[nm0,nm1,nm2,nm3]
 refine wl_new hM1 (f:=fun b=>.pointer (some ⟨b,0,none⟩)) (ob:=.cells keyZ 26 (0,0)) (fun W=>run_alloc_of rfl (al_Key W)) rfl fun b1 W2 hM2=>?_
 simp only[nm0,nm1,nm2,nm3]
 refine wl_set hM2 0 (cs:=keyZ) rfl rfl rfl rfl rowKey rfl one_keyZ rfl rfl fun W3 hM3=>?_
 simp only[nm2,nm3] at hM3
 refine wl_pure (v:=.int .i64 1) (fun _=>rfl) rfl ?_
 simp only[nm0,nm1,nm2,nm3]
 refine wpList_nil ?_
 (go_step;go_step;go_step;refine wp_region_lit ?_)
 refine wl_pure (v:=.pointer (some ⟨b1,5,none⟩)) (fun W=>run_field_of rfl rfl (fa_Key2 b1 W)) rfl ?_
 simp only[nm0,nm1,nm2,nm3]
 refine wl_cell hM3 0 (v:=.string (⟨#[]⟩)) rfl rfl rfl rfl cellStr rfl ?_
 simp only[nm0,nm1,nm2,nm3]
 refine wl_pure (v:=.int .i64 1) (fun _=>rfl) rfl ?_
 simp only[nm0,nm1,nm2,nm3]
 refine wl_pure (v:=.string (⟨#[]⟩)) (fun _=>rfl) rfl ?_
 simp only[nm0,nm1,nm2,nm3]
 refine wl_pure (v:=.int .i64 1) (fun _=>rfl) rfl ?_
 simp only[nm0,nm1,nm2,nm3]
 refine wpList_nil ?_
 (go_step;go_step;go_step;refine bodyPost_ret (v:=.tuple #[.string ⟨#[]⟩,.int .i64 1]) (results_slots2 Tryz.results7 rfl rfl) rfl ⟨rfl,hM3.below⟩)
set_option maxRecDepth 20000 in
set_option maxHeartbeats 8000000 in
theorem redof_w (s H F1 F2 PB:ByteArray) (N n:Nat) (Q:N3) (hH:H.size=64) (e1:H.extract 0 32=F1) (e2:H.extract 32 H.size=F2) (hn:n=clN N) (KH:Hid (∀ w,Calls Tryz.prog 21 #[.string s] w fun e w'=>e=.returned (.string H)∧Below w.heap.size w w')) (KN:Hid (∀ w,Calls Tryz.prog 22 #[.string F1] w fun e w'=>e=.returned (numV N)∧Below w.heap.size w w')) (KT:Hid (∀ w,Calls Tryz.prog 24 #[numV n,pv3 (bX,bY,1)] w fun e w'=>e=.returned (pv3 Q)∧Below w.heap.size w w')) (KE:Hid (∀ w,Calls Tryz.prog 23 #[pv3 Q] w fun e w'=>e=.returned (.string PB)∧Below w.heap.size w w')) (w:World):Calls Tryz.prog 9 #[.string s] w fun E w'=>E=.returned (.tuple #[numV n,.string F2,.string PB])∧Below w.heap.size w w':=by
 obtain⟨q0,eq0⟩:∃ q,wd N 0/8=q:=⟨_,rfl⟩
 obtain⟨q1,eq1⟩:∃ q,q0*8=q:=⟨_,rfl⟩
 obtain⟨q2,eq2⟩:∃ q,wd N 3%4611686018427387904=q:=⟨_,rfl⟩
 obtain⟨q3,eq3⟩:∃ q,q2+4611686018427387904=q:=⟨_,rfl⟩
 have w0:=wd_lt N 0
 have hq1:q1<18446744073709551616:=by omega
 have hq3:q3<18446744073709551616:=by omega
 have eRow:(#[.int .u64 (q1:Int),.int .u64 (wd N 1:Int),.int .u64 (wd N 2:Int),.int .u64 (q3:Int)]:Array Value)=elR n:=by
  rw[hn,clN_row,← eq3,← eq2,← eq1,← eq0]
 clear w0 hn
 have HMIX:=Lib.hid (show Tryz.prog.follows .mixedOrders=true by kernel_rfl)
 go_enter Tryz.func9,Tryz.ntmps9
 have hM0:=Mem.start w
 (go_step;go_step;refine wp_region_lit ?_)
 refine wl_new hM0 (f:=fun b=>.pointer (some ⟨b,0,none⟩)) (ob:=.cells z4 23 (0,0)) (fun W=>run_alloc_of rfl (al_Nu W)) rfl fun b1 W1 hM1=>?_
 simp only[nm0,nm1,nm2,nm3]
 refine wl_pure (v:=.string (⟨#[]⟩)) (fun _=>rfl) rfl ?_
 simp only[nm0,nm1,nm2,nm3]
 refine wl_pure (v:=.string (⟨#[]⟩)) (fun _=>rfl) rfl ?_
 simp only[nm0,nm1,nm2,nm3]
 refine wpList_nil ?_
 (go_step;go_step;go_step;refine wp_region_lit ?_)
 refine wl_pure (v:=.string s) (fun _=>rfl) rfl ?_
 simp only[nm0,nm1,nm2,nm3]
 refine wl_call hM1 (args:=#[.string s]) (v:=.string H) (fun W=>run_call_fn W (enters_of Tryz.func21 rfl rfl) rfl (by simp[Act.eval])) (KH.out W1) rfl fun W2 hM2=>?_
 simp only[nm0,nm1,nm2,nm3]
 refine wl_pure (v:=.string H) (fun _=>rfl) rfl ?_
 simp only[nm0,nm1,nm2,nm3]
 refine wpList_nil ?_
 (go_step;go_step;go_step;refine wp_region_lit ?_)
 refine wl_pure (v:=.string H) (fun _=>rfl) rfl ?_
 simp only[nm0,nm1,nm2,nm3]
 refine wl_pure (v:=.string F1) (fun W=>e1 ▸ run_slc_str W rfl (by simp[Act.eval]) (slc_str_hi (j:=32) W Tryz.underlying9 (by rw[hH];decide))) rfl ?_
 simp only[nm0,nm1,nm2,nm3]
 refine wl_call hM2 (args:=#[.string F1]) (v:=numV N) (fun W=>run_call_fn W (enters_of Tryz.func22 rfl rfl) rfl (by simp[Act.eval])) (KN.out W2) rfl fun W3 hM3=>?_
 simp only[nm0,nm1,nm2,nm3]
 refine wl_new hM3 (f:=fun b=>.pointer (some ⟨b,0,none⟩)) (ob:=.cells z4 23 (0,0)) (fun W=>run_alloc_of rfl (al_Nu W)) rfl fun b2 W4 hM4=>?_
 simp only[nm0,nm1,nm2,nm3]
 refine wl_set hM4 0 (cs:=(elR N)) rfl rfl rfl rfl rowNu rfl (one_el N) rfl rfl fun W5 hM5=>?_
 simp only[nm2,nm3] at hM5
 refine wpList_nil ?_
 (go_step;go_step;go_step;refine wp_region_lit ?_)
 refine wl_pure (v:=.pointer (some ⟨b2,0,none⟩)) (fun W=>run_index_of rfl rfl rfl (ix_Nu0 b2 W)) rfl ?_
 simp only[nm0,nm1,nm2,nm3]
 refine wl_cell hM5 0 (v:=.int .u64 (wd N 0:Int)) rfl rfl rfl rfl cellU rfl ?_
 simp only[nm0,nm1,nm2,nm3]
 refine wl_pure (v:=.int .u64 (q0:Int)) (fun W=>run_bin_of rfl rfl rfl (u64_bin_quo8 _ q0 eq0 (wd_lt _ _) _ _ W)) rfl ?_
 simp only[nm0,nm1,nm2,nm3]
 refine wl_pure (v:=.int .u64 (q1:Int)) (fun W=>run_bin_of rfl rfl rfl (u64_bin_mul8 q0 q1 eq1 hq1 _ _ W)) rfl ?_
 simp only[nm0,nm1,nm2,nm3]
 refine wl_pure (v:=.pointer (some ⟨b2,0,none⟩)) (fun W=>run_index_of rfl rfl rfl (ix_Nu0 b2 W)) rfl ?_
 simp only[nm0,nm1,nm2,nm3]
 refine wl_setat hM5 0 (cs':=#[.int .u64 (q1:Int),.int .u64 (wd N 1:Int),.int .u64 (wd N 2:Int),.int .u64 (wd N 3:Int)]) rfl rfl rfl rfl (by show 0<4;decide) (rfl) cellU rfl rfl rfl fun W6 hM6=>?_
 simp only[nm2,nm3] at hM6
 refine wpList_nil ?_
 (go_step;go_step;go_step;refine wp_region_lit ?_)
 refine wl_pure (v:=.pointer (some ⟨b2,3,none⟩)) (fun W=>run_index_of rfl rfl rfl (ix_Nu3 b2 W)) rfl ?_
 simp only[nm0,nm1,nm2,nm3]
 refine wl_cell hM6 0 (v:=.int .u64 (wd N 3:Int)) rfl rfl rfl rfl cellU rfl ?_
 simp only[nm0,nm1,nm2,nm3]
 refine wl_pure (v:=.int .u64 (q2:Int)) (fun W=>run_bin_of rfl rfl rfl (u64_bin_rem62 _ q2 eq2 _ _ W)) rfl ?_
 simp only[nm0,nm1,nm2,nm3]
 refine wl_pure (v:=.int .u64 (q3:Int)) (fun W=>run_bin_of rfl rfl rfl (u64_bin_add62 q2 q3 eq3 hq3 _ _ W)) rfl ?_
 simp only[nm0,nm1,nm2,nm3]
 refine wl_pure (v:=.pointer (some ⟨b2,3,none⟩)) (fun W=>run_index_of rfl rfl rfl (ix_Nu3 b2 W)) rfl ?_
 simp only[nm0,nm1,nm2,nm3]
 refine wl_setat hM6 0 (cs':=#[.int .u64 (q1:Int),.int .u64 (wd N 1:Int),.int .u64 (wd N 2:Int),.int .u64 (q3:Int)]) rfl rfl rfl rfl (by show 3<4;decide) (rfl) cellU rfl rfl rfl fun W7 hM7=>?_
 simp only[nm2,nm3] at hM7
 refine wpList_nil ?_
 rw[eRow] at hM7
 have hMd:=hM7.drew
 (go_step;go_step;go_step;refine wp_region_noPanic (wp_region_held_drew HMIX.out (S:=fun w1=>w1.heap[b2]?=some (.cells (elR n) 23 (0,0))) (hMd.get 0 rfl) fun hS=>?_))
 change wpAnyH _ _ _ _ _ 10 _ _ _
 generalize W7.drew=W8 at hMd hS ⊢
 have hM8:=hMd
 clear hMd
 refine hd_row 0 22 #[true,false,false,false,false,false,false,false,false,false] (by kernel_rfl) (v:=numV n) (cs:=(elR n)) (b:=b2) rfl rfl rfl rfl (fun W hW=>hW) rfl rowNu (by kernel_rfl) (by kernel_rfl) (by kernel_rfl) rfl hS ?_
 simp only[nm0,nm1,nm2,nm3]
 refine hd_take 1 23 #[true,true,false,false,false,false,false,false,false,false] (by kernel_rfl) (v:=.string H) rfl rfl (by kernel_rfl) (by kernel_rfl) (by kernel_rfl) rfl (fun _ _=>rfl) hS ?_
 simp only[nm0,nm1,nm2,nm3]
 refine hd_take 2 24 #[true,true,true,false,false,false,false,false,false,false] (by kernel_rfl) (v:=.string F2) rfl rfl (by kernel_rfl) (by kernel_rfl) (by kernel_rfl) rfl (fun W _=>e2 ▸ run_slc_str W rfl (by simp[Act.eval]) (slc_str_lo (i:=32) W Tryz.underlying9 (by rw[hH];decide))) hS ?_
 simp only[nm0,nm1,nm2,nm3]
 refine hd_row 3 25 #[true,true,true,true,false,false,false,false,false,false] (by kernel_rfl) (v:=numV n) (cs:=(elR n)) (b:=b2) rfl rfl rfl rfl (fun W hW=>hW) rfl rowNu (by kernel_rfl) (by kernel_rfl) (by kernel_rfl) rfl hS ?_
 simp only[nm0,nm1,nm2,nm3]
 refine hd_call (n:=4) (args:=#[]) (v:=pv3 ((bX,bY,1))) #[true,true,true,true,true,false,false,false,false,false] (by kernel_rfl) (by kernel_rfl) rfl rfl rfl hM8 (fun W=>run_call_fn W (enters_of Tryz.func25 rfl rfl) rfl (by simp[Act.eval])) (rbase_any W8) (fun W hW=>hW.get 0 rfl) fun W9 hM9=>?_
 have hS:W9.heap[b2]?=some (.cells (elR n) 23 (0,0)):=hM9.get 0 rfl
 simp only[nm0,nm1,nm2,nm3]
 refine hd_call (n:=5) (args:=#[numV n,pv3 ((bX,bY,1))]) (v:=pv3 Q) #[true,true,true,true,true,true,false,false,false,false] (by kernel_rfl) (by kernel_rfl) rfl rfl rfl hM9 (fun W=>run_call_fn W (enters_of Tryz.func24 rfl rfl) rfl (by simp[Act.eval])) (KT.out W9) (fun W hW=>hW.get 0 rfl) fun W10 hM10=>?_
 have hS:W10.heap[b2]?=some (.cells (elR n) 23 (0,0)):=hM10.get 0 rfl
 simp only[nm0,nm1,nm2,nm3]
 refine hd_call (n:=6) (args:=#[pv3 Q]) (v:=.string PB) #[true,true,true,true,true,true,true,false,false,false] (by kernel_rfl) (by kernel_rfl) rfl rfl rfl hM10 (fun W=>run_call_fn W (enters_of Tryz.func23 rfl rfl) rfl (by simp[Act.eval])) (KE.out W10) (fun W hW=>hW.get 0 rfl) fun W11 hM11=>?_
 have hS:W11.heap[b2]?=some (.cells (elR n) 23 (0,0)):=hM11.get 0 rfl
 simp only[nm0,nm1,nm2,nm3]
 refine hd_set (n:=7) #[true,true,true,true,true,true,true,true,false,false] (by kernel_rfl) (by kernel_rfl) rfl hM11 1 (cs:=(elR n)) rfl rfl rfl rfl rowNu rfl (one_el n) rfl rfl (fun W hW=>hW.get 0 rfl) fun W12 hM12=>?_
 simp only[nm2,nm3] at hM12
 have hS:W12.heap[b2]?=some (.cells (elR n) 23 (0,0)):=hM12.get 0 rfl
 refine hd_take 8 3 #[true,true,true,true,true,true,true,true,true,false] (by kernel_rfl) (v:=.string F2) rfl rfl (by kernel_rfl) (by kernel_rfl) (by kernel_rfl) rfl (fun _ _=>rfl) hS ?_
 simp only[nm0,nm1,nm2,nm3]
 refine hd_take 9 4 #[true,true,true,true,true,true,true,true,true,true] (by kernel_rfl) (v:=.string PB) rfl rfl (by kernel_rfl) (by kernel_rfl) (by kernel_rfl) rfl (fun _ _=>rfl) hS ?_
 simp only[nm0,nm1,nm2,nm3]
 refine wpAnyH_done (by kernel_rfl) ?_ _
 refine NoPanic.normal ?_
 (go_step;go_step;go_step;refine bodyPost_ret (v:=.tuple #[numV n,.string F2,.string PB]) (results_arr_tmp2 Tryz.results9 rfl rfl rfl (hM12.load 1 rfl rowNu)) rfl ⟨rfl,hM12.below⟩)
theorem extract_list (S:ByteArray) (i j:Nat):(S.extract i j).data.toList=(S.data.toList.drop i).take (j-i):=by
 rw[ByteArray.data_extract,Array.toList_extract,List.extract_eq_take_drop]
/-- What a seed of 32 bytes comes to. -/
theorem key_ex (s:ByteArray) (hs:s.size=32):∃ (F2 PB:ByteArray) (n:Nat),n=clN (leN ((shaB s.data.toList).take 32))∧PB=⟨(byL (encN (timesE n baseE).1.val (timesE n baseE).2.val)).toArray⟩∧F2.data.toList=(shaB s.data.toList).drop 32∧n<B64^4∧Hid (∀ w,Calls Tryz.prog 6 #[.string s] w fun E w'=>E=.returned (.tuple #[keyV n F2 PB,.int .i64 0])∧Below w.heap.size w w')∧Hid (∀ w,Calls Tryz.prog 7 #[.string s] w fun E w'=>E=.returned (.tuple #[.string PB,.int .i64 0])∧Below w.heap.size w w')∧Hid (∀ w,Calls Tryz.prog 9 #[.string s] w fun E w'=>E=.returned (.tuple #[numV n,.string F2,.string PB])∧Below w.heap.size w w'):=by
 have hl:s.data.toList.length=32:=by simpa using hs
 have hsh:=shaB_len s.data.toList hl
 have KH:=Lib.hid (fun g w hg=>sha_of s hs g w hg)
 have KR:=Lib.hid (fun w=>rsha_of s hs w)
 obtain⟨L,eL⟩:∃ L,shaB s.data.toList=L:=⟨_,rfl⟩
 rw[eL] at hsh KH KR ⊢
 obtain⟨H,eH⟩:∃ H:ByteArray,H=⟨L.toArray⟩:=⟨_,rfl⟩
 have hHL:H.data.toList=L:=by rw[eH]
 have hH:H.size=64:=by rw[eH];show L.toArray.size=64;rw[List.size_toArray];exact hsh
 rw[← eH] at KH KR
 obtain⟨F1,e1⟩:∃ F,H.extract 0 32=F:=⟨_,rfl⟩
 obtain⟨F2,e2⟩:∃ F,H.extract 32 H.size=F:=⟨_,rfl⟩
 have h1:F1.data.toList=L.take 32:=by rw[← e1,extract_list,hHL];rfl
 have h2:F2.data.toList=L.drop 32:=by
  rw[← e2,extract_list,hHL,hH]
  exact List.take_of_length_le (by rw[List.length_drop,hsh];decide)
 have h1s:F1.size=32:=by
  have:F1.data.toList.length=32:=by rw[h1,List.length_take,hsh];rfl
  simpa using this
 have KN:=Lib.hid (fun w=>ednum_any F1 h1s w)
 have KM:=Lib.hid (fun w=>number_any F1 h1s w)
 rw[h1] at KN KM
 obtain⟨N,eN⟩:∃ N,leN (L.take 32)=N:=⟨_,rfl⟩
 rw[eN] at KN KM ⊢
 obtain⟨n,en⟩:∃ n,n=clN N:=⟨_,rfl⟩
 have hn:n<B64^4:=by rw[en];exact clN_lt N
 have h3:wd n 3≠0:=by rw[en,clN_top];omega
 rw[← en] at KN ⊢
 obtain⟨R,oR,KB⟩:=base_ex n hn
 obtain⟨Q,oQ,KT⟩:=rtimes_ex ok3_base n hn
 have KE:=Lib.hid (fun w=>encode_any oR w)
 have KE2:=Lib.hid (fun w=>rencode_any oQ w)
 obtain⟨PB,eP⟩:∃ PB:ByteArray,PB=⟨(byL (encN (timesE n baseE).1.val (timesE n baseE).2.val)).toArray⟩:=⟨_,rfl⟩
 rw[← eP] at KE KE2
 have KK:=Lib.hid (fun w=>keyof_w s H F1 F2 PB n R hs hH e1 e2 KH KN KB KE w)
 have KO:=Lib.hid (fun w=>edof_w s F2 PB n h3 KK w)
 exact⟨F2,PB,n,rfl,eP,h2,hn,KO,Lib.hid (fun w=>edpub_w s F2 PB n KO w),Lib.hid (fun w=>redof_w s H F1 F2 PB N n Q hH e1 e2 en KR KM KT KE2 w)⟩
theorem bin_eql_nu_refl (n:Nat) (hn:n<B64^4) (x y:Operand) (W:World):(do eqGuard .eql 24 x y (numV n) (numV n);binOp .eql 24 (numV n) (numV n):Sem Value).run Tryz.prog W=.ok (.bool true) W:=by
 have h:=bin_eql_nu n n x y W hn hn
 rw[decide_eq_true rfl] at h
 exact h
set_option maxRecDepth 20000 in
set_option maxHeartbeats 8000000 in
theorem lives24_w (SD PB:ByteArray) (KU:Hid (∀ w,Calls Tryz.prog 19 #[.string ⟨#[57,100,54,49,98,49,57,100,101,102,102,100,53,97,54,48,98,97,56,52,52,97,102,52,57,50,101,99,50,99,99,52,52,52,52,57,99,53,54,57,55,98,51,50,54,57,49,57,55,48,51,98,97,99,48,51,49,99,97,101,55,102,54,48]⟩] w fun E w'=>E=.returned (.tuple #[.string SD,.int .i64 0])∧Below w.heap.size w w')) (KP:Hid (∀ w,Calls Tryz.prog 7 #[.string SD] w fun E w'=>E=.returned (.tuple #[.string PB,.int .i64 0])∧Below w.heap.size w w')) (KX:Hid (∀ w,Calls Tryz.prog 20 #[.string PB] w fun E w'=>E=.returned (.string ⟨#[100,55,53,97,57,56,48,49,56,50,98,49,48,97,98,55,100,53,52,98,102,101,100,51,99,57,54,52,48,55,51,97,48,101,101,49,55,50,102,51,100,97,97,54,50,51,50,53,97,102,48,50,49,97,54,56,102,55,48,55,53,49,49,97]⟩)∧Below w.heap.size w w')) (w:World):Calls Tryz.prog 8 #[] w fun E w'=>E=.returned (.bool true)∧Below w.heap.size w w':=by
 have HMIX:=Lib.hid (show Tryz.prog.follows .mixedOrders=true by kernel_rfl)
 go_enter Tryz.func8,Tryz.ntmps8
 have hM0:=Mem.start w
 (go_step;go_step;refine wp_region_lit ?_)
 refine wl_pure (v:=.bool false) (fun _=>rfl) rfl ?_
 simp only[nm0,nm1,nm2,nm3]
 refine wpList_nil ?_
 (go_step;go_step;go_step;refine wp_region_lit ?_)
 refine wl_call hM0 (args:=#[.string (⟨#[57,100,54,49,98,49,57,100,101,102,102,100,53,97,54,48,98,97,56,52,52,97,102,52,57,50,101,99,50,99,99,52,52,52,52,57,99,53,54,57,55,98,51,50,54,57,49,57,55,48,51,98,97,99,48,51,49,99,97,101,55,102,54,48]⟩)]) (v:=.tuple #[.string SD,.int .i64 0]) (fun W=>run_call_fn W (enters_of Tryz.func19 rfl rfl) rfl (by simp[Act.eval])) (KU.out w) rfl fun W1 hM1=>?_
 simp only[nm0,nm1,nm2,nm3]
 refine wl_pure (v:=.tuple #[.string SD,.int .i64 0]) (fun _=>rfl) rfl ?_
 simp only[nm0,nm1,nm2,nm3]
 refine wl_pure (v:=.string SD) (fun _=>rfl) rfl ?_
 simp only[nm0,nm1,nm2,nm3]
 refine wl_pure (v:=.int .i64 0) (fun _=>rfl) rfl ?_
 simp only[nm0,nm1,nm2,nm3]
 refine wl_pure (v:=.string SD) (fun _=>rfl) rfl ?_
 simp only[nm0,nm1,nm2,nm3]
 refine wl_pure (v:=.int .i64 0) (fun _=>rfl) rfl ?_
 simp only[nm0,nm1,nm2,nm3]
 refine wpList_nil ?_
 (go_step;go_step;go_step;refine wp_region_lit ?_)
 refine wl_pure (v:=.string SD) (fun _=>rfl) rfl ?_
 simp only[nm0,nm1,nm2,nm3]
 refine wl_call hM1 (args:=#[.string SD]) (v:=.tuple #[.string PB,.int .i64 0]) (fun W=>run_call_fn W (enters_of Tryz.func7 rfl rfl) rfl (by simp[Act.eval])) (KP.out W1) rfl fun W2 hM2=>?_
 simp only[nm0,nm1,nm2,nm3]
 refine wl_pure (v:=.tuple #[.string PB,.int .i64 0]) (fun _=>rfl) rfl ?_
 simp only[nm0,nm1,nm2,nm3]
 refine wl_pure (v:=.string PB) (fun _=>rfl) rfl ?_
 simp only[nm0,nm1,nm2,nm3]
 refine wl_pure (v:=.int .i64 0) (fun _=>rfl) rfl ?_
 simp only[nm0,nm1,nm2,nm3]
 refine wl_pure (v:=.string PB) (fun _=>rfl) rfl ?_
 simp only[nm0,nm1,nm2,nm3]
 refine wl_pure (v:=.int .i64 0) (fun _=>rfl) rfl ?_
 simp only[nm0,nm1,nm2,nm3]
 refine wpList_nil ?_
 (go_step;go_step;go_step;refine wp_region_lit ?_)
 refine wl_pure (v:=.string PB) (fun _=>rfl) rfl ?_
 simp only[nm0,nm1,nm2,nm3]
 refine wl_call hM2 (args:=#[.string PB]) (v:=.string (⟨#[100,55,53,97,57,56,48,49,56,50,98,49,48,97,98,55,100,53,52,98,102,101,100,51,99,57,54,52,48,55,51,97,48,101,101,49,55,50,102,51,100,97,97,54,50,51,50,53,97,102,48,50,49,97,54,56,102,55,48,55,53,49,49,97]⟩)) (fun W=>run_call_fn W (enters_of Tryz.func20 rfl rfl) rfl (by simp[Act.eval])) (KX.out W2) rfl fun W3 hM3=>?_
 simp only[nm0,nm1,nm2,nm3]
 refine wl_pure (v:=.bool true) (fun W=>run_bin_of rfl rfl rfl (eq_str (⟨#[100,55,53,97,57,56,48,49,56,50,98,49,48,97,98,55,100,53,52,98,102,101,100,51,99,57,54,52,48,55,51,97,48,101,101,49,55,50,102,51,100,97,97,54,50,51,50,53,97,102,48,50,49,97,54,56,102,55,48,55,53,49,49,97]⟩) _ _ W)) rfl ?_
 simp only[nm0,nm1,nm2,nm3]
 refine wl_pure (v:=.bool true) (fun _=>rfl) rfl ?_
 simp only[nm0,nm1,nm2,nm3]
 refine wl_pure (v:=.int .i64 0) (fun _=>rfl) rfl ?_
 simp only[nm0,nm1,nm2,nm3]
 refine wl_pure (v:=.bool true) (fun W=>run_eqint_of W rfl rfl rfl rfl) rfl ?_
 simp only[nm0,nm1,nm2,nm3]
 refine wl_pure (v:=.bool true) (fun _=>rfl) rfl ?_
 simp only[nm0,nm1,nm2,nm3]
 refine wl_pure (v:=.bool true) (fun _=>rfl) rfl ?_
 simp only[nm0,nm1,nm2,nm3]
 refine wpList_nil ?_
 (go_step;go_step;go_step;refine bodyPost_ret (v:=.bool true) (results_slot Tryz.results8 rfl) rfl ⟨?_,hM3.below⟩)
 exact rfl
/-- The document's example. -/
theorem ex_key:∃ (F2:ByteArray),Hid (∀ w,Calls Tryz.prog 6 #[.string ⟨exS.toArray⟩] w fun E w'=>E=.returned (.tuple #[keyV 36144925721603087658594284515452164870581325872720374094707712194495455132720 F2 ⟨([215,90,152,1,130,177,10,183,213,75,254,211,201,100,7,58,14,225,114,243,218,166,35,37,175,2,26,104,247,7,81,26]).toArray⟩,.int .i64 0])∧Below w.heap.size w w')∧Hid (∀ w,Calls Tryz.prog 7 #[.string ⟨exS.toArray⟩] w fun E w'=>E=.returned (.tuple #[.string ⟨([215,90,152,1,130,177,10,183,213,75,254,211,201,100,7,58,14,225,114,243,218,166,35,37,175,2,26,104,247,7,81,26]).toArray⟩,.int .i64 0])∧Below w.heap.size w w')∧F2.data.toList=[155,79,10,254,40,11,116,106,119,134,132,231,84,66,80,32,87,183,71,58,3,240,143,150,245,163,142,146,135,224,31,143]:=by
 obtain⟨F2,PB,n,en,eP,h2,_,KO,KP,_⟩:=key_ex ⟨exS.toArray⟩ rfl
 have el:(⟨exS.toArray⟩:ByteArray).data.toList=exS:=rfl
 rw[el,exS_hash] at en h2
 have en2:n=36144925721603087658594284515452164870581325872720374094707712194495455132720:=en.trans exS_num
 subst en2
 obtain⟨x1,x2⟩:=base_at 36144925721603087658594284515452164870581325872720374094707712194495455132720 38815646466658113194383306759739515082307681141926459231621296960732224964046 11903303657706407974989296177215005343713679411332034699907763981919547054807 (by decide +kernel) (by decide +kernel) (by decide +kernel) exS_tm
 rw[x1,x2,exS_pub] at eP
 subst eP
 exact⟨F2,KO,KP,h2⟩
theorem lives24_any (w:World):Calls Tryz.prog 8 #[] w fun E w'=>E=.returned (.bool true)∧Below w.heap.size w w':=by
 obtain⟨F2,KO,KP,_⟩:=ex_key
 have KU:=Lib.hid (fun w=>unhex_even ⟨#[57,100,54,49,98,49,57,100,101,102,102,100,53,97,54,48,98,97,56,52,52,97,102,52,57,50,101,99,50,99,99,52,52,52,52,57,99,53,54,57,55,98,51,50,54,57,49,57,55,48,51,98,97,99,48,51,49,99,97,101,55,102,54,48]⟩ w 32 (by decide) (by decide))
 rw[exS_unhex.1,exS_unhex.2] at KU
 have KX:=Lib.hid (fun w=>hex_any ⟨([215,90,152,1,130,177,10,183,213,75,254,211,201,100,7,58,14,225,114,243,218,166,35,37,175,2,26,104,247,7,81,26]).toArray⟩ w (by decide))
 have e:hexL ((⟨([215,90,152,1,130,177,10,183,213,75,254,211,201,100,7,58,14,225,114,243,218,166,35,37,175,2,26,104,247,7,81,26]).toArray⟩:ByteArray).data.toList)=[100,55,53,97,57,56,48,49,56,50,98,49,48,97,98,55,100,53,52,98,102,101,100,51,99,57,54,52,48,55,51,97,48,101,101,49,55,50,102,51,100,97,97,54,50,51,50,53,97,102,48,50,49,97,54,56,102,55,48,55,53,49,49,97]:=exS_hex
 rw[e] at KX
 obtain⟨SD,eS⟩:∃ S:ByteArray,S=⟨exS.toArray⟩:=⟨_,rfl⟩
 rw[← eS] at KU KP
 obtain⟨PB,eP⟩:∃ S:ByteArray,S=⟨([215,90,152,1,130,177,10,183,213,75,254,211,201,100,7,58,14,225,114,243,218,166,35,37,175,2,26,104,247,7,81,26]).toArray⟩:=⟨_,rfl⟩
 rw[← eP] at KP KX
 exact lives24_w SD PB KU KP KX w
set_option maxRecDepth 20000 in
set_option maxHeartbeats 8000000 in
theorem edkey_z (s:ByteArray) (hs:s.size≠32) (w:World):Calls Tryz.prog 3 #[.string s] w fun E w'=>E=.returned (.bool true)∧Below w.heap.size w w':=by
 have hodd:(s.size != 32)=true:=by rw[bne_iff_ne];exact hs
 have KO:=Lib.hid (fun w=>edof_z s hs w)
 have KP:=Lib.hid (fun w=>edpub_z s hs w)
 have HMIX:=Lib.hid (show Tryz.prog.follows .mixedOrders=true by kernel_rfl)
 go_enter Tryz.func3,Tryz.ntmps3
 have hM0:=Mem.start w
 (go_step;go_step;refine wp_region_lit ?_)
 refine wl_pure (v:=.bool false) (fun _=>rfl) rfl ?_
 simp only[nm0,nm1,nm2,nm3]
 refine wpList_nil ?_
 (go_step;go_step;go_step;refine wp_region_lit ?_)
 refine wl_pure (v:=.string s) (fun _=>rfl) rfl ?_
 simp only[nm0,nm1,nm2,nm3]
 refine wl_call hM0 (args:=#[.string s]) (v:=.tuple #[.agg keyZ,.int .i64 1]) (fun W=>run_call_fn W (enters_of Tryz.func6 rfl rfl) rfl (by simp[Act.eval])) (KO.out w) rfl fun W1 hM1=>?_
 simp only[nm0,nm1,nm2,nm3]
 refine wl_pure (v:=.tuple #[.agg keyZ,.int .i64 1]) (fun _=>rfl) rfl ?_
 simp only[nm0,nm1,nm2,nm3]
 refine wl_pure (v:=.agg keyZ) (fun _=>rfl) rfl ?_
 simp only[nm0,nm1,nm2,nm3]
 refine wl_pure (v:=.int .i64 1) (fun _=>rfl) rfl ?_
 simp only[nm0,nm1,nm2,nm3]
 refine wl_new hM1 (f:=fun b=>.pointer (some ⟨b,0,none⟩)) (ob:=.cells keyZ 26 (0,0)) (fun W=>run_alloc_of rfl (al_Key W)) rfl fun b1 W2 hM2=>?_
 simp only[nm0,nm1,nm2,nm3]
 refine wl_set hM2 0 (cs:=keyZ) rfl rfl rfl rfl rowKey rfl one_keyZ rfl rfl fun W3 hM3=>?_
 simp only[nm2,nm3] at hM3
 refine wl_pure (v:=.int .i64 1) (fun _=>rfl) rfl ?_
 simp only[nm0,nm1,nm2,nm3]
 refine wpList_nil ?_
 (go_step;go_step;go_step;refine wp_region_lit ?_)
 refine wl_pure (v:=.string s) (fun _=>rfl) rfl ?_
 simp only[nm0,nm1,nm2,nm3]
 refine wl_call hM3 (args:=#[.string s]) (v:=.tuple #[.string (⟨#[]⟩),.int .i64 1]) (fun W=>run_call_fn W (enters_of Tryz.func7 rfl rfl) rfl (by simp[Act.eval])) (KP.out W3) rfl fun W4 hM4=>?_
 simp only[nm0,nm1,nm2,nm3]
 refine wl_pure (v:=.tuple #[.string (⟨#[]⟩),.int .i64 1]) (fun _=>rfl) rfl ?_
 simp only[nm0,nm1,nm2,nm3]
 refine wl_pure (v:=.string (⟨#[]⟩)) (fun _=>rfl) rfl ?_
 simp only[nm0,nm1,nm2,nm3]
 refine wl_pure (v:=.int .i64 1) (fun _=>rfl) rfl ?_
 simp only[nm0,nm1,nm2,nm3]
 refine wl_pure (v:=.string (⟨#[]⟩)) (fun _=>rfl) rfl ?_
 simp only[nm0,nm1,nm2,nm3]
 refine wl_pure (v:=.int .i64 1) (fun _=>rfl) rfl ?_
 simp only[nm0,nm1,nm2,nm3]
 refine wpList_nil ?_
 (go_step;go_step;go_step;go_step;refine wp_region_lit ?_)
 refine wl_pure (v:=.string s) (fun _=>rfl) rfl ?_
 simp only[nm0,nm1,nm2,nm3]
 refine wl_pure (v:=.int .i64 (s.size:Int)) (fun W=>run_len_str W rfl (by simp[Act.eval]) rfl Tryz.underlying9) rfl ?_
 simp only[nm0,nm1,nm2,nm3]
 refine wl_pure (v:=.bool true) (fun W=>run_bin_of rfl rfl rfl (bin_neq_sz s.size true hodd _ _ W)) rfl ?_
 simp only[nm0,nm1,nm2,nm3]
 refine wpList_nil ?_
 (go_step;go_step;go_step;go_step;refine wp_region_lit ?_)
 refine wl_row hM4 0 (v:=.agg keyZ) rfl rfl rfl rfl rowKey rfl ?_
 simp only[nm0,nm1,nm2,nm3]
 refine wl_pure (v:=.agg keyZ) (fun W=>run_build_of rfl (by simp[Act.eval]) (bd_Key0 W)) rfl ?_
 simp only[nm0,nm1,nm2,nm3]
 refine wl_pure (v:=.bool true) (fun W=>run_bin_of rfl rfl rfl (eq_keyZ _ _ W)) rfl ?_
 simp only[nm0,nm1,nm2,nm3]
 refine wl_pure (v:=.bool true) (fun _=>rfl) rfl ?_
 simp only[nm0,nm1,nm2,nm3]
 refine wl_pure (v:=.int .i64 1) (fun _=>rfl) rfl ?_
 simp only[nm0,nm1,nm2,nm3]
 refine wl_pure (v:=.bool true) (fun W=>run_eqint_of W rfl rfl rfl rfl) rfl ?_
 simp only[nm0,nm1,nm2,nm3]
 refine wl_pure (v:=.bool true) (fun _=>rfl) rfl ?_
 simp only[nm0,nm1,nm2,nm3]
 refine wl_pure (v:=.bool true) (fun _=>rfl) rfl ?_
 simp only[nm0,nm1,nm2,nm3]
 refine wl_pure (v:=.string (⟨#[]⟩)) (fun _=>rfl) rfl ?_
 simp only[nm0,nm1,nm2,nm3]
 refine wl_pure (v:=.bool true) (fun W=>run_bin_of rfl rfl rfl (eq_str (⟨#[]⟩) _ _ W)) rfl ?_
 simp only[nm0,nm1,nm2,nm3]
 refine wl_pure (v:=.bool true) (fun _=>rfl) rfl ?_
 simp only[nm0,nm1,nm2,nm3]
 refine wl_pure (v:=.bool true) (fun _=>rfl) rfl ?_
 simp only[nm0,nm1,nm2,nm3]
 refine wl_pure (v:=.int .i64 1) (fun _=>rfl) rfl ?_
 simp only[nm0,nm1,nm2,nm3]
 refine wl_pure (v:=.bool true) (fun W=>run_eqint_of W rfl rfl rfl rfl) rfl ?_
 simp only[nm0,nm1,nm2,nm3]
 refine wl_pure (v:=.bool true) (fun _=>rfl) rfl ?_
 simp only[nm0,nm1,nm2,nm3]
 refine wl_pure (v:=.bool true) (fun _=>rfl) rfl ?_
 simp only[nm0,nm1,nm2,nm3]
 refine wl_call hM4 (args:=#[]) (v:=.bool true) (fun W=>run_call_fn W (enters_of Tryz.func8 rfl rfl) rfl (by simp[Act.eval])) (lives24_any W4) rfl fun W5 hM5=>?_
 simp only[nm0,nm1,nm2,nm3]
 refine wl_pure (v:=.bool true) (fun _=>rfl) rfl ?_
 simp only[nm0,nm1,nm2,nm3]
 refine wl_pure (v:=.bool true) (fun _=>rfl) rfl ?_
 simp only[nm0,nm1,nm2,nm3]
 refine wpList_nil ?_
 (go_step;go_step;go_step;go_step;refine bodyPost_ret (v:=.bool true) (results_slot Tryz.results3 rfl) rfl ⟨?_,hM5.below⟩)
 exact rfl
set_option maxRecDepth 20000 in
set_option maxHeartbeats 8000000 in
theorem edkey_y (s:ByteArray) (hs:s.size=32) (w:World):Calls Tryz.prog 3 #[.string s] w fun E w'=>E=.returned (.bool true)∧Below w.heap.size w w':=by
 have hodd:(s.size != 32)=false:=by rw[hs];rfl
 obtain⟨F2,PB,n,en,eP,h2,hn,KO,KP,KR⟩:=key_ex s hs
 clear h2
 have hon:=on_times baseE on_base n
 obtain⟨dE,dP⟩:=dec_enc (timesE n baseE) hon
 have hMain:=key_main n
 have hSmall:timesE 8 (timesE n baseE)≠zeroE:=by rw[en];exact key_small _
 clear en
 obtain⟨P,eQ⟩:∃ P,timesE n baseE=P:=⟨_,rfl⟩
 rw[eQ] at eP hon dE dP hMain hSmall
 have hPs:PB.size=32:=by rw[eP];exact byL_size _
 obtain⟨D,oD,KD⟩:=decode_any PB hPs
 have KD:=Lib.hid KD
 have hle:leN PB.data.toList=encN P.1.val P.2.val:=by rw[eP];exact leN_byL _ (enc_dec _ _ (Fin.isLt _)).2.2
 rw[hle,dE] at KD
 rw[hle,dP] at oD
 clear hle dE dP eP eQ hPs hon
 have HMIX:=Lib.hid (show Tryz.prog.follows .mixedOrders=true by kernel_rfl)
 go_enter Tryz.func3,Tryz.ntmps3
 have hM0:=Mem.start w
 (go_step;go_step;refine wp_region_lit ?_)
 refine wl_pure (v:=.bool false) (fun _=>rfl) rfl ?_
 simp only[nm0,nm1,nm2,nm3]
 refine wpList_nil ?_
 (go_step;go_step;go_step;refine wp_region_lit ?_)
 refine wl_pure (v:=.string s) (fun _=>rfl) rfl ?_
 simp only[nm0,nm1,nm2,nm3]
 refine wl_call hM0 (args:=#[.string s]) (v:=.tuple #[keyV n F2 PB,.int .i64 0]) (fun W=>run_call_fn W (enters_of Tryz.func6 rfl rfl) rfl (by simp[Act.eval])) (KO.out w) rfl fun W1 hM1=>?_
 simp only[nm0,nm1,nm2,nm3]
 refine wl_pure (v:=.tuple #[keyV n F2 PB,.int .i64 0]) (fun _=>rfl) rfl ?_
 simp only[nm0,nm1,nm2,nm3]
 refine wl_pure (v:=keyV n F2 PB) (fun _=>rfl) rfl ?_
 simp only[nm0,nm1,nm2,nm3]
 refine wl_pure (v:=.int .i64 0) (fun _=>rfl) rfl ?_
 simp only[nm0,nm1,nm2,nm3]
 refine wl_new hM1 (f:=fun b=>.pointer (some ⟨b,0,none⟩)) (ob:=.cells keyZ 26 (0,0)) (fun W=>run_alloc_of rfl (al_Key W)) rfl fun b1 W2 hM2=>?_
 simp only[nm0,nm1,nm2,nm3]
 refine wl_set hM2 0 (cs:=((keyR n F2 PB))) rfl rfl rfl rfl rowKey rfl (one_key _ _ _) rfl rfl fun W3 hM3=>?_
 simp only[nm2,nm3] at hM3
 refine wl_pure (v:=.int .i64 0) (fun _=>rfl) rfl ?_
 simp only[nm0,nm1,nm2,nm3]
 refine wpList_nil ?_
 (go_step;go_step;go_step;refine wp_region_lit ?_)
 refine wl_pure (v:=.string s) (fun _=>rfl) rfl ?_
 simp only[nm0,nm1,nm2,nm3]
 refine wl_call hM3 (args:=#[.string s]) (v:=.tuple #[.string PB,.int .i64 0]) (fun W=>run_call_fn W (enters_of Tryz.func7 rfl rfl) rfl (by simp[Act.eval])) (KP.out W3) rfl fun W4 hM4=>?_
 simp only[nm0,nm1,nm2,nm3]
 refine wl_pure (v:=.tuple #[.string PB,.int .i64 0]) (fun _=>rfl) rfl ?_
 simp only[nm0,nm1,nm2,nm3]
 refine wl_pure (v:=.string PB) (fun _=>rfl) rfl ?_
 simp only[nm0,nm1,nm2,nm3]
 refine wl_pure (v:=.int .i64 0) (fun _=>rfl) rfl ?_
 simp only[nm0,nm1,nm2,nm3]
 refine wl_pure (v:=.string PB) (fun _=>rfl) rfl ?_
 simp only[nm0,nm1,nm2,nm3]
 refine wl_pure (v:=.int .i64 0) (fun _=>rfl) rfl ?_
 simp only[nm0,nm1,nm2,nm3]
 refine wpList_nil ?_
 (go_step;go_step;go_step;go_step;refine wp_region_lit ?_)
 refine wl_pure (v:=.string s) (fun _=>rfl) rfl ?_
 simp only[nm0,nm1,nm2,nm3]
 refine wl_pure (v:=.int .i64 (s.size:Int)) (fun W=>run_len_str W rfl (by simp[Act.eval]) rfl Tryz.underlying9) rfl ?_
 simp only[nm0,nm1,nm2,nm3]
 refine wl_pure (v:=.bool false) (fun W=>run_bin_of rfl rfl rfl (bin_neq_sz s.size false hodd _ _ W)) rfl ?_
 simp only[nm0,nm1,nm2,nm3]
 refine wpList_nil ?_
 (go_step;go_step;go_step;go_step;go_step;go_step;go_step;refine wp_region_lit ?_)
 refine wl_pure (v:=.string s) (fun _=>rfl) rfl ?_
 simp only[nm0,nm1,nm2,nm3]
 refine wl_call hM4 (args:=#[.string s]) (v:=.tuple #[numV n,.string F2,.string PB]) (fun W=>run_call_fn W (enters_of Tryz.func9 rfl rfl) rfl (by simp[Act.eval])) (KR.out W4) rfl fun W5 hM5=>?_
 simp only[nm0,nm1,nm2,nm3]
 refine wl_pure (v:=.tuple #[numV n,.string F2,.string PB]) (fun _=>rfl) rfl ?_
 simp only[nm0,nm1,nm2,nm3]
 refine wl_pure (v:=numV n) (fun _=>rfl) rfl ?_
 simp only[nm0,nm1,nm2,nm3]
 refine wl_pure (v:=.string F2) (fun _=>rfl) rfl ?_
 simp only[nm0,nm1,nm2,nm3]
 refine wl_pure (v:=.string PB) (fun _=>rfl) rfl ?_
 simp only[nm0,nm1,nm2,nm3]
 refine wl_new hM5 (f:=fun b=>.pointer (some ⟨b,0,none⟩)) (ob:=.cells z4 23 (0,0)) (fun W=>run_alloc_of rfl (al_Nu W)) rfl fun b2 W6 hM6=>?_
 simp only[nm0,nm1,nm2,nm3]
 refine wl_set hM6 0 (cs:=(elR n)) rfl rfl rfl rfl rowNu rfl (one_el n) rfl rfl fun W7 hM7=>?_
 simp only[nm2,nm3] at hM7
 refine wl_pure (v:=.string F2) (fun _=>rfl) rfl ?_
 simp only[nm0,nm1,nm2,nm3]
 refine wl_pure (v:=.string PB) (fun _=>rfl) rfl ?_
 simp only[nm0,nm1,nm2,nm3]
 refine wpList_nil ?_
 (go_step;go_step;go_step;refine wp_region_lit ?_)
 refine wl_pure (v:=.string PB) (fun _=>rfl) rfl ?_
 simp only[nm0,nm1,nm2,nm3]
 refine wl_call hM7 (args:=#[.string PB]) (v:=.tuple #[pv4 D,.int .i64 0]) (fun W=>run_call_fn W (enters_of Tryz.func10 rfl rfl) rfl (by simp[Act.eval])) (KD.out W7) rfl fun W8 hM8=>?_
 simp only[nm0,nm1,nm2,nm3]
 refine wl_pure (v:=.tuple #[pv4 D,.int .i64 0]) (fun _=>rfl) rfl ?_
 simp only[nm0,nm1,nm2,nm3]
 refine wl_pure (v:=pv4 D) (fun _=>rfl) rfl ?_
 simp only[nm0,nm1,nm2,nm3]
 refine wl_pure (v:=.int .i64 0) (fun _=>rfl) rfl ?_
 simp only[nm0,nm1,nm2,nm3]
 refine wl_new hM8 (f:=fun b=>.pointer (some ⟨b,0,none⟩)) (ob:=.cells z16 39 (0,0)) (fun W=>run_alloc_of rfl (al_Pt W)) rfl fun b3 W9 hM9=>?_
 simp only[nm0,nm1,nm2,nm3]
 refine wl_set hM9 0 (cs:=((pc4 D))) rfl rfl rfl rfl rowPt rfl (one_p4 _) rfl rfl fun W10 hM10=>?_
 simp only[nm2,nm3] at hM10
 refine wl_pure (v:=.int .i64 0) (fun _=>rfl) rfl ?_
 simp only[nm0,nm1,nm2,nm3]
 refine wpList_nil ?_
 (go_step;go_step;go_step;refine wp_region_lit ?_)
 refine wl_pure (v:=.int .i64 0) (fun _=>rfl) rfl ?_
 simp only[nm0,nm1,nm2,nm3]
 refine wl_pure (v:=.bool true) (fun W=>run_eqint_of W rfl rfl rfl rfl) rfl ?_
 simp only[nm0,nm1,nm2,nm3]
 refine wl_pure (v:=.bool true) (fun _=>rfl) rfl ?_
 simp only[nm0,nm1,nm2,nm3]
 refine wl_pure (v:=.int .i64 0) (fun _=>rfl) rfl ?_
 simp only[nm0,nm1,nm2,nm3]
 refine wl_pure (v:=.bool true) (fun W=>run_eqint_of W rfl rfl rfl rfl) rfl ?_
 simp only[nm0,nm1,nm2,nm3]
 refine wl_pure (v:=.bool true) (fun _=>rfl) rfl ?_
 simp only[nm0,nm1,nm2,nm3]
 refine wl_pure (v:=.bool true) (fun _=>rfl) rfl ?_
 simp only[nm0,nm1,nm2,nm3]
 refine wl_pure (v:=.pointer (some ⟨b1,0,none⟩)) (fun W=>run_field_of rfl rfl (fa_Key0 b1 W)) rfl ?_
 simp only[nm0,nm1,nm2,nm3]
 refine wl_part hM10 2 (v:=numV n) (sub:=(elR n)) rfl rfl rfl rfl rfl rowWn rfl ?_
 simp only[nm0,nm1,nm2,nm3]
 refine wl_row hM10 1 (v:=numV n) rfl rfl rfl rfl rowNu rfl ?_
 simp only[nm0,nm1,nm2,nm3]
 refine wl_pure (v:=.bool true) (fun W=>run_bin_of rfl rfl rfl (bin_eql_nu_refl n hn _ _ W)) rfl ?_
 simp only[nm0,nm1,nm2,nm3]
 refine wl_pure (v:=.bool true) (fun _=>rfl) rfl ?_
 simp only[nm0,nm1,nm2,nm3]
 refine wl_pure (v:=.bool true) (fun _=>rfl) rfl ?_
 simp only[nm0,nm1,nm2,nm3]
 refine wl_pure (v:=.pointer (some ⟨b1,4,none⟩)) (fun W=>run_field_of rfl rfl (fa_Key1 b1 W)) rfl ?_
 simp only[nm0,nm1,nm2,nm3]
 refine wl_cell hM10 2 (v:=.string F2) rfl rfl rfl rfl cellStr rfl ?_
 simp only[nm0,nm1,nm2,nm3]
 refine wl_pure (v:=.string F2) (fun _=>rfl) rfl ?_
 simp only[nm0,nm1,nm2,nm3]
 refine wl_pure (v:=.bool true) (fun W=>run_bin_of rfl rfl rfl (eq_str F2 _ _ W)) rfl ?_
 simp only[nm0,nm1,nm2,nm3]
 refine wl_pure (v:=.bool true) (fun _=>rfl) rfl ?_
 simp only[nm0,nm1,nm2,nm3]
 refine wl_pure (v:=.bool true) (fun _=>rfl) rfl ?_
 simp only[nm0,nm1,nm2,nm3]
 refine wl_pure (v:=.pointer (some ⟨b1,5,none⟩)) (fun W=>run_field_of rfl rfl (fa_Key2 b1 W)) rfl ?_
 simp only[nm0,nm1,nm2,nm3]
 refine wl_cell hM10 2 (v:=.string PB) rfl rfl rfl rfl cellStr rfl ?_
 simp only[nm0,nm1,nm2,nm3]
 refine wl_pure (v:=.string PB) (fun _=>rfl) rfl ?_
 simp only[nm0,nm1,nm2,nm3]
 refine wl_pure (v:=.bool true) (fun W=>run_bin_of rfl rfl rfl (eq_str PB _ _ W)) rfl ?_
 simp only[nm0,nm1,nm2,nm3]
 refine wl_pure (v:=.bool true) (fun _=>rfl) rfl ?_
 simp only[nm0,nm1,nm2,nm3]
 refine wl_pure (v:=.bool true) (fun _=>rfl) rfl ?_
 simp only[nm0,nm1,nm2,nm3]
 refine wl_pure (v:=.string PB) (fun _=>rfl) rfl ?_
 simp only[nm0,nm1,nm2,nm3]
 refine wl_pure (v:=.string PB) (fun _=>rfl) rfl ?_
 simp only[nm0,nm1,nm2,nm3]
 refine wl_pure (v:=.bool true) (fun W=>run_bin_of rfl rfl rfl (eq_str PB _ _ W)) rfl ?_
 simp only[nm0,nm1,nm2,nm3]
 refine wl_pure (v:=.bool true) (fun _=>rfl) rfl ?_
 simp only[nm0,nm1,nm2,nm3]
 refine wl_pure (v:=.bool true) (fun _=>rfl) rfl ?_
 simp only[nm0,nm1,nm2,nm3]
 refine wl_pure (v:=.int .i64 0) (fun _=>rfl) rfl ?_
 simp only[nm0,nm1,nm2,nm3]
 refine wl_pure (v:=.bool true) (fun W=>run_eqint_of W rfl rfl rfl rfl) rfl ?_
 simp only[nm0,nm1,nm2,nm3]
 refine wl_pure (v:=.bool true) (fun _=>rfl) rfl ?_
 simp only[nm0,nm1,nm2,nm3]
 refine wl_pure (v:=.bool true) (fun _=>rfl) rfl ?_
 simp only[nm0,nm1,nm2,nm3]
 refine wl_row hM10 0 (v:=pv4 D) rfl rfl rfl rfl rowPt rfl ?_
 simp only[nm0,nm1,nm2,nm3]
 refine wl_call hM10 (args:=#[pv4 D]) (v:=.bool true) (fun W=>run_call_fn W (enters_of Tryz.func11 rfl rfl) rfl (by simp[Act.eval])) ((fun W=>mmain_any oD true (decide_eq_true hMain) W) W10) rfl fun W11 hM11=>?_
 simp only[nm0,nm1,nm2,nm3]
 refine wl_pure (v:=.bool true) (fun _=>rfl) rfl ?_
 simp only[nm0,nm1,nm2,nm3]
 refine wl_pure (v:=.bool true) (fun _=>rfl) rfl ?_
 simp only[nm0,nm1,nm2,nm3]
 refine wl_row hM11 0 (v:=pv4 D) rfl rfl rfl rfl rowPt rfl ?_
 simp only[nm0,nm1,nm2,nm3]
 refine wl_call hM11 (args:=#[pv4 D]) (v:=.bool false) (fun W=>run_call_fn W (enters_of Tryz.func12 rfl rfl) rfl (by simp[Act.eval])) ((fun W=>msmall_any oD false (decide_eq_false hSmall) W) W11) rfl fun W12 hM12=>?_
 simp only[nm0,nm1,nm2,nm3]
 refine wl_pure (v:=.bool true) (fun W=>run_not_of W rfl rfl rfl) rfl ?_
 simp only[nm0,nm1,nm2,nm3]
 refine wl_pure (v:=.bool true) (fun _=>rfl) rfl ?_
 simp only[nm0,nm1,nm2,nm3]
 refine wl_pure (v:=.bool true) (fun _=>rfl) rfl ?_
 simp only[nm0,nm1,nm2,nm3]
 refine wl_call hM12 (args:=#[]) (v:=.bool true) (fun W=>run_call_fn W (enters_of Tryz.func8 rfl rfl) rfl (by simp[Act.eval])) (lives24_any W12) rfl fun W13 hM13=>?_
 simp only[nm0,nm1,nm2,nm3]
 refine wl_pure (v:=.bool true) (fun _=>rfl) rfl ?_
 simp only[nm0,nm1,nm2,nm3]
 refine wl_pure (v:=.bool true) (fun _=>rfl) rfl ?_
 simp only[nm0,nm1,nm2,nm3]
 refine wpList_nil ?_
 (go_step;go_step;go_step;refine bodyPost_ret (v:=.bool true) (results_slot Tryz.results3 rfl) rfl ⟨?_,hM13.below⟩)
 exact rfl
theorem edkeyMakes_walk (s:ByteArray) (w:World) (_:s.size≤maxLen):Calls Tryz.prog 3 #[.string s] w fun e w'=>e=.returned (.bool true)∧Below w.heap.size w w':=by
 by_cases h:s.size=32
 ·exact edkey_y s h w
 ·exact edkey_z s h w
end Go.Proofs.YtnaldciakclccaaGreat
