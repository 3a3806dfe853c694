/- prime.Of (layer 19): its contract. Deferred calls in texts of whole rows. No program in it. pcode.Decode (layer 21): its contract. Parts of rows: a store behind a row's begin, a row that grows by append, what a row's tail forgets. No program in it. edkey.number (layer 24): its contract. A great prime that divides what the order of the curve's base is less 1. No program in it. The laws' helpers Is, Both, Low and lives (layer 20): their contracts. The laws' Low and lives (layer 20): their contracts. mult: four bits at a time (layer 23): numbers and points alone. -/
import Derived.Defers
import Derived.Laws.AppendOwn
import Derived.Test.YtnaldciakclccaaGreatEk11
import Derived.Test.YtnaldciakclccaaGreatEk15
import Derived.Test.YtnaldciakclccaaGreatEk04
namespace Go.Proofs.YtnaldciakclccaaGreat
set_option maxRecDepth 20000
set_option linter.unusedSimpArgs false
set_option linter.unusedVariables false
open Go.RowKit
theorem leN_B (s:ByteArray) (hs:s.size=32):leN s.data.toList<B64^4:=by
 have h:=leN_lt s.data.toList
 rw[show s.data.toList.length=32 by rw[← hs];rfl,show (256:Nat)^32=B64^4 by decide +kernel] at h
 exact h
set_option maxHeartbeats 8000000 in
theorem pof_any (s:ByteArray) (w:World) (hs:s.size=32):Calls Tryz.prog 30 #[.string s] w fun e w'=>e=.returned (.tuple (if leN s.data.toList<PN then #[numV (leN s.data.toList),.int .i64 0] else #[numV 0,.int .i64 2]))∧Below w.heap.size w w':=by
 have HMIX:=Lib.hid (show Tryz.prog.follows .mixedOrders=true by kernel_rfl)
 have hnB:=leN_B s hs
 have K1:=Lib.hid (fun w=>of_any s w hs)
 obtain⟨n,hn⟩:∃ n,leN s.data.toList=n:=⟨_,rfl⟩
 rw[hn] at K1 hnB
 rw[hn]
 have K2:=Lib.hid p_any
 have K3:=Lib.hid (fun w=>cmp_any n PN w hnB PN_B)
 have cge:=mod_cmp_ge n
 have clt:=mod_cmp_lt n
 obtain⟨C,hC⟩:∃ C,cmpI n PN=C:=⟨_,rfl⟩
 rw[hC] at K3 cge clt
 obtain⟨p,hp⟩:∃ p,PN=p:=⟨_,rfl⟩
 rw[hp] at K2 K3 cge clt ⊢
 obtain⟨xr,xz,xB⟩:=z1_at 36 w
 rw[num_zero]
 simp only[numV_agg] at K1 K2 K3 ⊢
 have hc1:p≤n→(0:Int)≤C:=cge
 have hc2:n<p→¬ (0:Int)≤C:=clt
 clear hs hn hnB hC hp cge clt
 by_cases hlt:n<p
 ·have q1:=hc2 hlt
  rw[if_pos hlt]
  clear hc1 hc2 hlt
  go_enter Tryz.func30,Tryz.ntmps30
  go_wp2_with fail
  change Calls _ _ _ (Z1 36 w) _
  generalize Z1 36 w=X at *
  refine (K1.out X).mono ?_
  rintro e w1 ⟨rfl,hb1⟩
  have hs1:w.heap.size+1≤w1.heap.size:=by have:=hb1.size;omega
  have XR:=Lib.hid ((xr.keep hb1).alloc (.cells #[.int .u64 (wd n 0:Int),.int .u64 (wd n 1:Int),.int .u64 (wd n 2:Int),.int .u64 (wd n 3:Int)] 24))
  have XB:=Lib.hid (b_alloc (b_callsS hb1 xB (Nat.le_refl _)) (.cells #[.int .u64 (wd n 0:Int),.int .u64 (wd n 1:Int),.int .u64 (wd n 2:Int),.int .u64 (wd n 3:Int)] 24))
  have XA:Hid (IsA (w1.alloc (.cells #[.int .u64 (wd n 0:Int),.int .u64 (wd n 1:Int),.int .u64 (wd n 2:Int),.int .u64 (wd n 3:Int)] 24)) w1.heap.size n 24):=(alloc_new w1 _ :)
  clear xr xz xB hb1 K1
  obtain⟨⟨p0,p1,p2,p3⟩,_⟩:=fourV XA.out
  have D0:=fun d os=>cell_regrown p0 d os
  have D1:=fun d os=>cell_regrown p1 d os
  have D2:=fun d os=>cell_regrown p2 d os
  have D3:=fun d os=>cell_regrown p3 d os
  clear p0 p1 p2 p3
  go_wp2_with fail
  generalize w1.alloc (.cells #[.int .u64 (wd n 0:Int),.int .u64 (wd n 1:Int),.int .u64 (wd n 2:Int),.int .u64 (wd n 3:Int)] 24)=Y at *
  refine wp_region_quiet_below HMIX.out (by kernel_rfl) ?_
  repeat (go_big_quiet_step (first
   | (go_at_call 75;exact Calls.regrown_of (K2.out _))
   | (go_at_call 74;exact Calls.regrown_of (K3.out _))))
  refine wpQuiet_nil ?_
  intro _ hw'
  obtain⟨⟨nq1,os1⟩,hw''⟩:=hw'
  subst hw''
  have xa:=isA_calls (below_regrown Y nq1 os1) XA.out (Nat.le_refl _)
  have xr:=isA_zero' (isA_calls (below_regrown Y nq1 os1) XR.out (Nat.le_refl _))
  have xB:=b_callsS (below_regrown Y nq1 os1) XB.out (Nat.le_refl _)
  clear D0 D1 D2 D3 XA XR XB K2 K3
  generalize Sort.grow (redrawn Y nq1) os1=U2 at xa xr xB ⊢
  obtain⟨⟨p0,p1,p2,p3⟩,_⟩:=fourV xa
  obtain⟨⟨d0,d1,d2,d3⟩,e0,e1,e2,e3⟩:=fourV xr
  have KL:=Lib.hid (load_el (isA_set (n:=n) xr))
  have BR:=Lib.hid (b_set4 xB (v0:=.int .u64 (wd n 0:Int)) (v1:=.int .u64 (wd n 1:Int)) (v2:=.int .u64 (wd n 2:Int)) (v3:=.int .u64 (wd n 3:Int)) (b:=w.heap.size) (Nat.le_refl _))
  clear xa xr xB
  go_wp2_with fail
  exact bodyPost_ret (results_arr_tmp Tryz.results30 (by rfl) (by rfl) KL.out) rfl ⟨rfl,BR.out⟩
 ·have q1:=hc1 (Nat.le_of_not_lt hlt)
  rw[if_neg hlt]
  clear hc1 hc2 hlt
  go_enter Tryz.func30,Tryz.ntmps30
  go_wp2_with fail
  change Calls _ _ _ (Z1 36 w) _
  generalize Z1 36 w=X at *
  refine (K1.out X).mono ?_
  rintro e w1 ⟨rfl,hb1⟩
  have hs1:w.heap.size+1≤w1.heap.size:=by have:=hb1.size;omega
  have XR:=Lib.hid ((xr.keep hb1).alloc (.cells #[.int .u64 (wd n 0:Int),.int .u64 (wd n 1:Int),.int .u64 (wd n 2:Int),.int .u64 (wd n 3:Int)] 24))
  have XB:=Lib.hid (b_alloc (b_callsS hb1 xB (Nat.le_refl _)) (.cells #[.int .u64 (wd n 0:Int),.int .u64 (wd n 1:Int),.int .u64 (wd n 2:Int),.int .u64 (wd n 3:Int)] 24))
  have XA:Hid (IsA (w1.alloc (.cells #[.int .u64 (wd n 0:Int),.int .u64 (wd n 1:Int),.int .u64 (wd n 2:Int),.int .u64 (wd n 3:Int)] 24)) w1.heap.size n 24):=(alloc_new w1 _ :)
  clear xr xz xB hb1 K1
  obtain⟨⟨p0,p1,p2,p3⟩,_⟩:=fourV XA.out
  have D0:=fun d os=>cell_regrown p0 d os
  have D1:=fun d os=>cell_regrown p1 d os
  have D2:=fun d os=>cell_regrown p2 d os
  have D3:=fun d os=>cell_regrown p3 d os
  clear p0 p1 p2 p3
  go_wp2_with fail
  generalize w1.alloc (.cells #[.int .u64 (wd n 0:Int),.int .u64 (wd n 1:Int),.int .u64 (wd n 2:Int),.int .u64 (wd n 3:Int)] 24)=Y at *
  refine wp_region_quiet_below HMIX.out (by kernel_rfl) ?_
  repeat (go_big_quiet_step (first
   | (go_at_call 75;exact Calls.regrown_of (K2.out _))
   | (go_at_call 74;exact Calls.regrown_of (K3.out _))))
  refine wpQuiet_nil ?_
  intro _ hw'
  obtain⟨⟨nq1,os1⟩,hw''⟩:=hw'
  subst hw''
  have xr:=isA_zero' (isA_calls (below_regrown Y nq1 os1) XR.out (Nat.le_refl _))
  have xB:=b_callsS (below_regrown Y nq1 os1) XB.out (Nat.le_refl _)
  clear D0 D1 D2 D3 XA XR XB K2 K3
  generalize Sort.grow (redrawn Y nq1) os1=U2 at xr xB ⊢
  obtain⟨⟨d0,d1,d2,d3⟩,e0,e1,e2,e3⟩:=fourV xr
  have kl:=load_el (isA_zero (set4_row (v0:=.int .u64 0) (v1:=.int .u64 0) (v2:=.int .u64 0) (v3:=.int .u64 0) xr))
  rw[num_zero] at kl
  have KL:=Lib.hid kl
  have BR:=Lib.hid (b_set4 xB (v0:=.int .u64 0) (v1:=.int .u64 0) (v2:=.int .u64 0) (v3:=.int .u64 0) (b:=w.heap.size) (Nat.le_refl _))
  clear xr xB kl
  go_wp2_with fail
  exact bodyPost_ret (results_arr_tmp Tryz.results30 (by rfl) (by rfl) KL.out) rfl ⟨rfl,BR.out⟩
open Go.RowKit Go.Sort
section
variable {P:Program} {ops:Array Oper} {w:World} {Q:Exit→Act→World→Prop} {o:Oper} {rest:List Oper} {A:Act}
theorem wl_defer {d:Deferred} (h:∀ W,(execOp A.eval o).run P W=.ok (.defer d) W) (hd:o.dst=none) (hgd:Region.wanted o (yielded ops A.tmps)=true) (hr:wpList P ops Q rest { tmps:=A.tmps,defers:=d::A.defers } w):wpList P ops Q (o::rest) A w:=by
 refine wpList_step fun K hK=>?_
 rw[if_pos hgd]
 unfold Oper.wp
 rw[h]
 refine hK _ _ ?_
 rw[hd]
 exact hr
theorem run_defer_of {x:Operand} {fn:Fn} {first cap:Array Value} (W:World) (ho:o.op=.defer { callee:=.value x,args:=#[],argTypes:=#[] }) (hx:A.eval x=.func fn first cap):(execOp A.eval o).run P W=.ok (.defer { target:=.fn fn cap,args:=first }) W:=by
 unfold execOp
 simp[ho,resolve,hx,Deferred.ofValue]
end
theorem cellErr:CellTy Tryz.prog 27:=⟨⟨_,Tryz.underlying27,rfl⟩,by kernel_rfl⟩
theorem al_Err (W:World):(Instr.alloc 27 true (.tuple #[])).run Tryz.prog W=.ok (.pointer (some ⟨W.heap.size,0,none⟩)) (W.alloc (.cells #[.int .i64 0] 27 (0,0))):=by
 go_simp
theorem al_Wn (W:World):(Instr.alloc 24 true (.tuple #[])).run Tryz.prog W=.ok (.pointer (some ⟨W.heap.size,0,none⟩)) (W.alloc (.cells z4 24 (0,0))):=by
 unfold z4
 go_simp
theorem bin_neq_err (a:Nat) (x y:Operand) (W:World):(do eqGuard .neq 27 x y (.int .i64 (a:Int)) (.int .i64 0);binOp .neq 27 (.int .i64 (a:Int)) (.int .i64 0):Sem Value).run Tryz.prog W=.ok (.bool (!decide (a=0))) W:=by
 have e:((a:Int) == 0)=decide (a=0):=by
  rw[Bool.eq_iff_iff]
  simp
 go_simp
 rw[bne,e]
/-- The highest bit struck. -/
theorem num_low (n:Nat):(elR n).setIfInBounds 3 (.int .u64 ((wd n 3%9223372036854775808:Nat):Int))=elR (n%(9223372036854775808*B64^3)):=by
 have e0:wd (n%(9223372036854775808*B64^3)) 0=wd n 0:=by
  unfold wd
  rw[Nat.pow_zero,Nat.div_one,Nat.div_one,show 9223372036854775808*B64^3=B64*(9223372036854775808*B64^2) by decide +kernel,Nat.mod_mul_right_mod]
 have e1:wd (n%(9223372036854775808*B64^3)) 1=wd n 1:=by
  unfold wd
  rw[show 9223372036854775808*B64^3=B64^1*(B64*(9223372036854775808*B64)) by decide +kernel,Nat.mod_mul_right_div_self,Nat.mod_mul_right_mod]
 have e2:wd (n%(9223372036854775808*B64^3)) 2=wd n 2:=by
  unfold wd
  rw[show 9223372036854775808*B64^3=B64^2*(B64*9223372036854775808) by decide +kernel,Nat.mod_mul_right_div_self,Nat.mod_mul_right_mod]
 have e3:wd (n%(9223372036854775808*B64^3)) 3=wd n 3%9223372036854775808:=by
  unfold wd
  rw[show 9223372036854775808*B64^3=B64^3*9223372036854775808 by decide +kernel,Nat.mod_mul_right_div_self]
  obtain⟨q,hq⟩:∃ q,n/B64^3=q:=⟨_,rfl⟩
  rw[hq]
  rw[show B64=18446744073709551616 from rfl]
  omega
 unfold elR
 rw[e0,e1,e2,e3]
 rfl
theorem dec1_any (w0 w:World) (M:List Blk) (i j be bp e:Nat) (old:Array Value) (hM:Mem w0 M w) (hi:M[i]?=some (be,.cells #[.int .i64 (e:Int)] 27 (0,0))) (hj:M[j]?=some (bp,.cells old 39 (0,0))) (ho:old.size=16) :
    CallsD Tryz.prog 26 #[.pointer (some ⟨be,0,none⟩),.pointer (some ⟨bp,0,none⟩)] .returning w fun E u w'=>u=.returning∧(E=.returned (.tuple #[])∧Mem w0 (if e=0 then M else M.set j (bp,.cells (pc4 zero4) 39 (0,0))) w'):=by
 by_cases h0:e=0
 ·rw[if_pos h0]
  have KB:=fun x y W=>bin_neq_err e x y W
  rw[decide_eq_true h0] at KB
  go_enter_d Tryz.func26,Tryz.ntmps26
  (first | (refine wp_region_lit ?_) | (go_step;(first | (refine wp_region_lit ?_) | (go_step;(first | (refine wp_region_lit ?_) | (go_step;(first | (refine wp_region_lit ?_) | (go_step;(first | (refine wp_region_lit ?_) | (go_step;(first | (refine wp_region_lit ?_) | (go_step;(first | (refine wp_region_lit ?_) | (go_step;(refine wp_region_lit ?_)))))))))))))))
  refine wl_cell hM i (v:=.int .i64 (e:Int)) rfl rfl hi rfl cellErr rfl ?_
  simp only[nm0,nm1,nm2,nm3]
  refine wl_pure (v:=.bool false) (fun W=>run_bin_of rfl rfl rfl (KB _ _ W)) rfl ?_
  simp only[nm0,nm1,nm2,nm3]
  refine wpList_nil ?_
  (first | (refine bodyPost_end (v:=.tuple #[]) (results_none Tryz.results26 _ _ _) rfl ⟨rfl,hM⟩) | (go_step;(first | (refine bodyPost_end (v:=.tuple #[]) (results_none Tryz.results26 _ _ _) rfl ⟨rfl,hM⟩) | (go_step;(first | (refine bodyPost_end (v:=.tuple #[]) (results_none Tryz.results26 _ _ _) rfl ⟨rfl,hM⟩) | (go_step;(first | (refine bodyPost_end (v:=.tuple #[]) (results_none Tryz.results26 _ _ _) rfl ⟨rfl,hM⟩) | (go_step;(first | (refine bodyPost_end (v:=.tuple #[]) (results_none Tryz.results26 _ _ _) rfl ⟨rfl,hM⟩) | (go_step;(first | (refine bodyPost_end (v:=.tuple #[]) (results_none Tryz.results26 _ _ _) rfl ⟨rfl,hM⟩) | (go_step;(first | (refine bodyPost_end (v:=.tuple #[]) (results_none Tryz.results26 _ _ _) rfl ⟨rfl,hM⟩) | (go_step;(refine bodyPost_end (v:=.tuple #[]) (results_none Tryz.results26 _ _ _) rfl ⟨rfl,hM⟩)))))))))))))))
 ·rw[if_neg h0]
  have KB:=fun x y W=>bin_neq_err e x y W
  rw[decide_eq_false h0] at KB
  go_enter_d Tryz.func26,Tryz.ntmps26
  (first | (refine wp_region_lit ?_) | (go_step;(first | (refine wp_region_lit ?_) | (go_step;(first | (refine wp_region_lit ?_) | (go_step;(first | (refine wp_region_lit ?_) | (go_step;(first | (refine wp_region_lit ?_) | (go_step;(first | (refine wp_region_lit ?_) | (go_step;(first | (refine wp_region_lit ?_) | (go_step;(refine wp_region_lit ?_)))))))))))))))
  refine wl_cell hM i (v:=.int .i64 (e:Int)) rfl rfl hi rfl cellErr rfl ?_
  simp only[nm0,nm1,nm2,nm3]
  refine wl_pure (v:=.bool true) (fun W=>run_bin_of rfl rfl rfl (KB _ _ W)) rfl ?_
  simp only[nm0,nm1,nm2,nm3]
  refine wpList_nil ?_
  (first | (refine wp_region_lit ?_) | (go_step;(first | (refine wp_region_lit ?_) | (go_step;(first | (refine wp_region_lit ?_) | (go_step;(first | (refine wp_region_lit ?_) | (go_step;(first | (refine wp_region_lit ?_) | (go_step;(first | (refine wp_region_lit ?_) | (go_step;(first | (refine wp_region_lit ?_) | (go_step;(refine wp_region_lit ?_)))))))))))))))
  refine wl_call hM (args:=#[]) (v:=pv4 zero4) (fun W=>run_call_fn W (enters_of Tryz.func27 rfl rfl) rfl (by simp)) (zero4_any w) rfl fun W1 hM1=>?_
  simp only[nm0,nm1,nm2,nm3]
  refine wl_set hM1 j (cs:=pc4 zero4) rfl rfl rfl hj rowPt ho (one_p4 _) rfl rfl fun W2 hM2=>?_
  refine wpList_nil ?_
  (first | (refine bodyPost_end (v:=.tuple #[]) (results_none Tryz.results26 _ _ _) rfl ⟨rfl,hM2⟩) | (go_step;(first | (refine bodyPost_end (v:=.tuple #[]) (results_none Tryz.results26 _ _ _) rfl ⟨rfl,hM2⟩) | (go_step;(first | (refine bodyPost_end (v:=.tuple #[]) (results_none Tryz.results26 _ _ _) rfl ⟨rfl,hM2⟩) | (go_step;(first | (refine bodyPost_end (v:=.tuple #[]) (results_none Tryz.results26 _ _ _) rfl ⟨rfl,hM2⟩) | (go_step;(first | (refine bodyPost_end (v:=.tuple #[]) (results_none Tryz.results26 _ _ _) rfl ⟨rfl,hM2⟩) | (go_step;(first | (refine bodyPost_end (v:=.tuple #[]) (results_none Tryz.results26 _ _ _) rfl ⟨rfl,hM2⟩) | (go_step;(first | (refine bodyPost_end (v:=.tuple #[]) (results_none Tryz.results26 _ _ _) rfl ⟨rfl,hM2⟩) | (go_step;(refine bodyPost_end (v:=.tuple #[]) (results_none Tryz.results26 _ _ _) rfl ⟨rfl,hM2⟩)))))))))))))))
section
variable {P:Program} {w w0 w' W:World} {M:List Blk} {o:Oper} {A:Act}
theorem Mem.tail {x:Blk} (h:Mem w0 (x::M) w):Mem w0 M w :=
 ⟨h.below,fun p hp=>h.low p (List.mem_cons_of_mem _ hp),(List.pairwise_cons.1 h.nod).2,fun p hp=>h.at_ p (List.mem_cons_of_mem _ hp)⟩
theorem Mem.swap {x y:Blk} (h:Mem w0 (x::y::M) w):Mem w0 (y::x::M) w:=by
 refine⟨h.below,fun p hp=>h.low p ?_,?_,fun p hp=>h.at_ p ?_⟩
 ·simp only[List.mem_cons] at hp ⊢
  rcases hp with h1 | h1 | h1
  ·exact .inr (.inl h1)
  ·exact .inl h1
  ·exact .inr (.inr h1)
 ·have h1:=List.pairwise_cons.1 h.nod
  have h2:=List.pairwise_cons.1 h1.2
  refine List.pairwise_cons.2 ⟨fun p hp=>?_,List.pairwise_cons.2 ⟨fun p hp=>h1.1 p (List.mem_cons_of_mem _ hp),h2.2⟩⟩
  rcases List.mem_cons.1 hp with rfl | hp
  ·exact fun e=>h1.1 y (by simp) e.symm
  ·exact h2.1 p hp
 ·simp only[List.mem_cons] at hp ⊢
  rcases hp with h1 | h1 | h1
  ·exact .inr (.inl h1)
  ·exact .inl h1
  ·exact .inr (.inr h1)
/-- A value of several cells goes into a row, behind its begin. -/
theorem run_store_part {b off:Nat} {cs sub:Array Value} {t ty:TypeId} (hg:w.heap[b]?=some (.cells cs t (0,0))) (hl:off+sub.size≤cs.size) (hT:(P.info? ty).map (·.size)=some sub.size) (h1:sub.all (·.oneCell')=true):(storeVar ty ⟨b,off,none⟩ (.agg sub)).run P w=.ok () (w.setRow b (cs.toList.take off++sub.toList++cs.toList.drop (off+sub.size)).toArray):=by
 have h:=run_storeCells_at (P:=P) b off t sub.toList 0 cs w hg (by simpa using hl) (fun x hx=>by
  have:=Array.all_eq_true'.1 h1 x (by simpa using hx)
  exact this)
 cases hq:P.info? ty with
 | none=>simp[hq] at hT
 | some i =>
   have hs:i.size=sub.size:=by simpa [hq] using hT
   have hc:(Value.agg sub).cells=sub:=rfl
   simp[storeVar,hc,sizeOf,typeInfo,hq,hs,Sem.run_bind]
   rw[h]
   simp
theorem wp_setpart {K:Act→World→Prop} {Q:Exit→Act→World→Prop} (hM:Mem w0 M w) (i:Nat) {ty:TypeId} {x y:Operand} {b off:Nat} {t:TypeId} {cs sub new:Array Value} (ho:o.op=.store ty x y) (hx:A.eval x=.pointer (some ⟨b,off,none⟩)) (hy:A.eval y=.agg sub) (hi:M[i]?=some (b,.cells cs t (0,0))) (hl:off+sub.size≤cs.size) (hn:cs.toList.take off++sub.toList++cs.toList.drop (off+sub.size)=new.toList) (hT:RowTy P ty sub.size) (h1:sub.all (·.oneCell')=true)
    (hr:∀ W,Mem w0 (M.set i (b,.cells new t (0,0))) W→K (A.put o.dst undef) W):o.wp P A w K Q:=by
 unfold Oper.wp execOp
 simp only[ho,hx,hy,Instr.storeAt,Instr.sureAddr,Sem.run_bind,Sem.run_pure,Result.andThen_ok,run_store_part (hM.get i hi) hl hT.2 h1]
 rw[hn,Array.toArray_toList]
 exact hr _ (hM.set i hi)
theorem any_setpart {ops:Array Oper} {md:Region.Mode} {fuel:Nat} {listed:Array Bool} {Q:Exit→Act→World→Prop} {n:Nat} (hr:Region.ready md ops listed=[n]) (hn:ops[n]?=some o) (hM:Mem w0 M w) (i:Nat) {ty:TypeId} {x y:Operand} {b off:Nat} {t:TypeId} {cs sub new:Array Value} (ho:o.op=.store ty x y) (hx:A.eval x=.pointer (some ⟨b,off,none⟩)) (hy:A.eval y=.agg sub) (hi:M[i]?=some (b,.cells cs t (0,0))) (hl:off+sub.size≤cs.size) (hnw:cs.toList.take off++sub.toList++cs.toList.drop (off+sub.size)=new.toList) (hT:RowTy P ty sub.size) (h1:sub.all (·.oneCell')=true)
    (hgd:o.guard=none) (hd:o.dst=none) (hk:∀ W,Mem w0 (M.set i (b,.cells new t (0,0))) W→wpAny P md ops Q fuel (listed.setIfInBounds n true) A W):wpAny P md ops Q (fuel+1) listed A w :=
 any_one hr hn fun K hK=>by
  rw[if_pos (by simp[Region.wanted,hgd])]
  refine wp_setpart hM i ho hx hy hi hl hnw hT h1 fun W hW=>?_
  rw[hd]
  exact hK _ _ (hk W hW)
/-- A call that turns blocks of the caller's. -/
theorem wl_callM {ops:Array Oper} {Q:Exit→Act→World→Prop} {rest:List Oper} {M':List Blk} {f:FuncId} {args:Array Value} {v:Value} (h:∀ W,(execOp A.eval o).run P W=.ok (.enter f args) W) (hc:Calls P f args w fun e w'=>e=.returned v∧Mem w0 M' w') (hgd:Region.wanted o (yielded ops A.tmps)=true) (hr:∀ W,Mem w0 M' W→wpList P ops Q rest (A.put o.dst v) W):wpList P ops Q (o::rest) A w:=by
 refine wpList_step fun K hK=>?_
 rw[if_pos hgd]
 unfold Oper.wp
 rw[h]
 exact hc.mono fun e w' he=>by
  obtain⟨rfl,hm⟩:=he
  exact hK _ _ (hr _ hm)
end
theorem and_low (a k:Nat) (M:Nat) (h:a<18446744073709551616) (hk:k<64) (hM:∀ i,M.testBit i=(decide (k≤i) && decide (i<64))):a &&& M=a/2^k*2^k:=by
 apply Nat.eq_of_testBit_eq
 intro i
 rw[Nat.testBit_and,hM,Nat.testBit_mul_two_pow,Nat.testBit_div_two_pow]
 by_cases h1:k≤i
 ·rw[show i-k+k=i by omega]
  by_cases h2:i<64
  ·simp[h1,h2]
  ·have h3:a.testBit i=false:=Nat.testBit_lt_two_pow (Nat.lt_of_lt_of_le h (by rw[show (18446744073709551616:Nat)=2^64 from rfl];exact Nat.pow_le_pow_right (by decide) (by omega)))
   simp[h1,h3]
 ·simp[h1]
theorem mask_bits (k:Nat) (M:Nat) (hk:k<64) (e:M=(2^(64-k)-1)*2^k):∀ i,M.testBit i=(decide (k≤i) && decide (i<64)):=fun i=>by
 rw[e,Nat.testBit_mul_two_pow,Nat.testBit_two_pow_sub_one]
 by_cases h1:k≤i
 ·simp only[h1,decide_true,Bool.true_and]
  rw[decide_eq_decide]
  omega
 ·simp[h1]
/-- The lowest three bits struck. -/
theorem low3b (a:Nat) (h:a<18446744073709551616):((a &&& 18446744073709551614) &&& 18446744073709551613) &&& 18446744073709551611=a/8*8:=by
 rw[Nat.and_assoc,Nat.and_assoc]
 rw[show 18446744073709551614 &&& (18446744073709551613 &&& 18446744073709551611)=18446744073709551608 from rfl]
 exact and_low a 3 _ h (by decide) (mask_bits 3 _ (by decide) (by decide))
theorem high62 (a:Nat):((a &&& 9223372036854775807) &&& 13835058055282163711) ||| 4611686018427387904=a%4611686018427387904+4611686018427387904:=by
 rw[Nat.and_assoc,show 9223372036854775807 &&& 13835058055282163711=4611686018427387903 from rfl,show a &&& 4611686018427387903=a%4611686018427387904 from Nat.and_two_pow_sub_one_eq_mod a 62]
 have h2:=Nat.two_pow_add_eq_or_of_lt (i:=62) (b:=a%4611686018427387904) (by omega) 1
 rw[Nat.or_comm,Nat.add_comm]
 exact h2.symm
theorem u64_andn (a m d:Nat) (ha:a<18446744073709551616) (hm:m<18446744073709551616) (hd:a &&& (18446744073709551615-m)=d) (x y:Operand) (W:World):(do eqGuard .andNot 22 x y (.int .u64 (a:Int)) (.int .u64 (m:Int));binOp .andNot 22 (.int .u64 (a:Int)) (.int .u64 (m:Int)):Sem Value).run Tryz.prog W=.ok (.int .u64 (d:Int)) W:=by
 have e:bits .andNot .u64 (a:Int) (m:Int)=(d:Int):=by
  rw[← hd]
  exact u64_andNot_nat a m (by omega) (by omega)
 clear hd
 go_simp
theorem u64_orr (a m d:Nat) (ha:a<18446744073709551616) (hm:m<18446744073709551616) (hd:a ||| m=d) (x y:Operand) (W:World):(do eqGuard .or 22 x y (.int .u64 (a:Int)) (.int .u64 (m:Int));binOp .or 22 (.int .u64 (a:Int)) (.int .u64 (m:Int)):Sem Value).run Tryz.prog W=.ok (.int .u64 (d:Int)) W:=by
 have e:bits .or .u64 (a:Int) (m:Int)=(d:Int):=by
  rw[← hd]
  exact u64_or_nat a m (by omega) (by omega)
 clear hd
 go_simp
theorem ix_Wn0 (b:Nat) (W:World):(Instr.indexAt 24 (.pointer (some ⟨b,0,none⟩)) (.int .i64 0)).run Tryz.prog W=.ok (.pointer (some ⟨b,0,none⟩)) W:=by
 go_simp
theorem cellInt:CellTy Tryz.prog 3:=⟨⟨_,Tryz.underlying3,rfl⟩,by kernel_rfl⟩
theorem bs_I4 (a b c d:Int) (W:World):(Instr.buildSlice 142 4 #[(0,.int .i64 a),(1,.int .i64 b),(2,.int .i64 c),(3,.int .i64 d)]).run Tryz.prog W=.ok (.slice (some ⟨W.heap.size,0,none⟩) 4 4) (W.alloc (.cells #[.int .i64 a,.int .i64 b,.int .i64 c,.int .i64 d] 3 (0,0))):=by
 go_simp
theorem bs_I1 (a:Int) (W:World):(Instr.buildSlice 142 1 #[(0,.int .i64 a)]).run Tryz.prog W=.ok (.slice (some ⟨W.heap.size,0,none⟩) 1 1) (W.alloc (.cells #[.int .i64 a] 3 (0,0))):=by
 go_simp
/-- The number of a hash's first half, its bits set. -/
def clN (n:Nat):Nat:=valW (fun i=>if i=0 then wd n 0/8*8 else if i=3 then wd n 3%4611686018427387904+4611686018427387904 else wd n i) 4
theorem clN_word (n i:Nat) (h:i<4):wd (clN n) i=if i=0 then wd n 0/8*8 else if i=3 then wd n 3%4611686018427387904+4611686018427387904 else wd n i:=by
 have hB:B64=18446744073709551616:=rfl
 exact wd_valW _ (fun k=>by
  have h1:=wd_lt n 0
  have h2:=wd_lt n k
  have h3:=Nat.div_mul_le_self (wd n 0) 8
  have h4:wd n 3%4611686018427387904<4611686018427387904:=Nat.mod_lt _ (by decide)
  rw[hB]
  split
  ·omega
  ·split
   ·omega
   ·exact h2) i 4 h
theorem clN_row (n:Nat):elR (clN n)=#[.int .u64 ((wd n 0/8*8:Nat):Int),.int .u64 (wd n 1:Int),.int .u64 (wd n 2:Int),.int .u64 ((wd n 3%4611686018427387904+4611686018427387904:Nat):Int)]:=by
 unfold elR
 rw[clN_word n 0 (by decide),clN_word n 1 (by decide),clN_word n 2 (by decide),clN_word n 3 (by decide)]
 rfl
set_option maxRecDepth 20000 in
set_option maxHeartbeats 8000000 in
theorem set0_any (w0 w:World) (M:List Blk) (g b a0 a1 a2 a3 c0 c1 c2 c3:Nat) (h0:a0<18446744073709551616) (h3:a3<18446744073709551616) (k0:c0<18446744073709551616) (k1:c1<18446744073709551616) (k2:c2<18446744073709551616) (k3:c3<18446744073709551616) (e0:a0 &&& 18446744073709551614=c0) (e1:c0 &&& 18446744073709551613=c1) (e2:c1 &&& 18446744073709551611=c2) (e3:a3 &&& 9223372036854775807=c3) (hM:Mem w0 ((g,.cells #[.int .i64 0,.int .i64 1,.int .i64 2,.int .i64 255] 3 (0,0))::(b,.cells #[.int .u64 (a0:Int),.int .u64 (a1:Int),.int .u64 (a2:Int),.int .u64 (a3:Int)] 24 (0,0))::M) w):Calls Tryz.prog 117 #[.int .u64 0,.slice (some ⟨g,0,none⟩) 4 4,.pointer (some ⟨b,0,none⟩)] w fun E w'=>E=.returned (.tuple #[])∧Mem w0 ((g,.cells #[.int .i64 0,.int .i64 1,.int .i64 2,.int .i64 255] 3 (0,0))::(b,.cells #[.int .u64 (c2:Int),.int .u64 (a1:Int),.int .u64 (a2:Int),.int .u64 (c3:Int)] 24 (0,0))::M) w':=by
 have HMIX:=Lib.hid (show Tryz.prog.follows .mixedOrders=true by kernel_rfl)
 go_enter Tryz.func117,Tryz.ntmps117
 (go_step;go_step;refine wp_region_lit ?_)
 refine wl_pure (v:=.slice (some ⟨g,0,none⟩) 4 4) (fun _=>rfl) rfl ?_
 simp only[nm0,nm1,nm2,nm3]
 refine wl_pure (v:=.int .i64 4) (fun W=>by go_simp) rfl ?_
 simp only[nm0,nm1,nm2,nm3]
 refine wl_pure (v:=.int .i64 0) (fun _=>rfl) rfl ?_
 simp only[nm0,nm1,nm2,nm3]
 refine wpList_nil ?_
 (go_step;go_step;go_step;refine wp_loop_rounds 5 ?_)
 rw[rounds_succ]
 (go_step;refine wp_region_lit ?_)
 refine wl_pure (v:=.bool true) (fun W=>by go_simp) rfl ?_
 simp only[nm0,nm1,nm2,nm3]
 refine wpList_nil ?_
 (go_step;go_step;go_step;go_step;go_step;go_step;go_step;go_step;go_step;go_step;refine wp_region_lit ?_)
 refine wl_pure (v:=.pointer (some ⟨g,0,none⟩)) (fun W=>by go_simp) rfl ?_
 simp only[nm0,nm1,nm2,nm3]
 refine wl_cell hM 0 (v:=.int .i64 0) rfl rfl rfl rfl cellInt rfl ?_
 simp only[nm0,nm1,nm2,nm3]
 refine wl_pure (v:=.int .i64 0) (fun _=>rfl) rfl ?_
 simp only[nm0,nm1,nm2,nm3]
 refine wpList_nil ?_
 (go_step;go_step;go_step;refine wp_region_lit ?_)
 refine wl_pure (v:=.int .i64 0) (fun _=>rfl) rfl ?_
 simp only[nm0,nm1,nm2,nm3]
 refine wl_pure (v:=.int .i64 0) (fun W=>by kernel_rfl) rfl ?_
 simp only[nm0,nm1,nm2,nm3]
 refine wl_pure (v:=.int .i64 0) (fun _=>rfl) rfl ?_
 simp only[nm0,nm1,nm2,nm3]
 refine wl_pure (v:=.int .i64 0) (fun W=>by kernel_rfl) rfl ?_
 simp only[nm0,nm1,nm2,nm3]
 refine wl_pure (v:=.int .i64 0) (fun _=>rfl) rfl ?_
 simp only[nm0,nm1,nm2,nm3]
 refine wl_pure (v:=.int .i64 0) (fun _=>rfl) rfl ?_
 simp only[nm0,nm1,nm2,nm3]
 refine wpList_nil ?_
 (go_step;go_step;refine wp_region_inw 12 HMIX.out (by decide) (by kernel_rfl) (by kernel_rfl) ?_)
 refine inw_pure (v:=.int .i64 0) (fun _=>rfl) rfl rfl ?_;simp only[nm0,nm1,nm2,nm3]
 refine inw_pure (v:=.int .i64 0) (fun _=>rfl) rfl rfl ?_;simp only[nm0,nm1,nm2,nm3]
 refine inw_pure (v:=.pointer (some ⟨b,0,none⟩)) (fun W=>run_index_of rfl rfl rfl (ix_Wn0 b W)) rfl rfl ?_;simp only[nm0,nm1,nm2,nm3]
 refine inw_cell hM 1 (v:=.int .u64 (a0:Int)) rfl rfl rfl rfl cellU rfl rfl ?_;simp only[nm0,nm1,nm2,nm3]
 refine inw_pure (v:=.int .i64 0) (fun _=>rfl) rfl rfl ?_;simp only[nm0,nm1,nm2,nm3]
 refine inw_pure (v:=.int .u64 1) (fun W=>by kernel_rfl) rfl rfl ?_;simp only[nm0,nm1,nm2,nm3]
 refine inw_pure (v:=.int .u64 (c0:Int)) (fun W=>run_bin_of rfl rfl rfl (u64_andn a0 1 c0 h0 (by decide) e0 _ _ W)) rfl rfl ?_;simp only[nm0,nm1,nm2,nm3]
 refine inw_pure (v:=.int .u64 0) (fun _=>rfl) rfl rfl ?_;simp only[nm0,nm1,nm2,nm3]
 refine inw_pure (v:=.int .i64 0) (fun _=>rfl) rfl rfl ?_;simp only[nm0,nm1,nm2,nm3]
 refine inw_pure (v:=.int .u64 0) (fun W=>by kernel_rfl) rfl rfl ?_;simp only[nm0,nm1,nm2,nm3]
 refine inw_pure (v:=.int .u64 (c0:Int)) (fun W=>run_bin_of rfl rfl rfl (u64_orr c0 0 c0 k0 (by decide) (Nat.or_zero c0) _ _ W)) rfl rfl ?_;simp only[nm0,nm1,nm2,nm3]
 refine inw_pure (v:=.pointer (some ⟨b,0,none⟩)) (fun W=>run_index_of rfl rfl rfl (ix_Wn0 b W)) rfl rfl ?_;simp only[nm0,nm1,nm2,nm3]
 refine inw_fin fun d os=>?_
 refine given_nil fun hap=>?_
 have hM1:=hM.calls (below_regrown w d os)
 clear hap 
 generalize grow (redrawn w d) os=W1 at hM1 ⊢
 change wpAny _ _ _ _ 1 _ _ _
 refine any_setat (n:=12) (by kernel_rfl) rfl hM1 1 (cs':=#[.int .u64 (c0:Int),.int .u64 (a1:Int),.int .u64 (a2:Int),.int .u64 (a3:Int)]) rfl rfl rfl rfl (by show 0<4;decide) (rfl) cellU rfl rfl rfl fun W2 hM2=>?_
 simp only[nm2,nm3] at hM2
 refine wpAny_done (by kernel_rfl) ?_ _
 (go_step;go_step;refine wp_region_lit ?_)
 refine wl_pure (v:=.int .i64 1) (fun W=>by go_simp;decide) rfl ?_
 simp only[nm0,nm1,nm2,nm3]
 refine wl_pure (v:=.int .i64 1) (fun _=>rfl) rfl ?_
 simp only[nm0,nm1,nm2,nm3]
 refine wpList_nil ?_
 go_step
 rw[rounds_succ]
 (go_step;refine wp_region_lit ?_)
 refine wl_pure (v:=.bool true) (fun W=>by go_simp) rfl ?_
 simp only[nm0,nm1,nm2,nm3]
 refine wpList_nil ?_
 (go_step;go_step;go_step;go_step;go_step;go_step;go_step;go_step;go_step;go_step;refine wp_region_lit ?_)
 refine wl_pure (v:=.pointer (some ⟨g,1,none⟩)) (fun W=>by go_simp) rfl ?_
 simp only[nm0,nm1,nm2,nm3]
 refine wl_cell hM2 0 (v:=.int .i64 1) rfl rfl rfl rfl cellInt rfl ?_
 simp only[nm0,nm1,nm2,nm3]
 refine wl_pure (v:=.int .i64 1) (fun _=>rfl) rfl ?_
 simp only[nm0,nm1,nm2,nm3]
 refine wpList_nil ?_
 (go_step;go_step;go_step;refine wp_region_lit ?_)
 refine wl_pure (v:=.int .i64 1) (fun _=>rfl) rfl ?_
 simp only[nm0,nm1,nm2,nm3]
 refine wl_pure (v:=.int .i64 0) (fun W=>by kernel_rfl) rfl ?_
 simp only[nm0,nm1,nm2,nm3]
 refine wl_pure (v:=.int .i64 1) (fun _=>rfl) rfl ?_
 simp only[nm0,nm1,nm2,nm3]
 refine wl_pure (v:=.int .i64 1) (fun W=>by kernel_rfl) rfl ?_
 simp only[nm0,nm1,nm2,nm3]
 refine wl_pure (v:=.int .i64 0) (fun _=>rfl) rfl ?_
 simp only[nm0,nm1,nm2,nm3]
 refine wl_pure (v:=.int .i64 1) (fun _=>rfl) rfl ?_
 simp only[nm0,nm1,nm2,nm3]
 refine wpList_nil ?_
 (go_step;go_step;refine wp_region_inw 12 HMIX.out (by decide) (by kernel_rfl) (by kernel_rfl) ?_)
 refine inw_pure (v:=.int .i64 0) (fun _=>rfl) rfl rfl ?_;simp only[nm0,nm1,nm2,nm3]
 refine inw_pure (v:=.int .i64 0) (fun _=>rfl) rfl rfl ?_;simp only[nm0,nm1,nm2,nm3]
 refine inw_pure (v:=.pointer (some ⟨b,0,none⟩)) (fun W=>run_index_of rfl rfl rfl (ix_Wn0 b W)) rfl rfl ?_;simp only[nm0,nm1,nm2,nm3]
 refine inw_cell hM2 1 (v:=.int .u64 (c0:Int)) rfl rfl rfl rfl cellU rfl rfl ?_;simp only[nm0,nm1,nm2,nm3]
 refine inw_pure (v:=.int .i64 1) (fun _=>rfl) rfl rfl ?_;simp only[nm0,nm1,nm2,nm3]
 refine inw_pure (v:=.int .u64 2) (fun W=>by kernel_rfl) rfl rfl ?_;simp only[nm0,nm1,nm2,nm3]
 refine inw_pure (v:=.int .u64 (c1:Int)) (fun W=>run_bin_of rfl rfl rfl (u64_andn c0 2 c1 k0 (by decide) e1 _ _ W)) rfl rfl ?_;simp only[nm0,nm1,nm2,nm3]
 refine inw_pure (v:=.int .u64 0) (fun _=>rfl) rfl rfl ?_;simp only[nm0,nm1,nm2,nm3]
 refine inw_pure (v:=.int .i64 1) (fun _=>rfl) rfl rfl ?_;simp only[nm0,nm1,nm2,nm3]
 refine inw_pure (v:=.int .u64 0) (fun W=>by kernel_rfl) rfl rfl ?_;simp only[nm0,nm1,nm2,nm3]
 refine inw_pure (v:=.int .u64 (c1:Int)) (fun W=>run_bin_of rfl rfl rfl (u64_orr c1 0 c1 k1 (by decide) (Nat.or_zero c1) _ _ W)) rfl rfl ?_;simp only[nm0,nm1,nm2,nm3]
 refine inw_pure (v:=.pointer (some ⟨b,0,none⟩)) (fun W=>run_index_of rfl rfl rfl (ix_Wn0 b W)) rfl rfl ?_;simp only[nm0,nm1,nm2,nm3]
 refine inw_fin fun d os=>?_
 refine given_nil fun hap=>?_
 have hM3:=hM2.calls (below_regrown W2 d os)
 clear hap 
 generalize grow (redrawn W2 d) os=W3 at hM3 ⊢
 change wpAny _ _ _ _ 1 _ _ _
 refine any_setat (n:=12) (by kernel_rfl) rfl hM3 1 (cs':=#[.int .u64 (c1:Int),.int .u64 (a1:Int),.int .u64 (a2:Int),.int .u64 (a3:Int)]) rfl rfl rfl rfl (by show 0<4;decide) (rfl) cellU rfl rfl rfl fun W4 hM4=>?_
 simp only[nm2,nm3] at hM4
 refine wpAny_done (by kernel_rfl) ?_ _
 (go_step;go_step;refine wp_region_lit ?_)
 refine wl_pure (v:=.int .i64 2) (fun W=>by go_simp;decide) rfl ?_
 simp only[nm0,nm1,nm2,nm3]
 refine wl_pure (v:=.int .i64 2) (fun _=>rfl) rfl ?_
 simp only[nm0,nm1,nm2,nm3]
 refine wpList_nil ?_
 go_step
 rw[rounds_succ]
 (go_step;refine wp_region_lit ?_)
 refine wl_pure (v:=.bool true) (fun W=>by go_simp) rfl ?_
 simp only[nm0,nm1,nm2,nm3]
 refine wpList_nil ?_
 (go_step;go_step;go_step;go_step;go_step;go_step;go_step;go_step;go_step;go_step;refine wp_region_lit ?_)
 refine wl_pure (v:=.pointer (some ⟨g,2,none⟩)) (fun W=>by go_simp) rfl ?_
 simp only[nm0,nm1,nm2,nm3]
 refine wl_cell hM4 0 (v:=.int .i64 2) rfl rfl rfl rfl cellInt rfl ?_
 simp only[nm0,nm1,nm2,nm3]
 refine wl_pure (v:=.int .i64 2) (fun _=>rfl) rfl ?_
 simp only[nm0,nm1,nm2,nm3]
 refine wpList_nil ?_
 (go_step;go_step;go_step;refine wp_region_lit ?_)
 refine wl_pure (v:=.int .i64 2) (fun _=>rfl) rfl ?_
 simp only[nm0,nm1,nm2,nm3]
 refine wl_pure (v:=.int .i64 0) (fun W=>by kernel_rfl) rfl ?_
 simp only[nm0,nm1,nm2,nm3]
 refine wl_pure (v:=.int .i64 2) (fun _=>rfl) rfl ?_
 simp only[nm0,nm1,nm2,nm3]
 refine wl_pure (v:=.int .i64 2) (fun W=>by kernel_rfl) rfl ?_
 simp only[nm0,nm1,nm2,nm3]
 refine wl_pure (v:=.int .i64 0) (fun _=>rfl) rfl ?_
 simp only[nm0,nm1,nm2,nm3]
 refine wl_pure (v:=.int .i64 2) (fun _=>rfl) rfl ?_
 simp only[nm0,nm1,nm2,nm3]
 refine wpList_nil ?_
 (go_step;go_step;refine wp_region_inw 12 HMIX.out (by decide) (by kernel_rfl) (by kernel_rfl) ?_)
 refine inw_pure (v:=.int .i64 0) (fun _=>rfl) rfl rfl ?_;simp only[nm0,nm1,nm2,nm3]
 refine inw_pure (v:=.int .i64 0) (fun _=>rfl) rfl rfl ?_;simp only[nm0,nm1,nm2,nm3]
 refine inw_pure (v:=.pointer (some ⟨b,0,none⟩)) (fun W=>run_index_of rfl rfl rfl (ix_Wn0 b W)) rfl rfl ?_;simp only[nm0,nm1,nm2,nm3]
 refine inw_cell hM4 1 (v:=.int .u64 (c1:Int)) rfl rfl rfl rfl cellU rfl rfl ?_;simp only[nm0,nm1,nm2,nm3]
 refine inw_pure (v:=.int .i64 2) (fun _=>rfl) rfl rfl ?_;simp only[nm0,nm1,nm2,nm3]
 refine inw_pure (v:=.int .u64 4) (fun W=>by kernel_rfl) rfl rfl ?_;simp only[nm0,nm1,nm2,nm3]
 refine inw_pure (v:=.int .u64 (c2:Int)) (fun W=>run_bin_of rfl rfl rfl (u64_andn c1 4 c2 k1 (by decide) e2 _ _ W)) rfl rfl ?_;simp only[nm0,nm1,nm2,nm3]
 refine inw_pure (v:=.int .u64 0) (fun _=>rfl) rfl rfl ?_;simp only[nm0,nm1,nm2,nm3]
 refine inw_pure (v:=.int .i64 2) (fun _=>rfl) rfl rfl ?_;simp only[nm0,nm1,nm2,nm3]
 refine inw_pure (v:=.int .u64 0) (fun W=>by kernel_rfl) rfl rfl ?_;simp only[nm0,nm1,nm2,nm3]
 refine inw_pure (v:=.int .u64 (c2:Int)) (fun W=>run_bin_of rfl rfl rfl (u64_orr c2 0 c2 k2 (by decide) (Nat.or_zero c2) _ _ W)) rfl rfl ?_;simp only[nm0,nm1,nm2,nm3]
 refine inw_pure (v:=.pointer (some ⟨b,0,none⟩)) (fun W=>run_index_of rfl rfl rfl (ix_Wn0 b W)) rfl rfl ?_;simp only[nm0,nm1,nm2,nm3]
 refine inw_fin fun d os=>?_
 refine given_nil fun hap=>?_
 have hM5:=hM4.calls (below_regrown W4 d os)
 clear hap 
 generalize grow (redrawn W4 d) os=W5 at hM5 ⊢
 change wpAny _ _ _ _ 1 _ _ _
 refine any_setat (n:=12) (by kernel_rfl) rfl hM5 1 (cs':=#[.int .u64 (c2:Int),.int .u64 (a1:Int),.int .u64 (a2:Int),.int .u64 (a3:Int)]) rfl rfl rfl rfl (by show 0<4;decide) (rfl) cellU rfl rfl rfl fun W6 hM6=>?_
 simp only[nm2,nm3] at hM6
 refine wpAny_done (by kernel_rfl) ?_ _
 (go_step;go_step;refine wp_region_lit ?_)
 refine wl_pure (v:=.int .i64 3) (fun W=>by go_simp;decide) rfl ?_
 simp only[nm0,nm1,nm2,nm3]
 refine wl_pure (v:=.int .i64 3) (fun _=>rfl) rfl ?_
 simp only[nm0,nm1,nm2,nm3]
 refine wpList_nil ?_
 go_step
 rw[rounds_succ]
 (go_step;refine wp_region_lit ?_)
 refine wl_pure (v:=.bool true) (fun W=>by go_simp) rfl ?_
 simp only[nm0,nm1,nm2,nm3]
 refine wpList_nil ?_
 (go_step;go_step;go_step;go_step;go_step;go_step;go_step;go_step;go_step;go_step;refine wp_region_lit ?_)
 refine wl_pure (v:=.pointer (some ⟨g,3,none⟩)) (fun W=>by go_simp) rfl ?_
 simp only[nm0,nm1,nm2,nm3]
 refine wl_cell hM6 0 (v:=.int .i64 255) rfl rfl rfl rfl cellInt rfl ?_
 simp only[nm0,nm1,nm2,nm3]
 refine wl_pure (v:=.int .i64 255) (fun _=>rfl) rfl ?_
 simp only[nm0,nm1,nm2,nm3]
 refine wpList_nil ?_
 (go_step;go_step;go_step;refine wp_region_lit ?_)
 refine wl_pure (v:=.int .i64 255) (fun _=>rfl) rfl ?_
 simp only[nm0,nm1,nm2,nm3]
 refine wl_pure (v:=.int .i64 3) (fun W=>by kernel_rfl) rfl ?_
 simp only[nm0,nm1,nm2,nm3]
 refine wl_pure (v:=.int .i64 255) (fun _=>rfl) rfl ?_
 simp only[nm0,nm1,nm2,nm3]
 refine wl_pure (v:=.int .i64 63) (fun W=>by kernel_rfl) rfl ?_
 simp only[nm0,nm1,nm2,nm3]
 refine wl_pure (v:=.int .i64 3) (fun _=>rfl) rfl ?_
 simp only[nm0,nm1,nm2,nm3]
 refine wl_pure (v:=.int .i64 63) (fun _=>rfl) rfl ?_
 simp only[nm0,nm1,nm2,nm3]
 refine wpList_nil ?_
 (go_step;go_step;refine wp_region_inw 12 HMIX.out (by decide) (by kernel_rfl) (by kernel_rfl) ?_)
 refine inw_pure (v:=.int .i64 3) (fun _=>rfl) rfl rfl ?_;simp only[nm0,nm1,nm2,nm3]
 refine inw_pure (v:=.int .i64 3) (fun _=>rfl) rfl rfl ?_;simp only[nm0,nm1,nm2,nm3]
 refine inw_pure (v:=.pointer (some ⟨b,3,none⟩)) (fun W=>run_index_of rfl rfl rfl (ix_Wn3 b W)) rfl rfl ?_;simp only[nm0,nm1,nm2,nm3]
 refine inw_cell hM6 1 (v:=.int .u64 (a3:Int)) rfl rfl rfl rfl cellU rfl rfl ?_;simp only[nm0,nm1,nm2,nm3]
 refine inw_pure (v:=.int .i64 63) (fun _=>rfl) rfl rfl ?_;simp only[nm0,nm1,nm2,nm3]
 refine inw_pure (v:=.int .u64 9223372036854775808) (fun W=>by kernel_rfl) rfl rfl ?_;simp only[nm0,nm1,nm2,nm3]
 refine inw_pure (v:=.int .u64 (c3:Int)) (fun W=>run_bin_of rfl rfl rfl (u64_andn a3 9223372036854775808 c3 h3 (by decide) e3 _ _ W)) rfl rfl ?_;simp only[nm0,nm1,nm2,nm3]
 refine inw_pure (v:=.int .u64 0) (fun _=>rfl) rfl rfl ?_;simp only[nm0,nm1,nm2,nm3]
 refine inw_pure (v:=.int .i64 63) (fun _=>rfl) rfl rfl ?_;simp only[nm0,nm1,nm2,nm3]
 refine inw_pure (v:=.int .u64 0) (fun W=>by kernel_rfl) rfl rfl ?_;simp only[nm0,nm1,nm2,nm3]
 refine inw_pure (v:=.int .u64 (c3:Int)) (fun W=>run_bin_of rfl rfl rfl (u64_orr c3 0 c3 k3 (by decide) (Nat.or_zero c3) _ _ W)) rfl rfl ?_;simp only[nm0,nm1,nm2,nm3]
 refine inw_pure (v:=.pointer (some ⟨b,3,none⟩)) (fun W=>run_index_of rfl rfl rfl (ix_Wn3 b W)) rfl rfl ?_;simp only[nm0,nm1,nm2,nm3]
 refine inw_fin fun d os=>?_
 refine given_nil fun hap=>?_
 have hM7:=hM6.calls (below_regrown W6 d os)
 clear hap 
 generalize grow (redrawn W6 d) os=W7 at hM7 ⊢
 change wpAny _ _ _ _ 1 _ _ _
 refine any_setat (n:=12) (by kernel_rfl) rfl hM7 1 (cs':=#[.int .u64 (c2:Int),.int .u64 (a1:Int),.int .u64 (a2:Int),.int .u64 (c3:Int)]) rfl rfl rfl rfl (by show 3<4;decide) (rfl) cellU rfl rfl rfl fun W8 hM8=>?_
 simp only[nm2,nm3] at hM8
 refine wpAny_done (by kernel_rfl) ?_ _
 (go_step;go_step;refine wp_region_lit ?_)
 refine wl_pure (v:=.int .i64 4) (fun W=>by go_simp;decide) rfl ?_
 simp only[nm0,nm1,nm2,nm3]
 refine wl_pure (v:=.int .i64 4) (fun _=>rfl) rfl ?_
 simp only[nm0,nm1,nm2,nm3]
 refine wpList_nil ?_
 go_step
 rw[rounds_succ]
 (go_step;refine wp_region_lit ?_)
 refine wl_pure (v:=.bool false) (fun W=>by go_simp) rfl ?_
 simp only[nm0,nm1,nm2,nm3]
 refine wpList_nil ?_
 (go_step;go_step;go_step;go_step;go_step;go_step;refine bodyPost_end (v:=.tuple #[]) (results_none Tryz.results117 _ _ _) rfl ⟨rfl,hM8⟩)
set_option maxRecDepth 20000 in
set_option maxHeartbeats 8000000 in
theorem set1_any (w0 w:World) (M:List Blk) (g b a0 a1 a2 a3 c3 c4:Nat) (h3:a3<18446744073709551616) (k3:c3<18446744073709551616) (e3:a3 &&& 13835058055282163711=c3) (e4:c3 ||| 4611686018427387904=c4) (hM:Mem w0 ((g,.cells #[.int .i64 254] 3 (0,0))::(b,.cells #[.int .u64 (a0:Int),.int .u64 (a1:Int),.int .u64 (a2:Int),.int .u64 (a3:Int)] 24 (0,0))::M) w):Calls Tryz.prog 117 #[.int .u64 1,.slice (some ⟨g,0,none⟩) 1 1,.pointer (some ⟨b,0,none⟩)] w fun E w'=>E=.returned (.tuple #[])∧Mem w0 ((g,.cells #[.int .i64 254] 3 (0,0))::(b,.cells #[.int .u64 (a0:Int),.int .u64 (a1:Int),.int .u64 (a2:Int),.int .u64 (c4:Int)] 24 (0,0))::M) w':=by
 have HMIX:=Lib.hid (show Tryz.prog.follows .mixedOrders=true by kernel_rfl)
 go_enter Tryz.func117,Tryz.ntmps117
 (go_step;go_step;refine wp_region_lit ?_)
 refine wl_pure (v:=.slice (some ⟨g,0,none⟩) 1 1) (fun _=>rfl) rfl ?_
 simp only[nm0,nm1,nm2,nm3]
 refine wl_pure (v:=.int .i64 1) (fun W=>by go_simp) rfl ?_
 simp only[nm0,nm1,nm2,nm3]
 refine wl_pure (v:=.int .i64 0) (fun _=>rfl) rfl ?_
 simp only[nm0,nm1,nm2,nm3]
 refine wpList_nil ?_
 (go_step;go_step;go_step;refine wp_loop_rounds 2 ?_)
 rw[rounds_succ]
 (go_step;refine wp_region_lit ?_)
 refine wl_pure (v:=.bool true) (fun W=>by go_simp) rfl ?_
 simp only[nm0,nm1,nm2,nm3]
 refine wpList_nil ?_
 (go_step;go_step;go_step;go_step;go_step;go_step;go_step;go_step;go_step;go_step;refine wp_region_lit ?_)
 refine wl_pure (v:=.pointer (some ⟨g,0,none⟩)) (fun W=>by go_simp) rfl ?_
 simp only[nm0,nm1,nm2,nm3]
 refine wl_cell hM 0 (v:=.int .i64 254) rfl rfl rfl rfl cellInt rfl ?_
 simp only[nm0,nm1,nm2,nm3]
 refine wl_pure (v:=.int .i64 254) (fun _=>rfl) rfl ?_
 simp only[nm0,nm1,nm2,nm3]
 refine wpList_nil ?_
 (go_step;go_step;go_step;refine wp_region_lit ?_)
 refine wl_pure (v:=.int .i64 254) (fun _=>rfl) rfl ?_
 simp only[nm0,nm1,nm2,nm3]
 refine wl_pure (v:=.int .i64 3) (fun W=>by kernel_rfl) rfl ?_
 simp only[nm0,nm1,nm2,nm3]
 refine wl_pure (v:=.int .i64 254) (fun _=>rfl) rfl ?_
 simp only[nm0,nm1,nm2,nm3]
 refine wl_pure (v:=.int .i64 62) (fun W=>by kernel_rfl) rfl ?_
 simp only[nm0,nm1,nm2,nm3]
 refine wl_pure (v:=.int .i64 3) (fun _=>rfl) rfl ?_
 simp only[nm0,nm1,nm2,nm3]
 refine wl_pure (v:=.int .i64 62) (fun _=>rfl) rfl ?_
 simp only[nm0,nm1,nm2,nm3]
 refine wpList_nil ?_
 (go_step;go_step;refine wp_region_inw 12 HMIX.out (by decide) (by kernel_rfl) (by kernel_rfl) ?_)
 refine inw_pure (v:=.int .i64 3) (fun _=>rfl) rfl rfl ?_;simp only[nm0,nm1,nm2,nm3]
 refine inw_pure (v:=.int .i64 3) (fun _=>rfl) rfl rfl ?_;simp only[nm0,nm1,nm2,nm3]
 refine inw_pure (v:=.pointer (some ⟨b,3,none⟩)) (fun W=>run_index_of rfl rfl rfl (ix_Wn3 b W)) rfl rfl ?_;simp only[nm0,nm1,nm2,nm3]
 refine inw_cell hM 1 (v:=.int .u64 (a3:Int)) rfl rfl rfl rfl cellU rfl rfl ?_;simp only[nm0,nm1,nm2,nm3]
 refine inw_pure (v:=.int .i64 62) (fun _=>rfl) rfl rfl ?_;simp only[nm0,nm1,nm2,nm3]
 refine inw_pure (v:=.int .u64 4611686018427387904) (fun W=>by kernel_rfl) rfl rfl ?_;simp only[nm0,nm1,nm2,nm3]
 refine inw_pure (v:=.int .u64 (c3:Int)) (fun W=>run_bin_of rfl rfl rfl (u64_andn a3 4611686018427387904 c3 h3 (by decide) e3 _ _ W)) rfl rfl ?_;simp only[nm0,nm1,nm2,nm3]
 refine inw_pure (v:=.int .u64 1) (fun _=>rfl) rfl rfl ?_;simp only[nm0,nm1,nm2,nm3]
 refine inw_pure (v:=.int .i64 62) (fun _=>rfl) rfl rfl ?_;simp only[nm0,nm1,nm2,nm3]
 refine inw_pure (v:=.int .u64 4611686018427387904) (fun W=>by kernel_rfl) rfl rfl ?_;simp only[nm0,nm1,nm2,nm3]
 refine inw_pure (v:=.int .u64 (c4:Int)) (fun W=>run_bin_of rfl rfl rfl (u64_orr c3 4611686018427387904 c4 k3 (by decide) e4 _ _ W)) rfl rfl ?_;simp only[nm0,nm1,nm2,nm3]
 refine inw_pure (v:=.pointer (some ⟨b,3,none⟩)) (fun W=>run_index_of rfl rfl rfl (ix_Wn3 b W)) rfl rfl ?_;simp only[nm0,nm1,nm2,nm3]
 refine inw_fin fun d os=>?_
 refine given_nil fun hap=>?_
 have hM1:=hM.calls (below_regrown w d os)
 clear hap 
 generalize grow (redrawn w d) os=W1 at hM1 ⊢
 change wpAny _ _ _ _ 1 _ _ _
 refine any_setat (n:=12) (by kernel_rfl) rfl hM1 1 (cs':=#[.int .u64 (a0:Int),.int .u64 (a1:Int),.int .u64 (a2:Int),.int .u64 (c4:Int)]) rfl rfl rfl rfl (by show 3<4;decide) (rfl) cellU rfl rfl rfl fun W2 hM2=>?_
 simp only[nm2,nm3] at hM2
 refine wpAny_done (by kernel_rfl) ?_ _
 (go_step;go_step;refine wp_region_lit ?_)
 refine wl_pure (v:=.int .i64 1) (fun W=>by go_simp;decide) rfl ?_
 simp only[nm0,nm1,nm2,nm3]
 refine wl_pure (v:=.int .i64 1) (fun _=>rfl) rfl ?_
 simp only[nm0,nm1,nm2,nm3]
 refine wpList_nil ?_
 go_step
 rw[rounds_succ]
 (go_step;refine wp_region_lit ?_)
 refine wl_pure (v:=.bool false) (fun W=>by go_simp) rfl ?_
 simp only[nm0,nm1,nm2,nm3]
 refine wpList_nil ?_
 (go_step;go_step;go_step;go_step;go_step;go_step;refine bodyPost_end (v:=.tuple #[]) (results_none Tryz.results117 _ _ _) rfl ⟨rfl,hM2⟩)
set_option maxRecDepth 20000 in
set_option maxHeartbeats 8000000 in
theorem ednum_any (s:ByteArray) (hs:s.size=32) (w:World):Calls Tryz.prog 55 #[.string s] w fun E w'=>E=.returned (numV (clN (leN s.data.toList)))∧Below w.heap.size w w':=by
 have KO:=Lib.hid (fun w=>of_any s w hs)
 obtain⟨N,hN⟩:∃ N,leN s.data.toList=N:=⟨_,rfl⟩
 rw[hN] at KO ⊢
 clear hN
 have q0:=wd_lt N 0
 have q3:=wd_lt N 3
 obtain⟨n,hn⟩:∃ n,clN N=n:=⟨_,rfl⟩
 rw[hn]
 obtain⟨c0,e0⟩:∃ c,wd N 0 &&& 18446744073709551614=c:=⟨_,rfl⟩
 obtain⟨c1,e1⟩:∃ c,c0 &&& 18446744073709551613=c:=⟨_,rfl⟩
 obtain⟨c2,e2⟩:∃ c,c1 &&& 18446744073709551611=c:=⟨_,rfl⟩
 obtain⟨c3,e3⟩:∃ c,wd N 3 &&& 9223372036854775807=c:=⟨_,rfl⟩
 obtain⟨c4,e4⟩:∃ c,c3 &&& 13835058055282163711=c:=⟨_,rfl⟩
 obtain⟨c5,e5⟩:∃ c,c4 ||| 4611686018427387904=c:=⟨_,rfl⟩
 have k0:c0<18446744073709551616:=by rw[← e0];exact Nat.lt_of_le_of_lt Nat.and_le_left q0
 have k1:c1<18446744073709551616:=by rw[← e1];exact Nat.lt_of_le_of_lt Nat.and_le_left k0
 have k2:c2<18446744073709551616:=by rw[← e2];exact Nat.lt_of_le_of_lt Nat.and_le_left k1
 have k3:c3<18446744073709551616:=by rw[← e3];exact Nat.lt_of_le_of_lt Nat.and_le_left q3
 have k4:c4<18446744073709551616:=by rw[← e4];exact Nat.lt_of_le_of_lt Nat.and_le_left k3
 have eRow:(#[.int .u64 (c2:Int),.int .u64 (wd N 1:Int),.int .u64 (wd N 2:Int),.int .u64 (c5:Int)]:Array Value)=elR n:=by
  rw[← hn,clN_row,← e5,← e4,← e3,high62,← e2,← e1,← e0,low3b _ q0]
 clear q0 q3 hn
 have HMIX:=Lib.hid (show Tryz.prog.follows .mixedOrders=true by kernel_rfl)
 go_enter Tryz.func55,Tryz.ntmps55
 have hM0:=Mem.start w
 (go_step;go_step;refine wp_region_lit ?_)
 refine wl_new hM0 (f:=fun b=>.pointer (some ⟨b,0,none⟩)) (ob:=.cells z4 24 (0,0)) (fun W=>run_alloc_of rfl (al_Wn W)) rfl fun b1 W1 hM1=>?_
 simp only[nm0,nm1,nm2,nm3]
 refine wpList_nil ?_
 (go_step;go_step;go_step;refine wp_region_lit ?_)
 refine wl_pure (v:=.string s) (fun _=>rfl) rfl ?_
 simp only[nm0,nm1,nm2,nm3]
 refine wl_call hM1 (args:=#[.string s]) (v:=.tuple #[numV N,.int .i64 0]) (fun W=>run_call_fn W (enters_of Tryz.func28 rfl rfl) rfl (by simp[Act.eval])) (KO.out W1) rfl fun W2 hM2=>?_
 simp only[nm0,nm1,nm2,nm3]
 refine wl_pure (v:=.tuple #[numV N,.int .i64 0]) (fun _=>rfl) rfl ?_
 simp only[nm0,nm1,nm2,nm3]
 refine wl_pure (v:=numV N) (fun _=>rfl) rfl ?_
 simp only[nm0,nm1,nm2,nm3]
 refine wl_pure (v:=.int .i64 0) (fun _=>rfl) rfl ?_
 simp only[nm0,nm1,nm2,nm3]
 refine wl_new hM2 (f:=fun b=>.pointer (some ⟨b,0,none⟩)) (ob:=.cells z4 24 (0,0)) (fun W=>run_alloc_of rfl (al_Wn W)) rfl fun b2 W3 hM3=>?_
 simp only[nm0,nm1,nm2,nm3]
 refine wl_set hM3 0 (cs:=(elR N)) rfl rfl rfl rfl rowWn rfl (one_el N) rfl rfl fun W4 hM4=>?_
 simp only[nm2,nm3] at hM4
 refine wl_pure (v:=.int .i64 0) (fun _=>rfl) rfl ?_
 simp only[nm0,nm1,nm2,nm3]
 refine wpList_nil ?_
 (go_step;go_step;go_step;refine wp_region_lit ?_)
 refine wl_pure (v:=.func (.func 117) #[] #[.pointer (some ⟨b2,0,none⟩)]) (fun W=>run_makeFunc_of rfl (by simp[Instr.makeFunc,Act.eval])) rfl ?_
 simp only[nm0,nm1,nm2,nm3]
 refine wl_pure (v:=.func (.func 117) #[] #[.pointer (some ⟨b2,0,none⟩)]) (fun _=>rfl) rfl ?_
 simp only[nm0,nm1,nm2,nm3]
 refine wpList_nil ?_
 (go_step;go_step;go_step;refine wp_region_lit ?_)
 refine wl_pure (v:=.func (.func 117) #[] #[.pointer (some ⟨b2,0,none⟩)]) (fun _=>rfl) rfl ?_
 simp only[nm0,nm1,nm2,nm3]
 refine wl_new hM4 (f:=fun b=>.slice (some ⟨b,0,none⟩) 4 4) (ob:=.cells (#[.int .i64 0,.int .i64 1,.int .i64 2,.int .i64 255]) 3 (0,0)) (fun W=>run_slice_of rfl (by simp[Act.eval]) (bs_I4 0 1 2 255 W)) rfl fun b3 W5 hM5=>?_
 simp only[nm0,nm1,nm2,nm3]
 refine wl_callM  (args:=#[.int .u64 0,.slice (some ⟨b3,0,none⟩) 4 4,.pointer (some ⟨b2,0,none⟩)]) (v:=.tuple #[]) (fun W=>run_call_dyn W (enters_of Tryz.func117 rfl rfl) rfl rfl (by simp[Act.eval];rfl) rfl) (set0_any w W5 _ b3 b2 (wd N 0) (wd N 1) (wd N 2) (wd N 3) c0 c1 c2 c3 (wd_lt _ _) (wd_lt _ _) k0 k1 k2 k3 e0 e1 e2 e3 hM5) rfl fun W6 hM6=>?_
 simp only[nm0,nm1,nm2,nm3]
 refine wpList_nil ?_
 have hT1:=hM6.tail
 (go_step;go_step;go_step;refine wp_region_lit ?_)
 refine wl_pure (v:=.func (.func 117) #[] #[.pointer (some ⟨b2,0,none⟩)]) (fun _=>rfl) rfl ?_
 simp only[nm0,nm1,nm2,nm3]
 refine wl_new hT1 (f:=fun b=>.slice (some ⟨b,0,none⟩) 1 1) (ob:=.cells (#[.int .i64 254]) 3 (0,0)) (fun W=>run_slice_of rfl (by simp[Act.eval]) (bs_I1 254 W)) rfl fun b4 W7 hM7=>?_
 simp only[nm0,nm1,nm2,nm3]
 refine wl_callM  (args:=#[.int .u64 1,.slice (some ⟨b4,0,none⟩) 1 1,.pointer (some ⟨b2,0,none⟩)]) (v:=.tuple #[]) (fun W=>run_call_dyn W (enters_of Tryz.func117 rfl rfl) rfl rfl (by simp[Act.eval];rfl) rfl) (set1_any w W7 _ b4 b2 c2 (wd N 1) (wd N 2) c3 c4 c5 k3 k4 e4 e5 hM7) rfl fun W8 hM8=>?_
 simp only[nm0,nm1,nm2,nm3]
 refine wpList_nil ?_
 have hT2:=hM8.tail
 rw[eRow] at hT2
 (go_step;go_step;go_step;refine wp_region_lit ?_)
 refine wl_row hT2 0 (v:=numV n) rfl rfl rfl rfl rowWn rfl ?_
 simp only[nm0,nm1,nm2,nm3]
 refine wl_set hT2 1 (cs:=(elR n)) rfl rfl rfl rfl rowWn rfl (one_el n) rfl rfl fun W9 hM9=>?_
 simp only[nm2,nm3] at hM9
 refine wpList_nil ?_
 (go_step;go_step;go_step;refine bodyPost_ret (v:=numV n) (results_arr Tryz.results55 rfl (hM9.load 1 rfl rowWn)) rfl ⟨?_,hM9.below⟩)
 exact rfl
theorem primeG67:PrimeN 67:=prime_cert 67 2 [2,3,11] (by decide +kernel) (by decide +kernel) (by decide +kernel) fun q hq=>by
 simp only[List.mem_cons,List.not_mem_nil,or_false] at hq
 rcases hq with rfl | rfl | rfl
 ·exact prime2
 ·exact prime3
 ·exact prime11
theorem primeG269:PrimeN 269:=prime_cert 269 2 [2,2,67] (by decide +kernel) (by decide +kernel) (by decide +kernel) fun q hq=>by
 simp only[List.mem_cons,List.not_mem_nil,or_false] at hq
 rcases hq with rfl | rfl | rfl
 ·exact prime2
 ·exact prime2
 ·exact primeG67
theorem primeG73:PrimeN 73:=prime_cert 73 5 [2,2,2,3,3] (by decide +kernel) (by decide +kernel) (by decide +kernel) fun q hq=>by
 simp only[List.mem_cons,List.not_mem_nil,or_false] at hq
 rcases hq with rfl | rfl | rfl | rfl | rfl
 ·exact prime2
 ·exact prime2
 ·exact prime2
 ·exact prime3
 ·exact prime3
theorem primeG307:PrimeN 307:=prime_cert 307 5 [2,3,3,17] (by decide +kernel) (by decide +kernel) (by decide +kernel) fun q hq=>by
 simp only[List.mem_cons,List.not_mem_nil,or_false] at hq
 rcases hq with rfl | rfl | rfl | rfl
 ·exact prime2
 ·exact prime3
 ·exact prime3
 ·exact prime17
theorem primeG113:PrimeN 113:=prime_cert 113 3 [2,2,2,2,7] (by decide +kernel) (by decide +kernel) (by decide +kernel) fun q hq=>by
 simp only[List.mem_cons,List.not_mem_nil,or_false] at hq
 rcases hq with rfl | rfl | rfl | rfl | rfl
 ·exact prime2
 ·exact prime2
 ·exact prime2
 ·exact prime2
 ·exact prime7
theorem primeG2939:PrimeN 2939:=prime_cert 2939 2 [2,13,113] (by decide +kernel) (by decide +kernel) (by decide +kernel) fun q hq=>by
 simp only[List.mem_cons,List.not_mem_nil,or_false] at hq
 rcases hq with rfl | rfl | rfl
 ·exact prime2
 ·exact prime13
 ·exact primeG113
theorem primeG5879:PrimeN 5879:=prime_cert 5879 11 [2,2939] (by decide +kernel) (by decide +kernel) (by decide +kernel) fun q hq=>by
 simp only[List.mem_cons,List.not_mem_nil,or_false] at hq
 rcases hq with rfl | rfl
 ·exact prime2
 ·exact primeG2939
theorem primeG292386187:PrimeN 292386187:=prime_cert 292386187 2 [2,3,3,3,3,307,5879] (by decide +kernel) (by decide +kernel) (by decide +kernel) fun q hq=>by
 simp only[List.mem_cons,List.not_mem_nil,or_false] at hq
 rcases hq with rfl | rfl | rfl | rfl | rfl | rfl | rfl
 ·exact prime2
 ·exact prime3
 ·exact prime3
 ·exact prime3
 ·exact prime3
 ·exact primeG307
 ·exact primeG5879
theorem primeG213441916511:PrimeN 213441916511:=prime_cert 213441916511 13 [2,5,73,292386187] (by decide +kernel) (by decide +kernel) (by decide +kernel) fun q hq=>by
 simp only[List.mem_cons,List.not_mem_nil,or_false] at hq
 rcases hq with rfl | rfl | rfl | rfl
 ·exact prime2
 ·exact prime5
 ·exact primeG73
 ·exact primeG292386187
theorem primeG1361:PrimeN 1361:=prime_cert 1361 3 [2,2,2,2,5,17] (by decide +kernel) (by decide +kernel) (by decide +kernel) fun q hq=>by
 simp only[List.mem_cons,List.not_mem_nil,or_false] at hq
 rcases hq with rfl | rfl | rfl | rfl | rfl | rfl
 ·exact prime2
 ·exact prime2
 ·exact prime2
 ·exact prime2
 ·exact prime5
 ·exact prime17
theorem primeG2851:PrimeN 2851:=prime_cert 2851 2 [2,3,5,5,19] (by decide +kernel) (by decide +kernel) (by decide +kernel) fun q hq=>by
 simp only[List.mem_cons,List.not_mem_nil,or_false] at hq
 rcases hq with rfl | rfl | rfl | rfl | rfl
 ·exact prime2
 ·exact prime3
 ·exact prime5
 ·exact prime5
 ·exact prime19
theorem primeG3797:PrimeN 3797:=prime_cert 3797 2 [2,2,13,73] (by decide +kernel) (by decide +kernel) (by decide +kernel) fun q hq=>by
 simp only[List.mem_cons,List.not_mem_nil,or_false] at hq
 rcases hq with rfl | rfl | rfl | rfl
 ·exact prime2
 ·exact prime2
 ·exact prime13
 ·exact primeG73
theorem primeG531581:PrimeN 531581:=prime_cert 531581 2 [2,2,5,7,3797] (by decide +kernel) (by decide +kernel) (by decide +kernel) fun q hq=>by
 simp only[List.mem_cons,List.not_mem_nil,or_false] at hq
 rcases hq with rfl | rfl | rfl | rfl | rfl
 ·exact prime2
 ·exact prime2
 ·exact prime5
 ·exact prime7
 ·exact primeG3797
theorem primeG2551:PrimeN 2551:=prime_cert 2551 6 [2,3,5,5,17] (by decide +kernel) (by decide +kernel) (by decide +kernel) fun q hq=>by
 simp only[List.mem_cons,List.not_mem_nil,or_false] at hq
 rcases hq with rfl | rfl | rfl | rfl | rfl
 ·exact prime2
 ·exact prime3
 ·exact prime5
 ·exact prime5
 ·exact prime17
theorem primeG1224481:PrimeN 1224481:=prime_cert 1224481 13 [2,2,2,2,2,3,5,2551] (by decide +kernel) (by decide +kernel) (by decide +kernel) fun q hq=>by
 simp only[List.mem_cons,List.not_mem_nil,or_false] at hq
 rcases hq with rfl | rfl | rfl | rfl | rfl | rfl | rfl | rfl
 ·exact prime2
 ·exact prime2
 ·exact prime2
 ·exact prime2
 ·exact prime2
 ·exact prime3
 ·exact prime5
 ·exact primeG2551
theorem primeGl0:PrimeN 1257559732178653:=prime_cert 1257559732178653 2 [2,2,3,7,23,531581,1224481] (by decide +kernel) (by decide +kernel) (by decide +kernel) fun q hq=>by
 simp only[List.mem_cons,List.not_mem_nil,or_false] at hq
 rcases hq with rfl | rfl | rfl | rfl | rfl | rfl | rfl
 ·exact prime2
 ·exact prime2
 ·exact prime3
 ·exact prime7
 ·exact prime23
 ·exact primeG531581
 ·exact primeG1224481
theorem primeGl1:PrimeN 4434155615661930479:=prime_cert 4434155615661930479 17 [2,41,43,1257559732178653] (by decide +kernel) (by decide +kernel) (by decide +kernel) fun q hq=>by
 simp only[List.mem_cons,List.not_mem_nil,or_false] at hq
 rcases hq with rfl | rfl | rfl | rfl
 ·exact prime2
 ·exact prime41
 ·exact prime43
 ·exact primeGl0
theorem primeGl2:PrimeN 172054593956031949258510691:=prime_cert 172054593956031949258510691 2 [2,5,1361,2851,4434155615661930479] (by decide +kernel) (by decide +kernel) (by decide +kernel) fun q hq=>by
 simp only[List.mem_cons,List.not_mem_nil,or_false] at hq
 rcases hq with rfl | rfl | rfl | rfl | rfl
 ·exact prime2
 ·exact prime5
 ·exact primeG1361
 ·exact primeG2851
 ·exact primeGl1
theorem primeGl3:PrimeN 19757330305831588566944191468367130476339:=prime_cert 19757330305831588566944191468367130476339 2 [2,269,213441916511,172054593956031949258510691] (by decide +kernel) (by decide +kernel) (by decide +kernel) fun q hq=>by
 simp only[List.mem_cons,List.not_mem_nil,or_false] at hq
 rcases hq with rfl | rfl | rfl | rfl
 ·exact prime2
 ·exact primeG269
 ·exact primeG213441916511
 ·exact primeGl2
def GN:Nat:=276602624281642239937218680557139826668747
theorem primeGN:PrimeN GN:=prime_cert GN 2 [2,7,19757330305831588566944191468367130476339] (by decide +kernel) (by decide +kernel) (by decide +kernel) fun q hq=>by
 simp only[List.mem_cons,List.not_mem_nil,or_false] at hq
 rcases hq with rfl | rfl | rfl
 ·exact prime2
 ·exact prime7
 ·exact primeGl3
theorem zeroAdd (p:Pt) (hp:On p):addE zeroE p=p:=by rw[add_comm'];exact add_zero' p hp
/-- A point's multiples, none first. -/
def tab (a:N4):Nat→N4
 | 0=>zero4
 | n+1=>add4 (tab a n) a
theorem ok4_tab {a:N4} {p:Pt} (ha:Ok4 a p):∀ n,Ok4 (tab a n) (timesE n p)
 | 0=>by
   rw[tab,timesE]
   exact ok4_zero
 | n+1=>by
   rw[tab,timesE]
   exact ok4_add (ok4_tab ha n) ha
def dbl16 (o:N4):N4:=dbl4 (dbl4 (dbl4 (dbl4 o)))
theorem times_one (q:Pt) (hq:On q):timesE 1 q=q:=zeroAdd q hq
theorem times_dbl (m:Nat) (q:Pt) (hq:On q):addE (timesE m q) (timesE m q)=timesE (m+m) q:=(times_add q hq m m).symm
theorem ok4_dbl16 {o:N4} {q:Pt} (ho:Ok4 o q):Ok4 (dbl16 o) (timesE 16 q):=by
 have hq:=ho.on
 have h1:Ok4 o (timesE 1 q):=by rw[times_one q hq];exact ho
 have h2:=ok4_dbl h1
 rw[times_dbl 1 q hq] at h2
 have h3:=ok4_dbl h2
 rw[times_dbl _ q hq] at h3
 have h4:=ok4_dbl h3
 rw[times_dbl _ q hq] at h4
 have h5:=ok4_dbl h4
 rw[times_dbl _ q hq] at h5
 unfold dbl16
 rw[show (16:Nat)=1+1+(1+1)+(1+1+(1+1))+(1+1+(1+1)+(1+1+(1+1))) from rfl]
 exact h5
theorem step16 (k n:Nat):16*(k/16^(n+1))+k/16^n%16=k/16^n:=by
 rw[Nat.pow_succ,← Nat.div_div_eq_div_mul]
 omega
/-- One step, of one term. -/
def take1 (k:Nat) (a o:N4) (n:Nat):N4:=add4 (dbl16 o) (tab a (k/16^n%16))
theorem ok4_take1 {a o:N4} {p:Pt} (k n:Nat) (ha:Ok4 a p) (ho:Ok4 o (timesE (k/16^(n+1)) p)):Ok4 (take1 k a o n) (timesE (k/16^n) p):=by
 have h:=ok4_add (ok4_dbl16 ho) (ok4_tab ha (k/16^n%16))
 rw[← times_mul p ha.on,← times_add p ha.on,step16] at h
 exact h
/-- So many steps. -/
def runF (f:N4→Nat→N4):Nat→N4→N4
 | 0,o=>o
 | n+1,o=>runF f n (f o n)
theorem runF_zero (f:N4→Nat→N4) (o:N4):runF f 0 o=o:=rfl
theorem runF_succ (f:N4→Nat→N4) (n:Nat) (o:N4):runF f (n+1) o=runF f n (f o n):=rfl
theorem ok4_run1 {a:N4} {p:Pt} (k:Nat) (ha:Ok4 a p) (n:Nat):∀ o,Ok4 o (timesE (k/16^n) p)→Ok4 (runF (take1 k a) n o) (timesE k p):=by
 induction n with
 | zero =>
   intro o ho
   rw[Nat.pow_zero,Nat.div_one] at ho
   rw[runF_zero]
   exact ho
 | succ n ih =>
   intro o ho
   have h:=ih (take1 k a o n) (ok4_take1 k n ha ho)
   rw[runF_succ]
   exact h
theorem ok4_all1 {a:N4} {p:Pt} (k n:Nat) (ha:Ok4 a p) (h:k<16^n):Ok4 (runF (take1 k a) n zero4) (timesE k p) :=
 ok4_run1 k ha n zero4 (by rw[Nat.div_eq_of_lt h,timesE];exact ok4_zero)
/-- How many steps a number asks for. -/
def stepsN (k:Nat):Nat:=(Go.bitLen k+3)/4
theorem steps_enough (k m:Nat) (h:stepsN k≤m):k<16^m:=by
 have h1:k<2^Go.bitLen k:=(bitLen_spec k).1
 have h2:Go.bitLen k≤4*m:=by unfold stepsN at h;omega
 refine Nat.lt_of_lt_of_le h1 ?_
 rw[show (16:Nat)=2^4 from rfl,← Nat.pow_mul]
 exact Nat.pow_le_pow_right (by decide) h2
/-- The table as a row: what is there of it. -/
def tabL (a:N4) (n:Nat):List Value:=(List.range n).flatMap fun i=>pl4 (tab a i)
theorem pl4_length (a:N4):(pl4 a).length=16:=rfl
theorem tabL_length (a:N4):∀ n,(tabL a n).length=16*n
 | 0=>rfl
 | n+1=>by
   unfold tabL
   rw[List.range_succ,List.flatMap_append,List.length_append,show ((List.range n).flatMap fun i=>pl4 (tab a i)).length=16*n from tabL_length a n]
   simp[pl4_length]
   omega
theorem tabL_succ (a:N4) (n:Nat):tabL a (n+1)=tabL a n++pl4 (tab a n):=by
 unfold tabL
 rw[List.range_succ,List.flatMap_append]
 simp
/-- A point of it. -/
theorem tabL_at (a:N4) (n i:Nat) (h:i<n) (t:List Value):((tabL a n++t).drop (16*i)).take 16=pl4 (tab a i):=by
 obtain⟨d,rfl⟩:∃ d,n=i+1+d:=⟨n-(i+1),by omega⟩
 have h1:∀ d,∃ r,tabL a (i+1+d)=tabL a i++(pl4 (tab a i)++r):=by
  intro d
  induction d with
  | zero=>exact⟨[],by rw[Nat.add_zero,tabL_succ,List.append_nil]⟩
  | succ d ih =>
    obtain⟨r,hr⟩:=ih
    refine⟨r++pl4 (tab a (i+1+d)),?_⟩
    rw[← Nat.add_assoc,tabL_succ,hr]
    simp only[List.append_assoc]
 obtain⟨r,hr⟩:=h1 d
 rw[hr,List.append_assoc,List.append_assoc,List.drop_left' (tabL_length a i),List.take_left' (pl4_length _)]
end Go.Proofs.YtnaldciakclccaaGreat
