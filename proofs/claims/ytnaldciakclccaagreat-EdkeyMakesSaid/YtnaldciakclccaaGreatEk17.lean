/- mult.bitsOf (layer 23): its contract. mult.multiples (layer 23): its contract. mult.sum's closure (layer 23): its contract. append onto a slice of the call's own, in texts of whole rows. No program in it. mult.sum (layer 23): its contract. The closure of wide.Rem: one bit more. (wide.Num).IsZero: what it answers. wide.Rem: what it answers. -/
import Derived.Deep.LoopGhost
import Derived.Maps.AppendAt
import Derived.Test.YtnaldciakclccaaGreatEk16
import Derived.Test.YtnaldciakclccaaGreatEk03
namespace Go.Proofs.YtnaldciakclccaaGreat
set_option maxRecDepth 20000
set_option linter.unusedSimpArgs false
set_option linter.unusedVariables false
open Go.RowKit Go.Sort
theorem bits4 (n s:Nat):bitN n (4*s)+bitN n (4*s+1)*2+bitN n (4*s+2)*4+bitN n (4*s+3)*8=n/16^s%16:=by
 unfold bitN
 rw[show (16:Nat)^s=2^(4*s) by rw[show (16:Nat)=2^4 from rfl,← Nat.pow_mul],Nat.pow_succ,Nat.pow_succ 2 (4*s+1),Nat.pow_succ 2 (4*s+2),Nat.pow_succ 2 (4*s+1),Nat.pow_succ 2 (4*s)]
 simp only[← Nat.div_div_eq_div_mul]
 omega
theorem or_at (i:Nat) (hi:i<4):∀ a,a<2^i→∀ b,b<2→a ||| (b*2^i)=a+b*2^i:=by
 intro a ha b hb
 have h:=Nat.two_pow_add_eq_or_of_lt ha b
 rw[Nat.or_comm,Nat.mul_comm b,Nat.add_comm]
 exact h.symm
theorem bin_or_u (i:Nat) (hi:i<4) (a b:Nat) (ha:a<2^i) (hb:b<2) (c:Nat) (hc:b*2^i=c) (x y:Operand) (W:World):(do eqGuard .or 61 x y (.int .u64 (a:Int)) (.int .u64 (c:Int));binOp .or 61 (.int .u64 (a:Int)) (.int .u64 (c:Int)):Sem Value).run Tryz.prog W=.ok (.int .u64 ((a+c:Nat):Int)) W:=by
 have h16:2^i≤8:=Nat.pow_le_pow_right (n:=2) (by decide) (show i≤3 by omega)
 have hcl:c≤8:=by rw[← hc];exact Nat.le_trans (Nat.mul_le_mul_right _ (show b≤1 by omega)) (by omega)
 have e:bits .or .u64 (a:Int) (c:Int)=((a+c:Nat):Int):=by
  have h1:=u64_or_nat a c (by omega) (by omega)
  have h2:=or_at i hi a ha b hb
  rw[hc] at h2
  rw[h2] at h1
  exact h1
 obtain⟨m,hm⟩:∃ m,a+c=m:=⟨_,rfl⟩
 rw[hm] at e ⊢
 clear hm ha hb hc h16 hcl
 go_simp
theorem bin_shl_u0 (b:Nat) (hb:b<2) (x y:Operand) (W:World):(do eqGuard .shl 61 x y (.int .u64 (b:Int)) (.int .i64 0);binOp .shl 61 (.int .u64 (b:Int)) (.int .i64 0):Sem Value).run Tryz.prog W=.ok (.int .u64 ((b*1:Nat):Int)) W:=by
 have h:b=0∨b=1:=by omega
 rcases h with rfl | rfl <;> rfl
theorem bin_shl_u1 (b:Nat) (hb:b<2) (x y:Operand) (W:World):(do eqGuard .shl 61 x y (.int .u64 (b:Int)) (.int .i64 1);binOp .shl 61 (.int .u64 (b:Int)) (.int .i64 1):Sem Value).run Tryz.prog W=.ok (.int .u64 ((b*2:Nat):Int)) W:=by
 have h:b=0∨b=1:=by omega
 rcases h with rfl | rfl <;> rfl
theorem bin_shl_u2 (b:Nat) (hb:b<2) (x y:Operand) (W:World):(do eqGuard .shl 61 x y (.int .u64 (b:Int)) (.int .i64 2);binOp .shl 61 (.int .u64 (b:Int)) (.int .i64 2):Sem Value).run Tryz.prog W=.ok (.int .u64 ((b*4:Nat):Int)) W:=by
 have h:b=0∨b=1:=by omega
 rcases h with rfl | rfl <;> rfl
theorem bin_shl_u3 (b:Nat) (hb:b<2) (x y:Operand) (W:World):(do eqGuard .shl 61 x y (.int .u64 (b:Int)) (.int .i64 3);binOp .shl 61 (.int .u64 (b:Int)) (.int .i64 3):Sem Value).run Tryz.prog W=.ok (.int .u64 ((b*8:Nat):Int)) W:=by
 have h:b=0∨b=1:=by omega
 rcases h with rfl | rfl <;> rfl
theorem bitd (n i d:Nat) (hd:d=bitN n i) (hi:i<256) (w:World):Calls Tryz.prog 29 #[numV n,.int .i64 (i:Int)] w fun e w'=>e=.returned (.int .u64 (d:Int))∧Below w.heap.size w w':=by
 rw[hd]
 exact bit_any n i w hi
theorem bin_mul4 (s:Nat) (h:s≤63) (x y:Operand) (W:World):(do eqGuard .mul 3 x y (.int .i64 4) (.int .i64 (s:Int));binOp .mul 3 (.int .i64 4) (.int .i64 (s:Int)):Sem Value).run Tryz.prog W=.ok (.int .i64 ((4*s:Nat):Int)) W:=by
 have e:IntKind.i64.wrap (4*(s:Int))=((4*s:Nat):Int):=by rw[IntWalk.i64_in _ (by omega)];omega
 obtain⟨m,hm⟩:∃ m,4*s=m:=⟨_,rfl⟩
 rw[hm] at e ⊢
 go_simp
theorem bin_add_i0 (a c:Nat) (h:a≤1000) (hc:a+0=c) (x y:Operand) (W:World):(do eqGuard .add 3 x y (.int .i64 (a:Int)) (.int .i64 0);binOp .add 3 (.int .i64 (a:Int)) (.int .i64 0):Sem Value).run Tryz.prog W=.ok (.int .i64 (c:Int)) W:=by
 have e:IntKind.i64.wrap ((a:Int)+0)=(c:Int):=by rw[IntWalk.i64_in _ (by omega)];omega
 rw[Int.add_zero] at e
 go_simp
theorem bin_add_i1 (a c:Nat) (h:a≤1000) (hc:a+1=c) (x y:Operand) (W:World):(do eqGuard .add 3 x y (.int .i64 (a:Int)) (.int .i64 1);binOp .add 3 (.int .i64 (a:Int)) (.int .i64 1):Sem Value).run Tryz.prog W=.ok (.int .i64 (c:Int)) W:=by
 have e:IntKind.i64.wrap ((a:Int)+1)=(c:Int):=by rw[IntWalk.i64_in _ (by omega)];omega
 go_simp
theorem bin_add_i2 (a c:Nat) (h:a≤1000) (hc:a+2=c) (x y:Operand) (W:World):(do eqGuard .add 3 x y (.int .i64 (a:Int)) (.int .i64 2);binOp .add 3 (.int .i64 (a:Int)) (.int .i64 2):Sem Value).run Tryz.prog W=.ok (.int .i64 (c:Int)) W:=by
 have e:IntKind.i64.wrap ((a:Int)+2)=(c:Int):=by rw[IntWalk.i64_in _ (by omega)];omega
 go_simp
theorem bin_add_i3 (a c:Nat) (h:a≤1000) (hc:a+3=c) (x y:Operand) (W:World):(do eqGuard .add 3 x y (.int .i64 (a:Int)) (.int .i64 3);binOp .add 3 (.int .i64 (a:Int)) (.int .i64 3):Sem Value).run Tryz.prog W=.ok (.int .i64 (c:Int)) W:=by
 have e:IntKind.i64.wrap ((a:Int)+3)=(c:Int):=by rw[IntWalk.i64_in _ (by omega)];omega
 go_simp
set_option maxRecDepth 20000 in
set_option maxHeartbeats 8000000 in
theorem bitsof_any (n s:Nat) (hs:s≤63) (w:World):Calls Tryz.prog 162 #[numV n,.int .i64 (s:Int)] w fun E w'=>E=.returned (.int .u64 ((n/16^s%16:Nat):Int))∧Below w.heap.size w w':=by
 have HB:=bits4 n s
 obtain⟨d0,hd0⟩:∃ b,b=bitN n (4*s+0):=⟨_,rfl⟩
 have hl0:d0<2:=by rw[hd0];exact bitN_lt _ _
 obtain⟨d1,hd1⟩:∃ b,b=bitN n (4*s+1):=⟨_,rfl⟩
 have hl1:d1<2:=by rw[hd1];exact bitN_lt _ _
 obtain⟨d2,hd2⟩:∃ b,b=bitN n (4*s+2):=⟨_,rfl⟩
 have hl2:d2<2:=by rw[hd2];exact bitN_lt _ _
 obtain⟨d3,hd3⟩:∃ b,b=bitN n (4*s+3):=⟨_,rfl⟩
 have hl3:d3<2:=by rw[hd3];exact bitN_lt _ _
 rw[show bitN n (4*s)=d0 from hd0.symm,← hd1,← hd2,← hd3] at HB
 obtain⟨a0,ea0⟩:∃ a,a=0:=⟨_,rfl⟩
 obtain⟨a1,ea1⟩:∃ a,a=a0+d0*1:=⟨_,rfl⟩
 obtain⟨a2,ea2⟩:∃ a,a=a1+d1*2:=⟨_,rfl⟩
 obtain⟨a3,ea3⟩:∃ a,a=a2+d2*4:=⟨_,rfl⟩
 obtain⟨a4,ea4⟩:∃ a,a=a3+d3*8:=⟨_,rfl⟩
 have ha0:a0<2^0:=by rw[ea0];decide
 have ha1:a1<2^1:=by simp only[show (2:Nat)^0=1 from rfl,show (2:Nat)^1=2 from rfl] at *;omega
 have ha2:a2<2^2:=by simp only[show (2:Nat)^1=2 from rfl,show (2:Nat)^2=4 from rfl] at *;omega
 have ha3:a3<2^3:=by simp only[show (2:Nat)^2=4 from rfl,show (2:Nat)^3=8 from rfl] at *;omega
 have EA:a4=n/16^s%16:=by rw[← HB];omega
 rw[← EA]
 go_enter Tryz.func162,Tryz.ntmps162
 have hM0:=Mem.start w
 (go_step;go_step;refine wp_region_lit ?_)
 refine wl_new hM0 (f:=fun b=>.pointer (some ⟨b,0,none⟩)) (ob:=.cells (elR n) 24 (0,0)) (fun W=>run_box_of rfl rfl (bx_Wn n W)) rfl fun b1 W1 hM1=>?_
 simp only[nm0,nm1,nm2,nm3]
 refine wl_pure (v:=.int .u64 ((0:Nat):Int)) (fun _=>rfl) rfl ?_
 simp only[nm0,nm1,nm2,nm3]
 refine wpList_nil ?_
 (go_step;go_step;go_step;refine wp_region_lit ?_)
 refine wl_pure (v:=.int .u64 ((0:Nat):Int)) (fun _=>rfl) rfl ?_
 simp only[nm0,nm1,nm2,nm3]
 refine wpList_nil ?_
 simp only[show ((0:Nat):Int)=(a0:Int) by rw[ea0]]
 (go_step;go_step;go_step;go_step;refine wp_region_lit ?_)
 refine wl_pure (v:=.int .i64 0) (fun _=>rfl) rfl ?_
 simp only[nm0,nm1,nm2,nm3]
 refine wpList_nil ?_
 (go_step;go_step;go_step;refine wp_loop_rounds 5 ?_)
 rw[rounds_succ]
 (go_step;refine wp_region_lit ?_)
 refine wl_pure (v:=.bool true) (fun W=>by go_simp) rfl ?_
 simp only[nm0,nm1,nm2,nm3]
 refine wpList_nil ?_
 (go_step;go_step;go_step;go_step;go_step;go_step;go_step;go_step;go_step;go_step;refine wp_region_lit ?_)
 refine wl_pure (v:=.int .i64 0) (fun _=>rfl) rfl ?_
 simp only[nm0,nm1,nm2,nm3]
 refine wl_pure (v:=.int .i64 0) (fun _=>rfl) rfl ?_
 simp only[nm0,nm1,nm2,nm3]
 refine wpList_nil ?_
 (go_step;go_step;refine wp_region_lit ?_)
 refine wl_pure (v:=.int .u64 (a0:Int)) (fun _=>rfl) rfl ?_
 simp only[nm0,nm1,nm2,nm3]
 refine wl_row hM1 0 (v:=numV n) rfl rfl rfl rfl rowWn rfl ?_
 simp only[nm0,nm1,nm2,nm3]
 refine wl_pure (v:=.int .i64 (s:Int)) (fun _=>rfl) rfl ?_
 simp only[nm0,nm1,nm2,nm3]
 refine wl_pure (v:=.int .i64 ((4*s:Nat):Int)) (fun W=>run_bin_of rfl rfl rfl (bin_mul4 s hs _ _ W)) rfl ?_
 simp only[nm0,nm1,nm2,nm3]
 refine wl_pure (v:=.int .i64 0) (fun _=>rfl) rfl ?_
 simp only[nm0,nm1,nm2,nm3]
 refine wl_pure (v:=.int .i64 ((4*s+0:Nat):Int)) (fun W=>run_bin_of rfl rfl rfl (bin_add_i0 (4*s) _ (by omega) rfl _ _ W)) rfl ?_
 simp only[nm0,nm1,nm2,nm3]
 refine wl_call hM1 (args:=#[numV n,.int .i64 ((4*s+0:Nat):Int)]) (v:=.int .u64 (d0:Int)) (fun W=>run_call_fn W (enters_of Tryz.func29 rfl rfl) rfl (by simp[Act.eval])) ((fun W=>bitd n (4*s+0) d0 hd0 (by omega) W) W1) rfl fun W2 hM2=>?_
 simp only[nm0,nm1,nm2,nm3]
 refine wl_pure (v:=.int .i64 0) (fun _=>rfl) rfl ?_
 simp only[nm0,nm1,nm2,nm3]
 refine wl_pure (v:=.int .u64 ((d0*1:Nat):Int)) (fun W=>run_bin_of rfl rfl rfl (bin_shl_u0 d0 hl0 _ _ W)) rfl ?_
 simp only[nm0,nm1,nm2,nm3]
 refine wl_pure (v:=.int .u64 (a1:Int)) (fun W=>run_bin_of rfl rfl rfl (by rw[ea1];exact bin_or_u 0 (by decide) a0 d0 ha0 hl0 _ rfl _ _ W)) rfl ?_
 simp only[nm0,nm1,nm2,nm3]
 refine wl_pure (v:=.int .u64 (a1:Int)) (fun _=>rfl) rfl ?_
 simp only[nm0,nm1,nm2,nm3]
 refine wpList_nil ?_
 (go_step;go_step;refine wp_region_lit ?_)
 refine wl_pure (v:=.int .i64 1) (fun W=>by go_simp;decide) rfl ?_
 simp only[nm0,nm1,nm2,nm3]
 refine wl_pure (v:=.int .i64 1) (fun _=>rfl) rfl ?_
 simp only[nm0,nm1,nm2,nm3]
 refine wpList_nil ?_
 go_step
 rw[rounds_succ]
 (go_step;refine wp_region_lit ?_)
 refine wl_pure (v:=.bool true) (fun W=>by go_simp) rfl ?_
 simp only[nm0,nm1,nm2,nm3]
 refine wpList_nil ?_
 (go_step;go_step;go_step;go_step;go_step;go_step;go_step;go_step;go_step;go_step;refine wp_region_lit ?_)
 refine wl_pure (v:=.int .i64 1) (fun _=>rfl) rfl ?_
 simp only[nm0,nm1,nm2,nm3]
 refine wl_pure (v:=.int .i64 1) (fun _=>rfl) rfl ?_
 simp only[nm0,nm1,nm2,nm3]
 refine wpList_nil ?_
 (go_step;go_step;refine wp_region_lit ?_)
 refine wl_pure (v:=.int .u64 (a1:Int)) (fun _=>rfl) rfl ?_
 simp only[nm0,nm1,nm2,nm3]
 refine wl_row hM2 0 (v:=numV n) rfl rfl rfl rfl rowWn rfl ?_
 simp only[nm0,nm1,nm2,nm3]
 refine wl_pure (v:=.int .i64 (s:Int)) (fun _=>rfl) rfl ?_
 simp only[nm0,nm1,nm2,nm3]
 refine wl_pure (v:=.int .i64 ((4*s:Nat):Int)) (fun W=>run_bin_of rfl rfl rfl (bin_mul4 s hs _ _ W)) rfl ?_
 simp only[nm0,nm1,nm2,nm3]
 refine wl_pure (v:=.int .i64 1) (fun _=>rfl) rfl ?_
 simp only[nm0,nm1,nm2,nm3]
 refine wl_pure (v:=.int .i64 ((4*s+1:Nat):Int)) (fun W=>run_bin_of rfl rfl rfl (bin_add_i1 (4*s) _ (by omega) rfl _ _ W)) rfl ?_
 simp only[nm0,nm1,nm2,nm3]
 refine wl_call hM2 (args:=#[numV n,.int .i64 ((4*s+1:Nat):Int)]) (v:=.int .u64 (d1:Int)) (fun W=>run_call_fn W (enters_of Tryz.func29 rfl rfl) rfl (by simp[Act.eval])) ((fun W=>bitd n (4*s+1) d1 hd1 (by omega) W) W2) rfl fun W3 hM3=>?_
 simp only[nm0,nm1,nm2,nm3]
 refine wl_pure (v:=.int .i64 1) (fun _=>rfl) rfl ?_
 simp only[nm0,nm1,nm2,nm3]
 refine wl_pure (v:=.int .u64 ((d1*2:Nat):Int)) (fun W=>run_bin_of rfl rfl rfl (bin_shl_u1 d1 hl1 _ _ W)) rfl ?_
 simp only[nm0,nm1,nm2,nm3]
 refine wl_pure (v:=.int .u64 (a2:Int)) (fun W=>run_bin_of rfl rfl rfl (by rw[ea2];exact bin_or_u 1 (by decide) a1 d1 ha1 hl1 _ rfl _ _ W)) rfl ?_
 simp only[nm0,nm1,nm2,nm3]
 refine wl_pure (v:=.int .u64 (a2:Int)) (fun _=>rfl) rfl ?_
 simp only[nm0,nm1,nm2,nm3]
 refine wpList_nil ?_
 (go_step;go_step;refine wp_region_lit ?_)
 refine wl_pure (v:=.int .i64 2) (fun W=>by go_simp;decide) rfl ?_
 simp only[nm0,nm1,nm2,nm3]
 refine wl_pure (v:=.int .i64 2) (fun _=>rfl) rfl ?_
 simp only[nm0,nm1,nm2,nm3]
 refine wpList_nil ?_
 go_step
 rw[rounds_succ]
 (go_step;refine wp_region_lit ?_)
 refine wl_pure (v:=.bool true) (fun W=>by go_simp) rfl ?_
 simp only[nm0,nm1,nm2,nm3]
 refine wpList_nil ?_
 (go_step;go_step;go_step;go_step;go_step;go_step;go_step;go_step;go_step;go_step;refine wp_region_lit ?_)
 refine wl_pure (v:=.int .i64 2) (fun _=>rfl) rfl ?_
 simp only[nm0,nm1,nm2,nm3]
 refine wl_pure (v:=.int .i64 2) (fun _=>rfl) rfl ?_
 simp only[nm0,nm1,nm2,nm3]
 refine wpList_nil ?_
 (go_step;go_step;refine wp_region_lit ?_)
 refine wl_pure (v:=.int .u64 (a2:Int)) (fun _=>rfl) rfl ?_
 simp only[nm0,nm1,nm2,nm3]
 refine wl_row hM3 0 (v:=numV n) rfl rfl rfl rfl rowWn rfl ?_
 simp only[nm0,nm1,nm2,nm3]
 refine wl_pure (v:=.int .i64 (s:Int)) (fun _=>rfl) rfl ?_
 simp only[nm0,nm1,nm2,nm3]
 refine wl_pure (v:=.int .i64 ((4*s:Nat):Int)) (fun W=>run_bin_of rfl rfl rfl (bin_mul4 s hs _ _ W)) rfl ?_
 simp only[nm0,nm1,nm2,nm3]
 refine wl_pure (v:=.int .i64 2) (fun _=>rfl) rfl ?_
 simp only[nm0,nm1,nm2,nm3]
 refine wl_pure (v:=.int .i64 ((4*s+2:Nat):Int)) (fun W=>run_bin_of rfl rfl rfl (bin_add_i2 (4*s) _ (by omega) rfl _ _ W)) rfl ?_
 simp only[nm0,nm1,nm2,nm3]
 refine wl_call hM3 (args:=#[numV n,.int .i64 ((4*s+2:Nat):Int)]) (v:=.int .u64 (d2:Int)) (fun W=>run_call_fn W (enters_of Tryz.func29 rfl rfl) rfl (by simp[Act.eval])) ((fun W=>bitd n (4*s+2) d2 hd2 (by omega) W) W3) rfl fun W4 hM4=>?_
 simp only[nm0,nm1,nm2,nm3]
 refine wl_pure (v:=.int .i64 2) (fun _=>rfl) rfl ?_
 simp only[nm0,nm1,nm2,nm3]
 refine wl_pure (v:=.int .u64 ((d2*4:Nat):Int)) (fun W=>run_bin_of rfl rfl rfl (bin_shl_u2 d2 hl2 _ _ W)) rfl ?_
 simp only[nm0,nm1,nm2,nm3]
 refine wl_pure (v:=.int .u64 (a3:Int)) (fun W=>run_bin_of rfl rfl rfl (by rw[ea3];exact bin_or_u 2 (by decide) a2 d2 ha2 hl2 _ rfl _ _ W)) rfl ?_
 simp only[nm0,nm1,nm2,nm3]
 refine wl_pure (v:=.int .u64 (a3:Int)) (fun _=>rfl) rfl ?_
 simp only[nm0,nm1,nm2,nm3]
 refine wpList_nil ?_
 (go_step;go_step;refine wp_region_lit ?_)
 refine wl_pure (v:=.int .i64 3) (fun W=>by go_simp;decide) rfl ?_
 simp only[nm0,nm1,nm2,nm3]
 refine wl_pure (v:=.int .i64 3) (fun _=>rfl) rfl ?_
 simp only[nm0,nm1,nm2,nm3]
 refine wpList_nil ?_
 go_step
 rw[rounds_succ]
 (go_step;refine wp_region_lit ?_)
 refine wl_pure (v:=.bool true) (fun W=>by go_simp) rfl ?_
 simp only[nm0,nm1,nm2,nm3]
 refine wpList_nil ?_
 (go_step;go_step;go_step;go_step;go_step;go_step;go_step;go_step;go_step;go_step;refine wp_region_lit ?_)
 refine wl_pure (v:=.int .i64 3) (fun _=>rfl) rfl ?_
 simp only[nm0,nm1,nm2,nm3]
 refine wl_pure (v:=.int .i64 3) (fun _=>rfl) rfl ?_
 simp only[nm0,nm1,nm2,nm3]
 refine wpList_nil ?_
 (go_step;go_step;refine wp_region_lit ?_)
 refine wl_pure (v:=.int .u64 (a3:Int)) (fun _=>rfl) rfl ?_
 simp only[nm0,nm1,nm2,nm3]
 refine wl_row hM4 0 (v:=numV n) rfl rfl rfl rfl rowWn rfl ?_
 simp only[nm0,nm1,nm2,nm3]
 refine wl_pure (v:=.int .i64 (s:Int)) (fun _=>rfl) rfl ?_
 simp only[nm0,nm1,nm2,nm3]
 refine wl_pure (v:=.int .i64 ((4*s:Nat):Int)) (fun W=>run_bin_of rfl rfl rfl (bin_mul4 s hs _ _ W)) rfl ?_
 simp only[nm0,nm1,nm2,nm3]
 refine wl_pure (v:=.int .i64 3) (fun _=>rfl) rfl ?_
 simp only[nm0,nm1,nm2,nm3]
 refine wl_pure (v:=.int .i64 ((4*s+3:Nat):Int)) (fun W=>run_bin_of rfl rfl rfl (bin_add_i3 (4*s) _ (by omega) rfl _ _ W)) rfl ?_
 simp only[nm0,nm1,nm2,nm3]
 refine wl_call hM4 (args:=#[numV n,.int .i64 ((4*s+3:Nat):Int)]) (v:=.int .u64 (d3:Int)) (fun W=>run_call_fn W (enters_of Tryz.func29 rfl rfl) rfl (by simp[Act.eval])) ((fun W=>bitd n (4*s+3) d3 hd3 (by omega) W) W4) rfl fun W5 hM5=>?_
 simp only[nm0,nm1,nm2,nm3]
 refine wl_pure (v:=.int .i64 3) (fun _=>rfl) rfl ?_
 simp only[nm0,nm1,nm2,nm3]
 refine wl_pure (v:=.int .u64 ((d3*8:Nat):Int)) (fun W=>run_bin_of rfl rfl rfl (bin_shl_u3 d3 hl3 _ _ W)) rfl ?_
 simp only[nm0,nm1,nm2,nm3]
 refine wl_pure (v:=.int .u64 (a4:Int)) (fun W=>run_bin_of rfl rfl rfl (by rw[ea4];exact bin_or_u 3 (by decide) a3 d3 ha3 hl3 _ rfl _ _ W)) rfl ?_
 simp only[nm0,nm1,nm2,nm3]
 refine wl_pure (v:=.int .u64 (a4:Int)) (fun _=>rfl) rfl ?_
 simp only[nm0,nm1,nm2,nm3]
 refine wpList_nil ?_
 (go_step;go_step;refine wp_region_lit ?_)
 refine wl_pure (v:=.int .i64 4) (fun W=>by go_simp;decide) rfl ?_
 simp only[nm0,nm1,nm2,nm3]
 refine wl_pure (v:=.int .i64 4) (fun _=>rfl) rfl ?_
 simp only[nm0,nm1,nm2,nm3]
 refine wpList_nil ?_
 go_step
 rw[rounds_succ]
 (go_step;refine wp_region_lit ?_)
 refine wl_pure (v:=.bool false) (fun W=>by go_simp) rfl ?_
 simp only[nm0,nm1,nm2,nm3]
 refine wpList_nil ?_
 (go_step;go_step;go_step;go_step;go_step;go_step;go_step;go_step;refine wp_region_lit ?_)
 refine wl_pure (v:=.int .u64 (a4:Int)) (fun _=>rfl) rfl ?_
 simp only[nm0,nm1,nm2,nm3]
 refine wl_pure (v:=.int .u64 (a4:Int)) (fun _=>rfl) rfl ?_
 simp only[nm0,nm1,nm2,nm3]
 refine wpList_nil ?_
 (go_step;go_step;go_step;refine bodyPost_ret (v:=.int .u64 (a4:Int)) (results_slot Tryz.results162 rfl) rfl ⟨?_,hM5.below⟩)
 exact rfl
def z256:Array Value:=(List.replicate 256 (Value.int .u64 0)).toArray
theorem al_T (W:World):(Instr.alloc 190 true (.tuple #[])).run Tryz.prog W=.ok (.pointer (some ⟨W.heap.size,0,none⟩)) (W.alloc (.cells z256 190 (0,0))):=by
 kernel_rfl
theorem rowT:RowTy Tryz.prog 190 256:=⟨.inr ⟨_,_,Tryz.underlying190⟩,by kernel_rfl⟩
theorem bdT (a:N4) (W:World):(Instr.build 190 #[(0,pv4 a)]).run Tryz.prog W=.ok (.agg (pl4 a++List.replicate 240 (Value.int .u64 0)).toArray) W:=by
 kernel_rfl
theorem one_T (a:N4):((pl4 a++List.replicate 240 (Value.int .u64 0)).toArray).all (·.oneCell')=true:=by
 kernel_rfl
theorem tab_succ (a:N4) (n:Nat):tab a (n+1)=add4 (tab a n) a:=by rw[tab]
theorem tab_zero (a:N4):tab a 0=zero4:=by rw[tab]
/-- The table so far, and what is not there yet. -/
def trow (a:N4) (j:Nat):Array Value:=(tabL a (j+1)++List.replicate (16*(15-j)) (Value.int .u64 0)).toArray
theorem trow_zero (a:N4):(pl4 zero4++List.replicate 240 (Value.int .u64 0)).toArray=trow a 0:=by
 unfold trow
 rw[tabL_succ,tab_zero]
 rfl
theorem trow_size (a:N4) (j:Nat) (h:j≤15):(trow a j).size=256:=by
 show (tabL a (j+1)++List.replicate (16*(15-j)) (Value.int .u64 0)).toArray.size=256
 rw[List.size_toArray,List.length_append,tabL_length,List.length_replicate]
 omega
theorem trow_at (a:N4) (j:Nat):((trow a j).toList.drop (16*j)).take (pc4 (tab a j)).size=(pc4 (tab a j)).toList:=tabL_at a (j+1) j (Nat.lt_succ_self _) _
theorem trow_set (a:N4) (j:Nat) (h:j<15):(trow a j).toList.take (16*(j+1))++(pc4 (tab a (j+1))).toList++(trow a j).toList.drop (16*(j+1)+(pc4 (tab a (j+1))).size)=(trow a (j+1)).toList:=by
 show (tabL a (j+1)++List.replicate (16*(15-j)) (Value.int .u64 0)).take (16*(j+1))++pl4 (tab a (j+1))++(tabL a (j+1)++List.replicate (16*(15-j)) (Value.int .u64 0)).drop (16*(j+1)+16)=tabL a (j+1+1)++List.replicate (16*(15-(j+1))) (Value.int .u64 0)
 rw[List.take_left' (tabL_length a (j+1)),← List.drop_drop,List.drop_left' (tabL_length a (j+1)),List.drop_replicate,tabL_succ a (j+1)]
 congr 2
 omega
theorem trow_full (a:N4):trow a 15=(tabL a 16).toArray:=by
 unfold trow
 rw[show 16*(15-15)=0 from rfl,List.replicate_zero,List.append_nil]
theorem ix_T (b j:Nat) (hj:j<16) (n:Int) (hn:n=(j:Int)) (W:World):(Instr.indexAt 190 (.pointer (some ⟨b,0,none⟩)) (.int .i64 n)).run Tryz.prog W=.ok (.pointer (some ⟨b,16*j,none⟩)) W:=by
 subst hn
 have h1:(0:Int)≤(j:Int):=by omega
 have h2:(j:Int)<16:=by omega
 have e:(⟨b,0,none⟩:Addr).add (j*16)=⟨b,16*j,none⟩:=by unfold Addr.add;rw[Nat.mul_comm];split <;> simp_all
 go_simp
theorem bin_lss16 (n:Int) (x y:Operand) (W:World):(do eqGuard .lss 3 x y (.int .i64 n) (.int .i64 16);binOp .lss 3 (.int .i64 n) (.int .i64 16):Sem Value).run Tryz.prog W=.ok (.bool (decide (n<16))) W:=by
 go_simp
theorem bin_dec (n m:Int) (x y:Operand) (W:World) (h:n-1=m) (h0:0≤m) (h1:m≤1000000):(do eqGuard .sub 3 x y (.int .i64 n) (.int .i64 1);binOp .sub 3 (.int .i64 n) (.int .i64 1):Sem Value).run Tryz.prog W=.ok (.int .i64 m) W:=by
 have e:IntKind.i64.wrap (n-1)=m:=by rw[IntWalk.i64_in _ (by omega)];exact h
 clear h
 go_simp
theorem bin_inc (n m:Int) (x y:Operand) (W:World) (h:n+1=m) (h0:0≤m) (h1:m≤1000000):(do eqGuard .add 3 x y (.int .i64 n) (.int .i64 1);binOp .add 3 (.int .i64 n) (.int .i64 1):Sem Value).run Tryz.prog W=.ok (.int .i64 m) W:=by
 have e:IntKind.i64.wrap (n+1)=m:=by rw[IntWalk.i64_in _ (by omega)];exact h
 clear h
 go_simp
theorem one_all (a:N4):∀ n,((tabL a n).toArray).all (·.oneCell')=true
 | 0=>by
   unfold tabL
   simp
 | n+1=>by
   have h1:=one_all a n
   have h2:=one_p4 (tab a n)
   rw[tabL_succ]
   simp only[List.all_toArray,List.all_append,Bool.and_eq_true] at h1 h2 ⊢
   exact⟨h1,by simpa [pc4] using h2⟩
theorem one_tab (a:N4):((tabL a 16).toArray).all (·.oneCell')=true:=one_all a 16
set_option maxRecDepth 20000 in
set_option maxHeartbeats 8000000 in
theorem multiples_any {a:N4} {p:Pt} (ha:Ok4 a p) (w:World):Calls Tryz.prog 158 #[pv4 a,.func (.func 157) #[numV dN] #[]] w fun E w'=>E=.returned (.agg (tabL a 16).toArray)∧Below w.heap.size w w':=by
 have HMIX:=Lib.hid (show Tryz.prog.follows .mixedOrders=true by kernel_rfl)
 go_enter Tryz.func158,Tryz.ntmps158
 have hM0:=Mem.start w
 (go_step;go_step;refine wp_region_lit ?_)
 refine wl_new hM0 (f:=fun b=>.pointer (some ⟨b,0,none⟩)) (ob:=.cells ((pc4 a)) 39 (0,0)) (fun W=>run_box_of rfl rfl (bx_P4 _ W)) rfl fun b1 W1 hM1=>?_
 simp only[nm0,nm1,nm2,nm3]
 refine wl_new hM1 (f:=fun b=>.pointer (some ⟨b,0,none⟩)) (ob:=.cells z256 190 (0,0)) (fun W=>run_alloc_of rfl (al_T W)) rfl fun b2 W2 hM2=>?_
 simp only[nm0,nm1,nm2,nm3]
 refine wpList_nil ?_
 (go_step;go_step;go_step;refine wp_region_lit ?_)
 refine wl_call hM2 (args:=#[]) (v:=pv4 zero4) (fun W=>run_call_fn W (enters_of Tryz.func27 rfl rfl) rfl (by simp[Act.eval])) (zero4_any W2) rfl fun W3 hM3=>?_
 simp only[nm0,nm1,nm2,nm3]
 refine wl_pure (v:=.agg (pl4 zero4++List.replicate 240 (Value.int .u64 0)).toArray) (fun W=>run_build_of rfl (by simp[Act.eval]) (bdT zero4 W)) rfl ?_
 simp only[nm0,nm1,nm2,nm3]
 refine wl_new hM3 (f:=fun b=>.pointer (some ⟨b,0,none⟩)) (ob:=.cells z256 190 (0,0)) (fun W=>run_alloc_of rfl (al_T W)) rfl fun b3 W4 hM4=>?_
 simp only[nm0,nm1,nm2,nm3]
 refine wl_set hM4 0 (cs:=((pl4 zero4++List.replicate 240 (Value.int .u64 0)).toArray)) rfl rfl rfl rfl rowT rfl (one_T _) rfl rfl fun W5 hM5=>?_
 simp only[nm2,nm3] at hM5
 refine wpList_nil ?_
 (go_step;go_step;go_step;go_step;refine wp_region_lit ?_)
 refine wl_pure (v:=.int .i64 1) (fun _=>rfl) rfl ?_
 simp only[nm0,nm1,nm2,nm3]
 refine wpList_nil ?_
 rw[trow_zero a] at hM5
 (go_step;go_step;go_step;go_loopw [6] (fun i wr=>∃ j:Nat,j≤15∧i=.int .i64 ((j:Int)+1)∧Mem w [(b3,.cells (trow a j) 190 (0,0)),(b2,.cells z256 190 (0,0)),(b1,.cells ((pc4 a)) 39 (0,0))] wr) (fun i _=>(17-Go.RowKit.intOf i).toNat))
 case atStart=>exact⟨0,by omega,rfl,hM5⟩
 case round =>
  obtain⟨j,hj,rfl,hR⟩:=hrel
  clear hM1 hM2 hM3 hM4 hM5
  obtain⟨n,hn⟩:∃ n:Int,n=(j:Int)+1:=⟨_,rfl⟩
  rw[← hn]
  (go_step;go_step;go_step;refine wp_region_lit ?_)
  refine wl_pure (v:=.int .i64 n) (fun _=>rfl) rfl ?_
  simp only[nm0,nm1,nm2,nm3]
  obtain⟨c1,hc1⟩:∃ x,x=decide (n<16):=⟨_,rfl⟩
  refine wl_pure (v:=.bool c1) (fun W=>run_bin_of rfl rfl rfl (by rw[hc1];exact bin_lss16 n _ _ W)) rfl ?_
  simp only[nm0,nm1,nm2,nm3]
  refine wpList_nil ?_
  cases c1
  ·skip
   have hj15:j=15:=by
    have h9:=of_decide_eq_false hc1.symm
    omega
   subst hj15
   rw[trow_full a] at hR
   (go_step;go_step;go_step;go_step;go_step;go_step;go_step;go_step;go_step;refine wp_region_lit ?_)
   refine wl_row hR 0 (v:=.agg (tabL a 16).toArray) rfl rfl rfl rfl rowT rfl ?_
   simp only[nm0,nm1,nm2,nm3]
   refine wl_set hR 1 (cs:=((tabL a 16).toArray)) rfl rfl rfl rfl rowT rfl (one_tab a) rfl rfl fun W7 hM7=>?_
   simp only[nm2,nm3] at hM7
   refine wpList_nil ?_
   (go_step;go_step;go_step;refine bodyPost_ret (v:=.agg (tabL a 16).toArray) (results_arr Tryz.results158 rfl (hM7.load 1 rfl rowT)) rfl ⟨?_,hM7.below⟩)
   exact rfl
  ·skip
   have hj15:j<15:=by
    have h9:=of_decide_eq_true hc1.symm
    omega
   obtain⟨m,em⟩:∃ m:Int,m=(j:Int):=⟨_,rfl⟩
   have hnm:n-1=m:=by omega
   obtain⟨j1,ej1⟩:∃ x,x=j+1:=⟨_,rfl⟩
   obtain⟨n2,en2⟩:∃ m:Int,m=n+1:=⟨_,rfl⟩
   have hn2:n+1=n2:=en2.symm
   have KA:=Lib.hid (fun W=>adderadd4 (ok4_tab ha j) ha W)
   rw[← tab_succ] at KA
   obtain⟨tj,etj⟩:∃ x,x=tab a j:=⟨_,rfl⟩
   obtain⟨tj1,etj1⟩:∃ x,x=tab a (j+1):=⟨_,rfl⟩
   rw[← etj,← etj1] at KA
   (go_step;go_step;go_step;go_step;go_step;go_step;go_step;go_step;refine wp_region_inw 9 HMIX.out (by decide) (by kernel_rfl) (by kernel_rfl) ?_)
   refine inw_pure (v:=.int .i64 n) (fun _=>rfl) rfl rfl ?_;simp only[nm0,nm1,nm2,nm3]
   refine inw_pure (v:=.func (.func 157) #[numV dN] #[]) (fun _=>rfl) rfl rfl ?_;simp only[nm0,nm1,nm2,nm3]
   refine inw_pure (v:=.int .i64 n) (fun _=>rfl) rfl rfl ?_;simp only[nm0,nm1,nm2,nm3]
   refine inw_pure (v:=.int .i64 m) (fun W=>run_bin_of rfl rfl rfl (bin_dec n m _ _ W hnm (by omega) (by omega))) rfl rfl ?_;simp only[nm0,nm1,nm2,nm3]
   refine inw_pure (v:=.pointer (some ⟨b3,16*j,none⟩)) (fun W=>run_index_of rfl rfl rfl (ix_T b3 j (by omega) m (by omega) W)) rfl rfl ?_;simp only[nm0,nm1,nm2,nm3]
   refine inw_part hR 0 (v:=pv4 tj) (sub:=((pc4 tj))) rfl rfl rfl rfl (by rw[etj];exact trow_at a j) rowPt rfl rfl ?_;simp only[nm0,nm1,nm2,nm3]
   refine inw_row hR 2 (v:=pv4 a) rfl rfl rfl rfl rowPt rfl rfl ?_;simp only[nm0,nm1,nm2,nm3]
   refine inw_callV (args:=#[numV dN,pv4 tj,pv4 a]) (v:=pv4 tj1) (fun W=>run_call_dyn W (enters_of Tryz.func157 rfl rfl) rfl rfl (by simp[Act.eval];rfl) rfl) (fun W _=>KA.out W) rfl rfl ?_;simp only[nm0,nm1,nm2,nm3]
   refine inw_pure (v:=.pointer (some ⟨b3,16*j1,none⟩)) (fun W=>run_index_of rfl rfl rfl (ix_T b3 j1 (by omega) n (by omega) W)) rfl rfl ?_;simp only[nm0,nm1,nm2,nm3]
   refine inw_fin fun d os=>?_
   refine given_nil fun hap=>?_
   have hM7:=hR.calls (below_regrown wr d os)
   clear hap 
   generalize grow (redrawn wr d) os=W7 at hM7 ⊢
   change wpAny _ _ _ _ 1 _ _ _
   refine any_setpart (n:=9) (by kernel_rfl) rfl hM7 0 (sub:=((pc4 tj1))) (new:=(trow a j1)) rfl rfl rfl rfl (by rw[trow_size a j (by omega)];show 16*j1+16≤256;omega) (by rw[ej1,etj1];exact trow_set a j hj15) rowPt (one_p4 _) rfl rfl fun W8 hM8=>?_
   simp only[nm2,nm3] at hM8
   refine wpAny_done (by kernel_rfl) ?_ _
   (go_step;go_step;refine wp_region_lit ?_)
   refine wl_pure (v:=.int .i64 n) (fun _=>rfl) rfl ?_
   simp only[nm0,nm1,nm2,nm3]
   refine wl_pure (v:=.int .i64 n2) (fun W=>run_bin_of rfl rfl rfl (bin_inc n n2 _ _ W hn2 (by omega) (by omega))) rfl ?_
   simp only[nm0,nm1,nm2,nm3]
   refine wl_pure (v:=.int .i64 n2) (fun _=>rfl) rfl ?_
   simp only[nm0,nm1,nm2,nm3]
   refine wpList_nil ?_
   go_roundw
   case rel =>
    refine⟨_,_,_,_,_,_,_,_,_,_,_,_,_,_,?_,rfl⟩
    refine⟨j1,by omega,congrArg (Value.int .i64) (by omega),?_⟩
    exact hM8
   case measure=>simp[Go.RowKit.intOf];omega
/-- A term as a row. -/
def tmL (k:Nat) (a:N4):List Value:=[.int .u64 (wd k 0:Int),.int .u64 (wd k 1:Int),.int .u64 (wd k 2:Int),.int .u64 (wd k 3:Int)]++pl4 a
def z20:Array Value:=(List.replicate 20 (Value.int .u64 0)).toArray
theorem one_tm (k:Nat) (a:N4):((tmL k a).toArray).all (·.oneCell')=true:=by kernel_rfl
theorem al_Tm (W:World):(Instr.alloc 139 true (.tuple #[])).run Tryz.prog W=.ok (.pointer (some ⟨W.heap.size,0,none⟩)) (W.alloc (.cells z20 139 (0,0))):=by
 kernel_rfl
theorem rowTm:RowTy Tryz.prog 139 20:=⟨.inl ⟨_,Tryz.underlying139⟩,by kernel_rfl⟩
theorem cellSl:CellTy Tryz.prog 184:=⟨⟨_,Tryz.underlying184,rfl⟩,by kernel_rfl⟩
theorem cellFn:CellTy Tryz.prog 185:=⟨⟨_,Tryz.underlying185,rfl⟩,by kernel_rfl⟩
theorem cellTs:CellTy Tryz.prog 189:=⟨⟨_,Tryz.underlying189,rfl⟩,by kernel_rfl⟩
theorem fa_Tm0 (b:Nat) (W:World):(Instr.fieldAt 139 (.pointer (some ⟨b,0,none⟩)) 0).run Tryz.prog W=.ok (.pointer (some ⟨b,0,none⟩)) W:=by
 go_simp
theorem fa_Tm1 (b:Nat) (W:World):(Instr.fieldAt 139 (.pointer (some ⟨b,0,none⟩)) 1).run Tryz.prog W=.ok (.pointer (some ⟨b,4,none⟩)) W:=by
 go_simp
theorem ix_Tu (b off j:Nat) (hj:j<16) (W:World):(Instr.indexAt 190 (.pointer (some ⟨b,off,none⟩)) (.int .u64 (j:Int))).run Tryz.prog W=.ok (.pointer (some ⟨b,off+16*j,none⟩)) W:=by
 have h1:(0:Int)≤(j:Int):=by omega
 have h2:(j:Int)<16:=by omega
 have e:(⟨b,off,none⟩:Addr).add (j*16)=⟨b,off+16*j,none⟩:=by unfold Addr.add;rw[Nat.mul_comm];split <;> simp_all
 go_simp
theorem ix_Tt1 (g cap:Nat) (W:World):(Instr.indexAt 189 (.slice (some ⟨g,0,none⟩) 1 cap) (.int .i64 0)).run Tryz.prog W=.ok (.pointer (some ⟨g,0,none⟩)) W:=by
 go_simp
theorem tt_first (a:N4) (j:Nat) (hj:j<16) (r:List Value):(((tabL a 16++r).toArray).toList.drop (0+16*j)).take (pc4 (tab a j)).size=(pc4 (tab a j)).toList:=by
 rw[Nat.zero_add]
 exact tabL_at a 16 j hj r
set_option maxRecDepth 20000 in
set_option maxHeartbeats 8000000 in
theorem take1_any (w0 w:World) (g b8 gt b5 b3 b2 b1 cap s:Nat) (r:List Value) {a:N4} {p:Pt} (ha:Ok4 a p) (k:Nat) {o:N4} {po:Pt} (ho:Ok4 o po) (hs:s≤63) (hg:w0.heap[g]?=some (.cells (tmL k a).toArray 139 (0,0))) (hM:Mem w0 [(b8,.cells (pc4 o) 39 (0,0)),(gt,.cells ((tabL a 16++r).toArray) 190 (0,0)),(b5,.cells #[.slice (some ⟨gt,0,none⟩) 1 cap] 189 (0,0)),(b3,.cells (#[Value.func (.func 157) #[numV dN] #[]]) 185 (0,0)),(b2,.cells z16 39 (0,0)),(b1,.cells #[.slice (some ⟨g,0,none⟩) 1 1] 184 (0,0))] w) :
    Calls Tryz.prog 160 #[.int .i64 (s:Int),.pointer (some ⟨b8,0,none⟩),.pointer (some ⟨b1,0,none⟩),.pointer (some ⟨b3,0,none⟩),.pointer (some ⟨b5,0,none⟩)] w fun E w'=>E=.returned (.tuple #[])∧Mem w0 [(b8,.cells (pc4 (take1 k a o s)) 39 (0,0)),(gt,.cells ((tabL a 16++r).toArray) 190 (0,0)),(b5,.cells #[.slice (some ⟨gt,0,none⟩) 1 cap] 189 (0,0)),(b3,.cells (#[Value.func (.func 157) #[numV dN] #[]]) 185 (0,0)),(b2,.cells z16 39 (0,0)),(b1,.cells #[.slice (some ⟨g,0,none⟩) 1 1] 184 (0,0))] w':=by
 have HMIX:=Lib.hid (show Tryz.prog.follows .mixedOrders=true by kernel_rfl)
 obtain⟨jk,ejk⟩:∃ x,x=k/16^s%16:=⟨_,rfl⟩
 have hjk:jk<16:=by rw[ejk];exact Nat.mod_lt _ (by decide)
 obtain⟨ta,eta⟩:∃ x,x=tab a jk:=⟨_,rfl⟩
 have kta:=ok4_tab ha jk
 rw[← eta] at kta
 have KBk:=Lib.hid (fun W=>bitsof_any k s hs W)
 rw[← ejk] at KBk
 go_enter Tryz.func160,Tryz.ntmps160
 (go_step;go_step;go_step;refine wp_region_lit ?_)
 refine wl_pure (v:=.int .i64 0) (fun _=>rfl) rfl ?_
 simp only[nm0,nm1,nm2,nm3]
 refine wpList_nil ?_
 (go_step;go_step;go_step;refine wp_loop_rounds 5 ?_)
 rw[rounds_succ]
 (go_step;refine wp_region_lit ?_)
 refine wl_pure (v:=.bool true) (fun W=>by go_simp) rfl ?_
 simp only[nm0,nm1,nm2,nm3]
 refine wpList_nil ?_
 (go_step;go_step;go_step;go_step;go_step;go_step;go_step;go_step;go_step;refine wp_region_lit ?_)
 refine wl_row hM 0 (v:=pv4 o) rfl rfl rfl rfl rowPt rfl ?_
 simp only[nm0,nm1,nm2,nm3]
 obtain⟨o1,eo1⟩:∃ x,x=dbl4 o:=⟨_,rfl⟩
 have ko1:=ok4_dbl ho
 rw[← eo1] at ko1
 have Ko1:=Lib.hid (fun W=>double4 ho W)
 rw[← eo1] at Ko1
 refine wl_call hM (args:=#[pv4 o]) (v:=pv4 o1) (fun W=>run_call_fn W (enters_of Tryz.func161 rfl rfl) rfl (by simp[Act.eval])) (Ko1.out w) rfl fun W1 hM1=>?_
 simp only[nm0,nm1,nm2,nm3]
 refine wl_set hM1 0 (cs:=((pc4 o1))) rfl rfl rfl rfl rowPt rfl (one_p4 _) rfl rfl fun W2 hM2=>?_
 simp only[nm2,nm3] at hM2
 refine wpList_nil ?_
 (go_step;go_step;refine wp_region_lit ?_)
 refine wl_pure (v:=.int .i64 1) (fun W=>by go_simp;decide) rfl ?_
 simp only[nm0,nm1,nm2,nm3]
 refine wl_pure (v:=.int .i64 1) (fun _=>rfl) rfl ?_
 simp only[nm0,nm1,nm2,nm3]
 refine wpList_nil ?_
 go_step
 rw[rounds_succ]
 (go_step;refine wp_region_lit ?_)
 refine wl_pure (v:=.bool true) (fun W=>by go_simp) rfl ?_
 simp only[nm0,nm1,nm2,nm3]
 refine wpList_nil ?_
 (go_step;go_step;go_step;go_step;go_step;go_step;go_step;go_step;go_step;refine wp_region_lit ?_)
 refine wl_row hM2 0 (v:=pv4 o1) rfl rfl rfl rfl rowPt rfl ?_
 simp only[nm0,nm1,nm2,nm3]
 obtain⟨o2,eo2⟩:∃ x,x=dbl4 o1:=⟨_,rfl⟩
 have ko2:=ok4_dbl ko1
 rw[← eo2] at ko2
 have Ko2:=Lib.hid (fun W=>double4 ko1 W)
 rw[← eo2] at Ko2
 refine wl_call hM2 (args:=#[pv4 o1]) (v:=pv4 o2) (fun W=>run_call_fn W (enters_of Tryz.func161 rfl rfl) rfl (by simp[Act.eval])) (Ko2.out W2) rfl fun W3 hM3=>?_
 simp only[nm0,nm1,nm2,nm3]
 refine wl_set hM3 0 (cs:=((pc4 o2))) rfl rfl rfl rfl rowPt rfl (one_p4 _) rfl rfl fun W4 hM4=>?_
 simp only[nm2,nm3] at hM4
 refine wpList_nil ?_
 (go_step;go_step;refine wp_region_lit ?_)
 refine wl_pure (v:=.int .i64 2) (fun W=>by go_simp;decide) rfl ?_
 simp only[nm0,nm1,nm2,nm3]
 refine wl_pure (v:=.int .i64 2) (fun _=>rfl) rfl ?_
 simp only[nm0,nm1,nm2,nm3]
 refine wpList_nil ?_
 go_step
 rw[rounds_succ]
 (go_step;refine wp_region_lit ?_)
 refine wl_pure (v:=.bool true) (fun W=>by go_simp) rfl ?_
 simp only[nm0,nm1,nm2,nm3]
 refine wpList_nil ?_
 (go_step;go_step;go_step;go_step;go_step;go_step;go_step;go_step;go_step;refine wp_region_lit ?_)
 refine wl_row hM4 0 (v:=pv4 o2) rfl rfl rfl rfl rowPt rfl ?_
 simp only[nm0,nm1,nm2,nm3]
 obtain⟨o3,eo3⟩:∃ x,x=dbl4 o2:=⟨_,rfl⟩
 have ko3:=ok4_dbl ko2
 rw[← eo3] at ko3
 have Ko3:=Lib.hid (fun W=>double4 ko2 W)
 rw[← eo3] at Ko3
 refine wl_call hM4 (args:=#[pv4 o2]) (v:=pv4 o3) (fun W=>run_call_fn W (enters_of Tryz.func161 rfl rfl) rfl (by simp[Act.eval])) (Ko3.out W4) rfl fun W5 hM5=>?_
 simp only[nm0,nm1,nm2,nm3]
 refine wl_set hM5 0 (cs:=((pc4 o3))) rfl rfl rfl rfl rowPt rfl (one_p4 _) rfl rfl fun W6 hM6=>?_
 simp only[nm2,nm3] at hM6
 refine wpList_nil ?_
 (go_step;go_step;refine wp_region_lit ?_)
 refine wl_pure (v:=.int .i64 3) (fun W=>by go_simp;decide) rfl ?_
 simp only[nm0,nm1,nm2,nm3]
 refine wl_pure (v:=.int .i64 3) (fun _=>rfl) rfl ?_
 simp only[nm0,nm1,nm2,nm3]
 refine wpList_nil ?_
 go_step
 rw[rounds_succ]
 (go_step;refine wp_region_lit ?_)
 refine wl_pure (v:=.bool true) (fun W=>by go_simp) rfl ?_
 simp only[nm0,nm1,nm2,nm3]
 refine wpList_nil ?_
 (go_step;go_step;go_step;go_step;go_step;go_step;go_step;go_step;go_step;refine wp_region_lit ?_)
 refine wl_row hM6 0 (v:=pv4 o3) rfl rfl rfl rfl rowPt rfl ?_
 simp only[nm0,nm1,nm2,nm3]
 obtain⟨o4,eo4⟩:∃ x,x=dbl4 o3:=⟨_,rfl⟩
 have ko4:=ok4_dbl ko3
 rw[← eo4] at ko4
 have Ko4:=Lib.hid (fun W=>double4 ko3 W)
 rw[← eo4] at Ko4
 refine wl_call hM6 (args:=#[pv4 o3]) (v:=pv4 o4) (fun W=>run_call_fn W (enters_of Tryz.func161 rfl rfl) rfl (by simp[Act.eval])) (Ko4.out W6) rfl fun W7 hM7=>?_
 simp only[nm0,nm1,nm2,nm3]
 refine wl_set hM7 0 (cs:=((pc4 o4))) rfl rfl rfl rfl rowPt rfl (one_p4 _) rfl rfl fun W8 hM8=>?_
 simp only[nm2,nm3] at hM8
 refine wpList_nil ?_
 (go_step;go_step;refine wp_region_lit ?_)
 refine wl_pure (v:=.int .i64 4) (fun W=>by go_simp;decide) rfl ?_
 simp only[nm0,nm1,nm2,nm3]
 refine wl_pure (v:=.int .i64 4) (fun _=>rfl) rfl ?_
 simp only[nm0,nm1,nm2,nm3]
 refine wpList_nil ?_
 go_step
 rw[rounds_succ]
 (go_step;refine wp_region_lit ?_)
 refine wl_pure (v:=.bool false) (fun W=>by go_simp) rfl ?_
 simp only[nm0,nm1,nm2,nm3]
 refine wpList_nil ?_
 (go_step;go_step;go_step;go_step;go_step;go_step;go_step;go_step;refine wp_region_lit ?_)
 refine wl_cell hM8 5 (v:=.slice (some ⟨g,0,none⟩) 1 1) rfl rfl rfl rfl cellSl rfl ?_
 simp only[nm0,nm1,nm2,nm3]
 refine wl_pure (v:=.int .i64 1) (fun W=>by go_simp) rfl ?_
 simp only[nm0,nm1,nm2,nm3]
 refine wl_pure (v:=.int .i64 0) (fun _=>rfl) rfl ?_
 simp only[nm0,nm1,nm2,nm3]
 refine wpList_nil ?_
 (go_step;go_step;go_step;refine wp_loop_rounds 2 ?_)
 rw[rounds_succ]
 (go_step;refine wp_region_lit ?_)
 refine wl_pure (v:=.bool true) (fun W=>by go_simp) rfl ?_
 simp only[nm0,nm1,nm2,nm3]
 refine wpList_nil ?_
 (go_step;go_step;go_step;go_step;go_step;go_step;go_step;go_step;go_step;go_step;refine wp_region_lit ?_)
 refine wl_pure (v:=.int .i64 0) (fun _=>rfl) rfl ?_
 simp only[nm0,nm1,nm2,nm3]
 refine wl_pure (v:=.pointer (some ⟨g,0,none⟩)) (fun W=>by go_simp) rfl ?_
 simp only[nm0,nm1,nm2,nm3]
 refine wl_far (hM8.old hg) (v:=.agg (tmL k a).toArray) (sub:=(tmL k a).toArray) rfl rfl rfl rfl rowTm rfl ?_
 simp only[nm0,nm1,nm2,nm3]
 refine wl_new hM8 (f:=fun b=>.pointer (some ⟨b,0,none⟩)) (ob:=.cells z20 139 (0,0)) (fun W=>run_alloc_of rfl (al_Tm W)) rfl fun b1 W9 hM9=>?_
 simp only[nm0,nm1,nm2,nm3]
 refine wl_pure (v:=.int .i64 0) (fun _=>rfl) rfl ?_
 simp only[nm0,nm1,nm2,nm3]
 refine wl_set hM9 0 (cs:=((tmL k a).toArray)) rfl rfl rfl rfl rowTm rfl (one_tm k a) rfl rfl fun W10 hM10=>?_
 simp only[nm2,nm3] at hM10
 refine wpList_nil ?_
 (go_step;go_step;refine wp_region_inw 12 HMIX.out (by decide) (by kernel_rfl) (by kernel_rfl) ?_)
 refine inw_cell hM10 4 (v:=.func (.func 157) #[numV dN] #[]) rfl rfl rfl rfl cellFn rfl rfl ?_;simp only[nm0,nm1,nm2,nm3]
 refine inw_row hM10 1 (v:=pv4 o4) rfl rfl rfl rfl rowPt rfl rfl ?_;simp only[nm0,nm1,nm2,nm3]
 refine inw_cell hM10 3 (v:=.slice (some ⟨gt,0,none⟩) 1 cap) rfl rfl rfl rfl cellTs rfl rfl ?_;simp only[nm0,nm1,nm2,nm3]
 refine inw_pure (v:=.int .i64 0) (fun _=>rfl) rfl rfl ?_;simp only[nm0,nm1,nm2,nm3]
 refine inw_pure (v:=.pointer (some ⟨b1,0,none⟩)) (fun W=>run_field_of rfl rfl (fa_Tm0 b1 W)) rfl rfl ?_;simp only[nm0,nm1,nm2,nm3]
 refine inw_part hM10 0 (v:=numV k) (sub:=(elR k)) rfl rfl rfl rfl rfl rowWn rfl rfl ?_;simp only[nm0,nm1,nm2,nm3]
 refine inw_pure (v:=.int .i64 (s:Int)) (fun _=>rfl) rfl rfl ?_;simp only[nm0,nm1,nm2,nm3]
 refine inw_callV (args:=#[numV k,.int .i64 (s:Int)]) (v:=.int .u64 (jk:Int)) (fun W=>run_call_fn W (enters_of Tryz.func162 rfl rfl) rfl (by simp[Act.eval])) (fun W _=>KBk.out W) rfl rfl ?_;simp only[nm0,nm1,nm2,nm3]
 refine inw_pure (v:=.pointer (some ⟨gt,0,none⟩)) (fun W=>run_index_of rfl rfl rfl (ix_Tt1 gt cap W)) rfl rfl ?_;simp only[nm0,nm1,nm2,nm3]
 refine inw_pure (v:=.pointer (some ⟨gt,0+16*jk,none⟩)) (fun W=>run_index_of rfl rfl rfl (ix_Tu gt 0 jk hjk W)) rfl rfl ?_;simp only[nm0,nm1,nm2,nm3]
 refine inw_part hM10 2 (v:=pv4 ta) (sub:=((pc4 ta))) rfl rfl rfl rfl (by rw[eta];exact tt_first a _ hjk r) rowPt rfl rfl ?_;simp only[nm0,nm1,nm2,nm3]
 obtain⟨o5,eo5⟩:∃ x,x=add4 o4 ta:=⟨_,rfl⟩
 have ko5:=ok4_add ko4 kta
 rw[← eo5] at ko5
 have Ko5:=Lib.hid (fun W=>adderadd4 ko4 kta W)
 rw[← eo5] at Ko5
 refine inw_callV (args:=#[numV dN,pv4 o4,pv4 ta]) (v:=pv4 o5) (fun W=>run_call_dyn W (enters_of Tryz.func157 rfl rfl) rfl rfl (by simp[Act.eval];rfl) rfl) (fun W _=>Ko5.out W) rfl rfl ?_;simp only[nm0,nm1,nm2,nm3]
 refine inw_fin fun d os=>?_
 refine given_nil fun hap=>?_
 have hM11:=hM10.calls (below_regrown W10 d os)
 clear hap 
 generalize grow (redrawn W10 d) os=W11 at hM11 ⊢
 change wpAny _ _ _ _ 1 _ _ _
 refine any_set (n:=12) (by kernel_rfl) rfl hM11 1 (cs:=((pc4 o5))) rfl rfl rfl rfl rowPt rfl (one_p4 _) rfl rfl fun W12 hM12=>?_
 simp only[nm2,nm3] at hM12
 refine wpAny_done (by kernel_rfl) ?_ _
 (go_step;go_step;refine wp_region_lit ?_)
 refine wl_pure (v:=.int .i64 1) (fun W=>by go_simp;decide) rfl ?_
 simp only[nm0,nm1,nm2,nm3]
 refine wl_pure (v:=.int .i64 1) (fun _=>rfl) rfl ?_
 simp only[nm0,nm1,nm2,nm3]
 refine wpList_nil ?_
 go_step
 rw[rounds_succ]
 (go_step;refine wp_region_lit ?_)
 refine wl_pure (v:=.bool false) (fun W=>by go_simp) rfl ?_
 simp only[nm0,nm1,nm2,nm3]
 refine wpList_nil ?_
 have hF:=hM12.tail
 rw[show o5=take1 k a o s by unfold take1 dbl16;rw[eo5,eo4,eo3,eo2,eo1,eta,ejk]] at hF
 (go_step;go_step;go_step;go_step;go_step;go_step;refine bodyPost_end (v:=.tuple #[]) (results_none Tryz.results160 _ _ _) rfl ⟨rfl,hF⟩)
/-- A slice of n elements, in a block of cap ones: what is in it, what lies behind. -/
structure RowOk (xs r:List Value) (size n cap:Nat):Prop where
 len:xs.length=n*size
 all:(xs++r).length=cap*size
 le:n≤cap
 max:cap≤maxLen
section
variable {P:Program} {w w0 w' W:World} {M:List Blk} {o:Oper} {A:Act}
theorem below_all {row:Option Nat} (hg:w.grownBy w' row) (hr:row=none):Below w.heap.size w w':=by
 subst hr
 exact⟨hg.os,hg.tape,hg.output,hg.size,fun k hk=>hg.block k hk (by simp)⟩
theorem mem_app_nil {e:TypeId} {size m:Nat} {v':Value} {news:List Value} (hM:Mem w0 M w) (hm:0<m) (hown:w'.ownsRow w.heap.size e size v' m news) (hg:w.grownBy w' none):∃ g cap r,v'=.slice (some ⟨g,0,none⟩) m cap∧RowOk news r size m cap∧Mem w0 ((g,.cells (news++r).toArray e (0,0))::M) w':=by
 obtain⟨hl,h⟩:=hown
 rcases h with ⟨_,h0⟩ | ⟨g,cap,cur,rfl,hb,hh,hn,hmx,hs,ht⟩
 ·omega
 ·have hc:cur.toList=news++cur.toList.drop (m*size):=by rw[← ht,List.take_append_drop]
  have hc2:cur=(news++cur.toList.drop (m*size)).toArray:=by rw[← hc,Array.toArray_toList]
  refine⟨g,cap,cur.toList.drop (m*size),rfl,⟨hl,by rw[← hc,Array.length_toList];exact hs,hn,hmx⟩,hM.news1 (below_all hg rfl) hb ?_⟩
  rw[← hc2]
  exact hh
theorem news_at {b:Nat} {cs:Array Value} {t:TypeId} {fr:Nat × Nat} (h:w.heap[b]?=some (.cells cs t fr)):∀ j u,cs.toList[j]?=some u→w.cell? ((⟨b,0,none⟩:Addr).add j)=some u:=fun j u hu=>by
 have hadd:(⟨b,0,none⟩:Addr).add j=⟨b,j,none⟩:=by unfold Addr.add;split <;> simp_all
 rw[hadd,cell_of_row w b j cs t fr h]
 simpa using hu
variable {ops:Array Oper} {md:Region.Mode} {fuel:Nat} {listed:Array Bool} {Q:Exit→Act→World→Prop} {n:Nat}
/-- append onto nothing. -/
theorem any_app_nil (hr:Region.ready md ops listed=[n]) (hn:ops[n]?=some o) (hM:Mem w0 M w) {s x:Operand} {t:TypeId} (ho:o.op=.call { callee:=.builtin .append,args:=#[s,x],argTypes:=#[t,t] }) (hgd:o.guard=none) {tm:Tmp} (hd:o.dst=some tm) {e:TypeId} {i:TypeInfo} {z:Value} {size bytes:Nat} (ht:P.underlying t=some (.slice e)) (hi:P.info? e=some i) (hz:i.zero=some z)
    (hsize:i.size=size) (hby:i.bytes=bytes) (hzs:z.cells.size=size) (hsz:0<size) (hs:A.eval s=.slice none 0 0) {b m c:Nat} {news:List Value} {t':TypeId} {fr:Nat × Nat} (hx:A.eval x=.slice (some ⟨b,0,none⟩) m c) (hb:w.heap[b]?=some (.cells news.toArray t' fr)) (hm:0<m) (hl:news.length=m*size) (h1:news.toArray.all (·.oneCell')=true) (h63:m≤maxLen) (hbytes:m*bytes≤140737488355328)
    (hk:∀ g cap r W,RowOk news r size m cap→Mem w0 ((g,.cells (news++r).toArray e (0,0))::M) W→wpAny P md ops Q fuel (listed.setIfInBounds n true) (A.put (some tm) (.slice (some ⟨g,0,none⟩) m cap)) W):wpAny P md ops Q (fuel+1) listed A w :=
 any_one hr hn fun K hK=>by
  rw[if_pos (by simp[Region.wanted,hgd])]
  obtain⟨v',w',hrun,h2,h3,_,_⟩:=run_append_own_at (P:=P) w w.heap.size t o.type e i z size bytes ht hi hz hsize hby hzs hsz (.slice none 0 0) 0 [] (World.ownsRow_nil _ _ _ _) ⟨b,0,none⟩ m c news hl (fun j u hu=>news_at hb j u (by simpa using hu)) (fun u hu=>by
   have:=Array.all_eq_true'.1 h1 u (by simpa using hu)
   exact this) (by omega) (by rw[Nat.zero_add];exact hbytes) (Nat.le_refl _)
  rw[Nat.zero_add,List.nil_append] at h2
  obtain⟨g,cap,r,rfl,hok,hM'⟩:=mem_app_nil hM hm h2 h3
  unfold Oper.wp execOp
  simp only[ho,resolve,invoke,builtin,Sem.run_bind,Sem.run_pure,Result.andThen_ok,List.map_toArray,List.map_cons,List.map_nil,hs,hx,hrun]
  have hk2:=hk g cap r w' hok hM'
  rw[← hd] at hk2
  exact hK _ _ hk2
end
/-- What was made of a slice, with what lies there. -/
theorem given_mkH {ops:Array Oper} {w:World} {A:Act} {K:Act→Prop} {j:Nat} {t:Tmp} {v0:Nat→Value} {ob:Obj} {ps:List PkW} (hd:dstOf ops j=some t) (h:∀ b,w.heap[b]?=some ob→Given ops w ps (A.put (some t) (v0 b)) K):Given ops w ((j,fun u w'=>∃ b,u=v0 b∧w'.heap[b]?=some ob)::ps) A K:=by
 rintro u ⟨b,rfl,hb⟩
 show Given ops w ps (A.put (dstOf ops j) (v0 b)) K
 rw[hd]
 exact h b hb
theorem bx_Sl (v:Value) (g n:Nat) (hv:v=.slice (some ⟨g,0,none⟩) n n) (W:World):(Instr.box 184 v).run Tryz.prog W=.ok (.pointer (some ⟨W.heap.size,0,none⟩)) (W.alloc (.cells #[v] 184 (0,0))):=by
 subst hv
 go_simp
theorem al_Fn (W:World):(Instr.alloc 185 true (.tuple #[])).run Tryz.prog W=.ok (.pointer (some ⟨W.heap.size,0,none⟩)) (W.alloc (.cells #[.nilFunc] 185 (0,0))):=by
 kernel_rfl
theorem al_Ts (W:World):(Instr.alloc 189 true (.tuple #[])).run Tryz.prog W=.ok (.pointer (some ⟨W.heap.size,0,none⟩)) (W.alloc (.cells #[.slice none 0 0] 189 (0,0))):=by
 kernel_rfl
theorem bs_Tc (c:Nat→N4) (W:World):(Instr.buildSlice 189 1 #[(0,.agg ((List.range 16).flatMap fun i=>pl4 (c i)).toArray)]).run Tryz.prog W=.ok (.slice (some ⟨W.heap.size,0,none⟩) 1 1) (W.alloc (.cells ((List.range 16).flatMap fun i=>pl4 (c i)).toArray 190 (0,0))):=by
 kernel_rfl
theorem bs_Ts (a:N4) (W:World):(Instr.buildSlice 189 1 #[(0,.agg (tabL a 16).toArray)]).run Tryz.prog W=.ok (.slice (some ⟨W.heap.size,0,none⟩) 1 1) (W.alloc (.cells (tabL a 16).toArray 190 (0,0))):=bs_Tc (tab a) W
theorem bin_add4 (a c:Nat) (hc:a+4=c) (h:a≤1000) (x y:Operand) (W:World):(do eqGuard .add 3 x y (.int .i64 (a:Int)) (.int .i64 4);binOp .add 3 (.int .i64 (a:Int)) (.int .i64 4):Sem Value).run Tryz.prog W=.ok (.int .i64 (c:Int)) W:=by
 have e:IntKind.i64.wrap ((a:Int)+4)=(c:Int):=by rw[IntWalk.i64_in _ (by omega)];omega
 clear hc
 go_simp
theorem bin_sub1 (c d:Nat) (hd:d+1=c) (h:c≤10000) (x y:Operand) (W:World):(do eqGuard .sub 3 x y (.int .i64 (c:Int)) (.int .i64 1);binOp .sub 3 (.int .i64 (c:Int)) (.int .i64 1):Sem Value).run Tryz.prog W=.ok (.int .i64 (d:Int)) W:=by
 have e:IntKind.i64.wrap ((c:Int)-1)=(d:Int):=by rw[IntWalk.i64_in _ (by omega)];omega
 clear hd
 go_simp
theorem bin_quo4 (d q:Nat) (hq:d/4=q) (h:d≤10000) (x y:Operand) (W:World):(do eqGuard .quo 3 x y (.int .i64 (d:Int)) (.int .i64 4);binOp .quo 3 (.int .i64 (d:Int)) (.int .i64 4):Sem Value).run Tryz.prog W=.ok (.int .i64 (q:Int)) W:=by
 have e:((d:Int).tdiv 4)=(q:Int):=by rw[Int.tdiv_eq_ediv_of_nonneg (by omega)];omega
 have e2:IntKind.i64.wrap (q:Int)=(q:Int):=IntWalk.i64_in _ (by omega)
 have e3:(d:Int)/4=(q:Int):=by omega
 clear hq
 go_simp
theorem run_max_of {P:Program} {o:Oper} {A:Act} {x y:Operand} {tys:Array TypeId} {a b c:Nat} (W:World) (ho:o.op=.call { callee:=.builtin .max,args:=#[x,y],argTypes:=tys }) (hx:A.eval x=.int .i64 (a:Int)) (hy:A.eval y=.int .i64 (b:Int)) (hc:max a b=c):(execOp A.eval o).run P W=.ok (.value (.int .i64 (c:Int))) W:=by
 have e:(if (a:Int)<(b:Int) then (b:Int) else (a:Int))=(c:Int):=by
  rw[← hc]
  split <;> omega
 unfold execOp
 simp[ho,resolve,invoke,builtin,hx,hy,Builtin.max_,Builtin.max2]
 rw[← hc]
 split <;> omega
theorem infoT':(Tryz.prog.info? 190).map (fun i=>(i.size,i.bytes,(i.zero.map fun z=>z.cells.size)))=some (256,2048,some 256):=by kernel_rfl
theorem infoT:∃ (i:TypeInfo) (z:Value),Tryz.prog.info? 190=some i∧i.zero=some z∧i.size=256∧i.bytes=2048∧z.cells.size=256:=by
 have h:=infoT'
 cases hi:Tryz.prog.info? 190 with
 | none=>rw[hi] at h;cases h
 | some i =>
   rw[hi] at h
   cases hz:i.zero with
   | none=>rw[Option.map_some,hz] at h;simp at h
   | some z =>
     rw[Option.map_some,hz] at h
     simp at h
     exact⟨i,z,rfl,hz,h.1,h.2.1,h.2.2⟩
theorem ok4_ex1 {a o:N4} {p:Pt} (k s:Nat) (ha:Ok4 a p) (ho:∃ P,Ok4 o P):∃ P,Ok4 (take1 k a o s) P:=by
 obtain⟨P,hP⟩:=ho
 exact⟨_,ok4_add (ok4_dbl16 hP) (ok4_tab ha (k/16^s%16))⟩
theorem bitLen_B (k:Nat) (h:k<B64^4):Go.bitLen k≤256:=by
 by_cases h0:k=0
 ·subst h0
  decide
 ·have h1:=(bitLen_spec k).2 h0
  have h2:2^(Go.bitLen k-1)<2^256:=Nat.lt_of_le_of_lt h1 (by rw[show (2:Nat)^256=B64^4 by decide +kernel];exact h)
  have h3:=(Nat.pow_lt_pow_iff_right (by decide:1<2)).1 h2
  omega
theorem steps_B (k:Nat) (h:k<B64^4):stepsN k≤64:=by
 have:=bitLen_B k h
 unfold stepsN
 omega
theorem bin_decz (s:Nat) (m:Int) (x y:Operand) (W:World) (h:m=(s:Int)-1) (h1:s≤1000):(do eqGuard .sub 3 x y (.int .i64 (s:Int)) (.int .i64 1);binOp .sub 3 (.int .i64 (s:Int)) (.int .i64 1):Sem Value).run Tryz.prog W=.ok (.int .i64 m) W:=by
 have e:IntKind.i64.wrap ((s:Int)-1)=m:=by rw[IntWalk.i64_in _ (by omega)];exact h.symm
 clear h
 go_simp
theorem bin_geq_z (n:Int) (x y:Operand) (W:World):(do eqGuard .geq 3 x y (.int .i64 n) (.int .i64 0);binOp .geq 3 (.int .i64 n) (.int .i64 0):Sem Value).run Tryz.prog W=.ok (.bool (decide (0≤n))) W:=by
 go_simp
set_option maxRecDepth 20000 in
set_option maxHeartbeats 8000000 in
theorem msum1_any {a:N4} {p:Pt} (ha:Ok4 a p) (k:Nat) (hk:k<B64^4) (g:Nat) (w:World) (hg:w.heap[g]?=some (.cells (tmL k a).toArray 139 (0,0))):Calls Tryz.prog 111 #[.slice (some ⟨g,0,none⟩) 1 1] w fun E w'=>E=.returned (pv4 (runF (take1 k a) (stepsN k) zero4))∧Below w.heap.size w w':=by
 have HMIX:=Lib.hid (show Tryz.prog.follows .mixedOrders=true by kernel_rfl)
 obtain⟨iT,zT,IT⟩:=infoT
 have KMa:=Lib.hid (fun W=>multiples_any ha W)
 have KBa:=Lib.hid (fun W=>bs_Ts a W)
 have hTAla:(tabL a 16).length=1*256:=by rw[tabL_length]
 have hTAoa:=one_tab a
 obtain⟨TAa,eTAa⟩:∃ x,x=tabL a 16:=⟨_,rfl⟩
 rw[← eTAa] at KMa KBa hTAla hTAoa
 have hsk64:=steps_B k hk
 have hblk:=bitLen_B k hk
 have KLk:=Lib.hid (fun W=>len_any k W hk)
 unfold stepsN at *
 obtain⟨blk,eblk⟩:∃ x,x=Go.bitLen k:=⟨_,rfl⟩
 rw[← eblk] at KLk hsk64 hblk ⊢
 have hlblk:blk≤1000:=by omega
 obtain⟨xfk,exfk⟩:∃ x,blk+4=x:=⟨_,rfl⟩
 obtain⟨xtk,extk⟩:∃ x,x+1=xfk:=⟨blk+3,by omega⟩
 rw[show blk+3=xtk by omega] at hsk64 ⊢
 obtain⟨xqk,exqk⟩:∃ x,xtk/4=x:=⟨_,rfl⟩
 rw[exqk] at hsk64 ⊢
 have hxfk:xfk≤10000:=by omega
 have hxtk:xtk≤10000:=by omega
 obtain⟨sk,esk⟩:∃ x,x=xqk:=⟨_,rfl⟩
 have hskm:max 0 xqk=sk:=by omega
 have hsk64:sk≤64:=by omega
 have hsk1000:sk≤1000:=by omega
 rw[← esk]
 obtain⟨R,hR⟩:∃ x,x=runF (take1 k a) sk zero4:=⟨_,rfl⟩
 rw[← hR]
 go_enter Tryz.func111,Tryz.ntmps111
 have hM0:=Mem.start w
 (go_step;go_step;refine wp_region_lit ?_)
 refine wl_new hM0 (f:=fun b=>.pointer (some ⟨b,0,none⟩)) (ob:=.cells #[.slice (some ⟨g,0,none⟩) 1 1] 184 (0,0)) (fun W=>run_box_of rfl rfl (bx_Sl _ g 1 rfl W)) rfl fun b1 W1 hM1=>?_
 simp only[nm0,nm1,nm2,nm3]
 refine wl_new hM1 (f:=fun b=>.pointer (some ⟨b,0,none⟩)) (ob:=.cells z16 39 (0,0)) (fun W=>run_alloc_of rfl (al_Pt W)) rfl fun b2 W2 hM2=>?_
 simp only[nm0,nm1,nm2,nm3]
 refine wpList_nil ?_
 (go_step;go_step;go_step;refine wp_region_lit ?_)
 refine wl_call hM2 (args:=#[]) (v:=numV dN) (fun W=>run_call_fn W (enters_of Tryz.func156 rfl rfl) rfl (by simp[Act.eval])) (newadder_any W2) rfl fun W3 hM3=>?_
 simp only[nm0,nm1,nm2,nm3]
 refine wl_pure (v:=.func (.func 157) #[numV dN] #[]) (fun W=>run_makeFunc_of rfl (by simp[Instr.makeFunc,Act.eval])) rfl ?_
 simp only[nm0,nm1,nm2,nm3]
 refine wl_new hM3 (f:=fun b=>.pointer (some ⟨b,0,none⟩)) (ob:=.cells #[.nilFunc] 185 (0,0)) (fun W=>run_alloc_of rfl (al_Fn W)) rfl fun b3 W4 hM4=>?_
 simp only[nm0,nm1,nm2,nm3]
 refine wl_setat hM4 0 (cs':=(#[.func (.func 157) #[numV dN] #[]])) rfl rfl rfl rfl (by show 0<1;decide) (rfl) cellFn rfl rfl rfl fun W5 hM5=>?_
 simp only[nm2,nm3] at hM5
 refine wpList_nil ?_
 (go_step;go_step;go_step;refine wp_region_lit ?_)
 refine wl_pure (v:=.int .i64 0) (fun _=>rfl) rfl ?_
 simp only[nm0,nm1,nm2,nm3]
 refine wpList_nil ?_
 (go_step;go_step;go_step;refine wp_region_lit ?_)
 refine wl_new hM5 (f:=fun b=>.pointer (some ⟨b,0,none⟩)) (ob:=.cells #[.slice none 0 0] 189 (0,0)) (fun W=>run_alloc_of rfl (al_Ts W)) rfl fun b4 W6 hM6=>?_
 simp only[nm0,nm1,nm2,nm3]
 refine wpList_nil ?_
 (go_step;go_step;go_step;go_step;refine wp_region_lit ?_)
 refine wl_cell hM6 3 (v:=.slice (some ⟨g,0,none⟩) 1 1) rfl rfl rfl rfl cellSl rfl ?_
 simp only[nm0,nm1,nm2,nm3]
 refine wl_pure (v:=.int .i64 1) (fun W=>by go_simp) rfl ?_
 simp only[nm0,nm1,nm2,nm3]
 refine wl_pure (v:=.int .i64 0) (fun _=>rfl) rfl ?_
 simp only[nm0,nm1,nm2,nm3]
 refine wpList_nil ?_
 (go_step;go_step;go_step;refine wp_loop_rounds 2 ?_)
 rw[rounds_succ]
 (go_step;refine wp_region_lit ?_)
 refine wl_pure (v:=.bool true) (fun W=>by go_simp) rfl ?_
 simp only[nm0,nm1,nm2,nm3]
 refine wpList_nil ?_
 (go_step;go_step;go_step;go_step;go_step;go_step;go_step;go_step;go_step;go_step;refine wp_region_lit ?_)
 refine wl_pure (v:=.pointer (some ⟨g,0,none⟩)) (fun W=>by go_simp) rfl ?_
 simp only[nm0,nm1,nm2,nm3]
 refine wl_far (hM6.old hg) (v:=.agg (tmL k a).toArray) (sub:=(tmL k a).toArray) rfl rfl rfl rfl rowTm rfl ?_
 simp only[nm0,nm1,nm2,nm3]
 refine wl_new hM6 (f:=fun b=>.pointer (some ⟨b,0,none⟩)) (ob:=.cells z20 139 (0,0)) (fun W=>run_alloc_of rfl (al_Tm W)) rfl fun b5 W7 hM7=>?_
 simp only[nm0,nm1,nm2,nm3]
 refine wl_set hM7 0 (cs:=((tmL k a).toArray)) rfl rfl rfl rfl rowTm rfl (one_tm k a) rfl rfl fun W8 hM8=>?_
 simp only[nm2,nm3] at hM8
 refine wpList_nil ?_
 (go_step;go_step;go_step;refine wp_region_inw 6 HMIX.out (by decide) (by kernel_rfl) (by kernel_rfl) ?_)
 refine inw_cell hM8 1 (v:=.slice none 0 0) rfl rfl rfl rfl cellTs rfl rfl ?_;simp only[nm0,nm1,nm2,nm3]
 refine inw_pure (v:=.pointer (some ⟨b5,4,none⟩)) (fun W=>run_field_of rfl rfl (fa_Tm1 b5 W)) rfl rfl ?_;simp only[nm0,nm1,nm2,nm3]
 refine inw_part hM8 0 (v:=pv4 a) (sub:=((pc4 a))) rfl rfl rfl rfl rfl rowPt rfl rfl ?_;simp only[nm0,nm1,nm2,nm3]
 refine inw_cell hM8 2 (v:=.func (.func 157) #[numV dN] #[]) rfl rfl rfl rfl cellFn rfl rfl ?_;simp only[nm0,nm1,nm2,nm3]
 refine inw_callV (args:=#[pv4 a,.func (.func 157) #[numV dN] #[]]) (v:=.agg TAa.toArray) (fun W=>run_call_fn W (enters_of Tryz.func158 rfl rfl) rfl (by simp[Act.eval])) (fun W _=>KMa.out W) rfl rfl ?_;simp only[nm0,nm1,nm2,nm3]
 refine inw_slice (n:=1) (L:=(TAa).toArray) (T:=190) (fun W=>run_slice_of rfl (by simp[Act.eval]) (KBa.out W)) rfl rfl ?_;simp only[List.nil_append,List.cons_append]
 refine inw_fin fun d os=>?_
 refine given_mkH (t:=24) rfl fun s5 hs5=>?_
 refine given_nil fun hap=>?_
 simp only[nm0,nm1,nm2,nm3] at hap ⊢
 have hM9:=hM8.calls (below_regrown W8 d os)
 clear hap 
 generalize grow (redrawn W8 d) os=W9 at hM9 hs5 ⊢
 change wpAny _ _ _ _ 2 _ _ _
 refine any_app_nil (n:=6) (by kernel_rfl) rfl hM9 rfl rfl rfl Tryz.underlying189 IT.1 IT.2.1 IT.2.2.1 IT.2.2.2.1 IT.2.2.2.2 (by decide) rfl rfl (news:=TAa) hs5 (by decide) hTAla hTAoa (by decide) (by decide) fun ga1 ca1 ra1 W10 ok1 hM10=>?_
 simp only[nm0,nm1,nm2,nm3]
 refine any_setat (n:=7) (by kernel_rfl) rfl hM10 2 (cs':=#[.slice (some ⟨ga1,0,none⟩) 1 ca1]) rfl rfl rfl rfl (by show 0<1;decide) (rfl) cellTs rfl rfl rfl fun W11 hM11=>?_
 simp only[nm2,nm3] at hM11
 refine wpAny_done (by kernel_rfl) ?_ _
 (go_step;go_step;refine wp_region_lit ?_)
 refine wl_pure (v:=.int .i64 0) (fun _=>rfl) rfl ?_
 simp only[nm0,nm1,nm2,nm3]
 refine wl_pure (v:=.pointer (some ⟨b5,0,none⟩)) (fun W=>run_field_of rfl rfl (fa_Tm0 b5 W)) rfl ?_
 simp only[nm0,nm1,nm2,nm3]
 refine wl_part hM11 1 (v:=numV k) (sub:=(elR k)) rfl rfl rfl rfl rfl rowWn rfl ?_
 simp only[nm0,nm1,nm2,nm3]
 refine wl_call hM11 (args:=#[numV k]) (v:=.int .i64 (blk:Int)) (fun W=>run_call_fn W (enters_of Tryz.func159 rfl rfl) rfl (by simp[Act.eval])) (KLk.out W11) rfl fun W12 hM12=>?_
 simp only[nm0,nm1,nm2,nm3]
 refine wl_pure (v:=.int .i64 (xfk:Int)) (fun W=>run_bin_of rfl rfl rfl (bin_add4 blk xfk exfk hlblk _ _ W)) rfl ?_
 simp only[nm0,nm1,nm2,nm3]
 refine wl_pure (v:=.int .i64 (xtk:Int)) (fun W=>run_bin_of rfl rfl rfl (bin_sub1 xfk xtk extk hxfk _ _ W)) rfl ?_
 simp only[nm0,nm1,nm2,nm3]
 refine wl_pure (v:=.int .i64 (xqk:Int)) (fun W=>run_bin_of rfl rfl rfl (bin_quo4 xtk xqk exqk hxtk _ _ W)) rfl ?_
 simp only[nm0,nm1,nm2,nm3]
 refine wl_pure (v:=.int .i64 (sk:Int)) (fun W=>run_max_of (a:=0) (b:=xqk) (c:=sk) W rfl rfl rfl hskm) rfl ?_
 simp only[nm0,nm1,nm2,nm3]
 refine wl_pure (v:=.int .i64 (sk:Int)) (fun _=>rfl) rfl ?_
 simp only[nm0,nm1,nm2,nm3]
 refine wpList_nil ?_
 (go_step;go_step;refine wp_region_lit ?_)
 refine wl_pure (v:=.int .i64 1) (fun W=>by go_simp;decide) rfl ?_
 simp only[nm0,nm1,nm2,nm3]
 refine wl_pure (v:=.int .i64 1) (fun _=>rfl) rfl ?_
 simp only[nm0,nm1,nm2,nm3]
 refine wpList_nil ?_
 have hT0:=hM12.swap.tail
 go_step
 rw[rounds_succ]
 (go_step;refine wp_region_lit ?_)
 refine wl_pure (v:=.bool false) (fun W=>by go_simp) rfl ?_
 simp only[nm0,nm1,nm2,nm3]
 refine wpList_nil ?_
 obtain⟨st,est⟩:∃ x,x=sk:=⟨_,rfl⟩
 rw[← est]
 have hst64:st≤64:=by rw[est];exact hsk64
 have hst:st≤1000:=by rw[est];exact hsk1000
 clear IT
 obtain⟨n0,en0⟩:∃ x:Int,x=(st:Int)-1:=⟨_,rfl⟩
 rw[eTAa] at hT0
 (go_step;go_step;go_step;go_step;go_step;go_step;go_step;go_step;refine wp_region_lit ?_)
 refine wl_call hT0 (args:=#[]) (v:=pv4 zero4) (fun W=>run_call_fn W (enters_of Tryz.func27 rfl rfl) rfl (by simp[Act.eval])) (zero4_any W12) rfl fun W13 hM13=>?_
 simp only[nm0,nm1,nm2,nm3]
 refine wl_new hM13 (f:=fun b=>.pointer (some ⟨b,0,none⟩)) (ob:=.cells z16 39 (0,0)) (fun W=>run_alloc_of rfl (al_Pt W)) rfl fun b6 W14 hM14=>?_
 simp only[nm0,nm1,nm2,nm3]
 refine wl_set hM14 0 (cs:=((pc4 zero4))) rfl rfl rfl rfl rowPt rfl (one_p4 _) rfl rfl fun W15 hM15=>?_
 simp only[nm2,nm3] at hM15
 refine wpList_nil ?_
 (go_step;go_step;go_step;refine wp_region_lit ?_)
 refine wl_pure (v:=.func (.func 160) #[] #[.pointer (some ⟨b6,0,none⟩),.pointer (some ⟨b1,0,none⟩),.pointer (some ⟨b3,0,none⟩),.pointer (some ⟨b4,0,none⟩)]) (fun W=>run_makeFunc_of rfl (by simp[Instr.makeFunc,Act.eval])) rfl ?_
 simp only[nm0,nm1,nm2,nm3]
 refine wl_pure (v:=.func (.func 160) #[] #[.pointer (some ⟨b6,0,none⟩),.pointer (some ⟨b1,0,none⟩),.pointer (some ⟨b3,0,none⟩),.pointer (some ⟨b4,0,none⟩)]) (fun _=>rfl) rfl ?_
 simp only[nm0,nm1,nm2,nm3]
 refine wpList_nil ?_
 (go_step;go_step;go_step;go_step;refine wp_region_lit ?_)
 refine wl_pure (v:=.int .i64 (st:Int)) (fun _=>rfl) rfl ?_
 simp only[nm0,nm1,nm2,nm3]
 refine wl_pure (v:=.int .i64 n0) (fun W=>run_bin_of rfl rfl rfl (bin_decz st n0 _ _ W en0 hst)) rfl ?_
 simp only[nm0,nm1,nm2,nm3]
 refine wl_pure (v:=.int .i64 n0) (fun _=>rfl) rfl ?_
 simp only[nm0,nm1,nm2,nm3]
 refine wpList_nil ?_
 (go_step;go_step;go_step;go_loopw [10] (fun i wr=>∃ (m:Nat) (o:N4),m≤st∧i=.int .i64 ((m:Int)-1)∧(∃ P,Ok4 o P)∧runF (take1 k a) m o=R∧Mem w [(b6,.cells (pc4 o) 39 (0,0)),(ga1,.cells ((tabL a 16++ra1).toArray) 190 (0,0)),(b4,.cells #[.slice (some ⟨ga1,0,none⟩) 1 ca1] 189 (0,0)),(b3,.cells (#[Value.func (.func 157) #[numV dN] #[]]) 185 (0,0)),(b2,.cells z16 39 (0,0)),(b1,.cells #[.slice (some ⟨g,0,none⟩) 1 1] 184 (0,0))] wr) (fun i _=>(Go.RowKit.intOf i+1).toNat))
 case atStart=>exact⟨st,zero4,Nat.le_refl _,by rw[en0],⟨_,ok4_zero⟩,by rw[hR,est],hM15⟩
 case round =>
  obtain⟨m,o,hm,rfl,hOk,hrun,hQ⟩:=hrel
  clear hM1 hM2 hM3 hM4 hM5 hM6 hM7 hM8 hM9 hM10 hM11 hM12 hM13 hM14 hM15
  obtain⟨n,hn⟩:∃ n:Int,n=(m:Int)-1:=⟨_,rfl⟩
  rw[← hn]
  obtain⟨Po,ho⟩:=hOk
  (go_step;go_step;go_step;refine wp_region_lit ?_)
  refine wl_pure (v:=.int .i64 n) (fun _=>rfl) rfl ?_
  simp only[nm0,nm1,nm2,nm3]
  obtain⟨c1,hc1⟩:∃ x,x=decide (0≤n):=⟨_,rfl⟩
  refine wl_pure (v:=.bool c1) (fun W=>run_bin_of rfl rfl rfl (by rw[hc1];exact bin_geq_z n _ _ W)) rfl ?_
  simp only[nm0,nm1,nm2,nm3]
  refine wpList_nil ?_
  cases c1
  ·skip
   have hm0:m=0:=by
    have h9:=of_decide_eq_false hc1.symm
    omega
   subst hm0
   rw[runF_zero] at hrun
   subst hrun
   (go_step;go_step;go_step;go_step;go_step;go_step;go_step;go_step;go_step;refine wp_region_lit ?_)
   refine wl_row hQ 0 (v:=pv4 o) rfl rfl rfl rfl rowPt rfl ?_
   simp only[nm0,nm1,nm2,nm3]
   refine wl_set hQ 4 (cs:=((pc4 o))) rfl rfl rfl rfl rowPt rfl (one_p4 _) rfl rfl fun W17 hM17=>?_
   simp only[nm2,nm3] at hM17
   refine wpList_nil ?_
   (go_step;go_step;go_step;refine bodyPost_ret (v:=pv4 o) (results_arr Tryz.results111 rfl (hM17.load 4 rfl rowPt)) rfl ⟨?_,hM17.below⟩)
   exact rfl
  ·skip
   have h9:=of_decide_eq_true hc1.symm
   obtain⟨s,hsm⟩:∃ s,m=s+1:=⟨m-1,by omega⟩
   have hns:n=(s:Int):=by omega
   obtain⟨n2,en2⟩:∃ x:Int,x=(s:Int)-1:=⟨_,rfl⟩
   (go_step;go_step;go_step;go_step;go_step;go_step;go_step;go_step;refine wp_region_lit ?_)
   refine wl_pure (v:=.func (.func 160) #[] #[.pointer (some ⟨b6,0,none⟩),.pointer (some ⟨b1,0,none⟩),.pointer (some ⟨b3,0,none⟩),.pointer (some ⟨b4,0,none⟩)]) (fun _=>rfl) rfl ?_
   simp only[nm0,nm1,nm2,nm3]
   refine wl_pure (v:=.int .i64 n) (fun _=>rfl) rfl ?_
   simp only[nm0,nm1,nm2,nm3]
   refine wl_callM  (args:=#[.int .i64 n,.pointer (some ⟨b6,0,none⟩),.pointer (some ⟨b1,0,none⟩),.pointer (some ⟨b3,0,none⟩),.pointer (some ⟨b4,0,none⟩)]) (v:=.tuple #[]) (fun W=>run_call_dyn W (enters_of Tryz.func160 rfl rfl) rfl rfl (by simp[Act.eval];rfl) rfl) (by rw[hns];exact take1_any w wr g b6 ga1 b4 b3 b2 b1 ca1 s ra1 ha k ho (by omega) hg hQ) rfl fun W17 hM17=>?_
   simp only[nm0,nm1,nm2,nm3]
   refine wpList_nil ?_
   (go_step;go_step;refine wp_region_lit ?_)
   refine wl_pure (v:=.int .i64 n) (fun _=>rfl) rfl ?_
   simp only[nm0,nm1,nm2,nm3]
   refine wl_pure (v:=.int .i64 n2) (fun W=>by rw[hns];exact run_bin_of rfl rfl (by rw[← hns];rfl) (bin_decz s n2 _ _ W en2 (by omega))) rfl ?_
   simp only[nm0,nm1,nm2,nm3]
   refine wl_pure (v:=.int .i64 n2) (fun _=>rfl) rfl ?_
   simp only[nm0,nm1,nm2,nm3]
   refine wpList_nil ?_
   go_roundw
   case rel =>
    refine⟨_,_,_,_,_,_,_,_,?_,rfl⟩
    refine⟨s,take1 k a o s,by omega,by rw[en2],ok4_ex1 k s ha ⟨_,ho⟩,by rw[← hrun,hsm,runF_succ],?_⟩
    exact hM17
   case measure=>simp[Go.RowKit.intOf];omega
open Go.RowKit
end Go.Proofs.YtnaldciakclccaaGreat
