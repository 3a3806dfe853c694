/- The laws' lives and PcodeWrites (layer 21): they return true. The law PcodeReads (layer 21): it returns true. -/
import Derived.Test.YtigfoophimjgdaaK26
namespace Go.Proofs.Ytigfoophimjgdaa
set_option maxRecDepth 20000
set_option linter.unusedSimpArgs false
set_option linter.unusedVariables false
open Go.RowKit Go.Sort
theorem bin_str_self (s : ByteArray) (x y : Operand) (W : World) : (do eqGuard .eql 9 x y (.string s) (.string s); binOp .eql 9 (.string s) (.string s) : Sem Value).run Try.prog W = .ok (.bool true) W := by
  simp [eqGuard, binOp, Op.stringOp]
theorem bin_err_self (e : Nat) (x y : Operand) (W : World) : (do eqGuard .eql 40 x y (.int .i64 (e : Int)) (.int .i64 (e : Int)); binOp .eql 40 (.int .i64 (e : Int)) (.int .i64 (e : Int)) : Sem Value).run Try.prog W = .ok (.bool true) W := by
  go_simp
theorem bin_int_self (e : Nat) (x y : Operand) (W : World) : (do eqGuard .eql 3 x y (.int .i64 (e : Int)) (.int .i64 (e : Int)); binOp .eql 3 (.int .i64 (e : Int)) (.int .i64 (e : Int)) : Sem Value).run Try.prog W = .ok (.bool true) W := by
  go_simp
theorem bin_int_zero (e : Nat) (x y : Operand) (W : World) : (do eqGuard .neq 3 x y (.int .i64 (e : Int)) (.int .i64 0); binOp .neq 3 (.int .i64 (e : Int)) (.int .i64 0) : Sem Value).run Try.prog W = .ok (.bool (!decide (e = 0))) W := by
  have h : ((e : Int) == 0) = decide (e = 0) := by
    rw [Bool.eq_iff_iff]
    simp
  go_simp
  rw [bne, h]
theorem enc_of {a : N4} {p : Pt} (ha : Ok4 a p) (t : ByteArray) (ht : t = ⟨(byL (encN p.1.val p.2.val)).toArray⟩) (w : World) : Calls Try.prog 12 #[pv4 a] w fun E w' => E = .returned (.string t) ∧ Below w.heap.size w w' := by
  rw [ht]
  exact encode_any ha w
theorem renc_of {b : N3} {p : Pt} (hb : Ok3 b p) (t : ByteArray) (ht : t = ⟨(byL (encN p.1.val p.2.val)).toArray⟩) (w : World) : Calls Try.prog 14 #[pv3 b] w fun E w' => E = .returned (.string t) ∧ Below w.heap.size w w' := by
  rw [ht]
  exact rencode_any hb w
theorem byL_get (n : Nat) (t : ByteArray) (ht : t = ⟨(byL n).toArray⟩) (i : Nat) (hi : i < 32) (c : UInt8) (hc : UInt8.ofNat (n / 256 ^ i % 256) = c) : t[i]? = some c := by
  rw [ht, byL_at n i hi, hc]
theorem enc_base : encN (baseE.1).val (baseE.2).val = bY := by
  rw [show (baseE.1).val = bX from Nat.mod_eq_of_lt bX_lt, show (baseE.2).val = bY from Nat.mod_eq_of_lt bY_lt]
  unfold encN
  rw [if_neg (by decide +kernel)]
theorem enc_zero : encN (zeroE.1).val (zeroE.2).val = 1 := by
  rw [show (zeroE.1).val = 0 from rfl, show (zeroE.2).val = 1 from Nat.mod_eq_of_lt one_below]
  rfl
theorem run_eq_u8 {P : Program} {o : Oper} {A : Act} {t t' : TypeId} {x y : Operand} {c : UInt8} {n : Int} (W : World) (ho : o.op = .binOp .eql t x y t') (hx : A.eval x = .int .u8 (c.toNat : Int)) (hy : A.eval y = .int .u8 n) (hc : ((c.toNat : Int) == n) = true) : (execOp A.eval o).run P W = .ok (.value (.bool true)) W := run_eqint_of W ho hx hy hc
set_option maxRecDepth 20000 in
set_option maxHeartbeats 8000000 in
theorem lives21_any (w : World) : Calls Try.prog 16 #[] w fun E w' => E = .returned (.bool true) ∧ Below w.heap.size w w' := by
  obtain ⟨zs, ezs⟩ : ∃ t : ByteArray, t = ⟨(byL 1).toArray⟩ := ⟨_, rfl⟩
  obtain ⟨bs, ebs⟩ : ∃ t : ByteArray, t = ⟨(byL bY).toArray⟩ := ⟨_, rfl⟩
  have HMIX := Lib.hid (show Try.prog.follows .mixedOrders = true by kernel_rfl)
  go_enter Try.func16, Try.ntmps16
  have hM0 := Mem.start w
  (go_step; go_step; refine wp_region_lit ?_)
  refine wl_pure (v := .bool false) (fun _ => rfl) rfl ?_
  simp only [Act.put, List.setIfInBounds_toArray, List.set_cons_zero, List.set_cons_succ]
  refine wpList_nil ?_
  (go_step; go_step; go_step; refine wp_region_lit ?_)
  refine wl_call hM0 (args := #[]) (v := pv4 zero4) (fun W => run_call_fn W (enters_of Try.func40 rfl rfl) rfl (by simp [Act.eval])) (zero4_any w) rfl fun W1 hM1 => ?_
  simp only [Act.put, List.setIfInBounds_toArray, List.set_cons_zero, List.set_cons_succ]
  refine wl_call hM1 (args := #[pv4 zero4]) (v := .string zs) (fun W => run_call_fn W (enters_of Try.func12 rfl rfl) rfl (by simp [Act.eval])) (enc_of ok4_zero zs (by rw [ezs, enc_zero]) W1) rfl fun W2 hM2 => ?_
  simp only [Act.put, List.setIfInBounds_toArray, List.set_cons_zero, List.set_cons_succ]
  refine wl_call hM2 (args := #[]) (v := pv4 base4) (fun W => run_call_fn W (enters_of Try.func26 rfl rfl) rfl (by simp [Act.eval])) (base4_any W2) rfl fun W3 hM3 => ?_
  simp only [Act.put, List.setIfInBounds_toArray, List.set_cons_zero, List.set_cons_succ]
  refine wl_call hM3 (args := #[pv4 base4]) (v := .string bs) (fun W => run_call_fn W (enters_of Try.func12 rfl rfl) rfl (by simp [Act.eval])) (enc_of ok4_base bs (by rw [ebs, enc_base]) W3) rfl fun W4 hM4 => ?_
  simp only [Act.put, List.setIfInBounds_toArray, List.set_cons_zero, List.set_cons_succ]
  refine wl_pure (v := .string zs) (fun _ => rfl) rfl ?_
  simp only [Act.put, List.setIfInBounds_toArray, List.set_cons_zero, List.set_cons_succ]
  refine wl_pure (v := .string bs) (fun _ => rfl) rfl ?_
  simp only [Act.put, List.setIfInBounds_toArray, List.set_cons_zero, List.set_cons_succ]
  refine wpList_nil ?_
  (go_step; go_step; go_step; refine wp_region_lit ?_)
  refine wl_call hM4 (args := #[.string ⟨#[120]⟩]) (v := .tuple #[pv4 zero4, .int .i64 1]) (fun W => run_call_fn W (enters_of Try.func13 rfl rfl) rfl (by simp [Act.eval])) ((fun W => dec_short ⟨#[120]⟩ (by decide) W) W4) rfl fun W5 hM5 => ?_
  simp only [Act.put, List.setIfInBounds_toArray, List.set_cons_zero, List.set_cons_succ]
  refine wl_pure (v := .tuple #[pv4 zero4, .int .i64 1]) (fun _ => rfl) rfl ?_
  simp only [Act.put, List.setIfInBounds_toArray, List.set_cons_zero, List.set_cons_succ]
  refine wl_pure (v := pv4 zero4) (fun _ => rfl) rfl ?_
  simp only [Act.put, List.setIfInBounds_toArray, List.set_cons_zero, List.set_cons_succ]
  refine wl_pure (v := .int .i64 1) (fun _ => rfl) rfl ?_
  simp only [Act.put, List.setIfInBounds_toArray, List.set_cons_zero, List.set_cons_succ]
  refine wl_new hM5 (f := fun b => .pointer (some ⟨b, 0, none⟩)) (ob := .cells z16 30 (0, 0)) (fun W => run_alloc_of rfl (al_Pt W)) rfl fun b1 W6 hM6 => ?_
  simp only [Act.put, List.setIfInBounds_toArray, List.set_cons_zero, List.set_cons_succ]
  refine wl_set hM6 0 (cs := ((pc4 zero4))) rfl rfl rfl rfl rowPt rfl (one_p4 _) rfl rfl fun W7 hM7 => ?_
  simp only [List.set_cons_zero, List.set_cons_succ] at hM7
  refine wl_pure (v := .int .i64 1) (fun _ => rfl) rfl ?_
  simp only [Act.put, List.setIfInBounds_toArray, List.set_cons_zero, List.set_cons_succ]
  refine wpList_nil ?_
  (go_step; go_step; go_step; refine wp_region_lit ?_)
  refine wl_pure (v := .string zs) (fun _ => rfl) rfl ?_
  simp only [Act.put, List.setIfInBounds_toArray, List.set_cons_zero, List.set_cons_succ]
  refine wl_pure (v := .int .i64 32) (fun W => by rw [show (.int .i64 32 : Value) = .int .i64 (zs.size : Int) by rw [ezs, byL_size]; rfl]; exact run_len_str W rfl (by simp [Act.eval]) rfl Try.underlying9) rfl ?_
  simp only [Act.put, List.setIfInBounds_toArray, List.set_cons_zero, List.set_cons_succ]
  refine wl_pure (v := .bool true) (fun W => run_eqint_of W rfl rfl rfl rfl) rfl ?_
  simp only [Act.put, List.setIfInBounds_toArray, List.set_cons_zero, List.set_cons_succ]
  refine wl_pure (v := .bool true) (fun _ => rfl) rfl ?_
  simp only [Act.put, List.setIfInBounds_toArray, List.set_cons_zero, List.set_cons_succ]
  refine wl_pure (v := .string zs) (fun _ => rfl) rfl ?_
  simp only [Act.put, List.setIfInBounds_toArray, List.set_cons_zero, List.set_cons_succ]
  refine wl_pure (v := .int .u8 ((1 : UInt8).toNat : Int)) (fun W => run_idx_str W rfl rfl rfl Try.underlying9 (byL_get 1 zs ezs 0 (by decide) 1 (by decide +kernel))) rfl ?_
  simp only [Act.put, List.setIfInBounds_toArray, List.set_cons_zero, List.set_cons_succ]
  refine wl_pure (v := .bool true) (fun W => run_eq_u8 W rfl rfl rfl (by decide)) rfl ?_
  simp only [Act.put, List.setIfInBounds_toArray, List.set_cons_zero, List.set_cons_succ]
  refine wl_pure (v := .bool true) (fun _ => rfl) rfl ?_
  simp only [Act.put, List.setIfInBounds_toArray, List.set_cons_zero, List.set_cons_succ]
  refine wl_pure (v := .bool true) (fun _ => rfl) rfl ?_
  simp only [Act.put, List.setIfInBounds_toArray, List.set_cons_zero, List.set_cons_succ]
  refine wl_pure (v := .string zs) (fun _ => rfl) rfl ?_
  simp only [Act.put, List.setIfInBounds_toArray, List.set_cons_zero, List.set_cons_succ]
  refine wl_pure (v := .int .u8 ((0 : UInt8).toNat : Int)) (fun W => run_idx_str W rfl rfl rfl Try.underlying9 (byL_get 1 zs ezs 31 (by decide) 0 (by decide +kernel))) rfl ?_
  simp only [Act.put, List.setIfInBounds_toArray, List.set_cons_zero, List.set_cons_succ]
  refine wl_pure (v := .bool true) (fun W => run_eq_u8 W rfl rfl rfl (by decide)) rfl ?_
  simp only [Act.put, List.setIfInBounds_toArray, List.set_cons_zero, List.set_cons_succ]
  refine wl_pure (v := .bool true) (fun _ => rfl) rfl ?_
  simp only [Act.put, List.setIfInBounds_toArray, List.set_cons_zero, List.set_cons_succ]
  refine wl_pure (v := .bool true) (fun _ => rfl) rfl ?_
  simp only [Act.put, List.setIfInBounds_toArray, List.set_cons_zero, List.set_cons_succ]
  refine wl_pure (v := .string bs) (fun _ => rfl) rfl ?_
  simp only [Act.put, List.setIfInBounds_toArray, List.set_cons_zero, List.set_cons_succ]
  refine wl_pure (v := .int .i64 32) (fun W => by rw [show (.int .i64 32 : Value) = .int .i64 (bs.size : Int) by rw [ebs, byL_size]; rfl]; exact run_len_str W rfl (by simp [Act.eval]) rfl Try.underlying9) rfl ?_
  simp only [Act.put, List.setIfInBounds_toArray, List.set_cons_zero, List.set_cons_succ]
  refine wl_pure (v := .bool true) (fun W => run_eqint_of W rfl rfl rfl rfl) rfl ?_
  simp only [Act.put, List.setIfInBounds_toArray, List.set_cons_zero, List.set_cons_succ]
  refine wl_pure (v := .bool true) (fun _ => rfl) rfl ?_
  simp only [Act.put, List.setIfInBounds_toArray, List.set_cons_zero, List.set_cons_succ]
  refine wl_pure (v := .bool true) (fun _ => rfl) rfl ?_
  simp only [Act.put, List.setIfInBounds_toArray, List.set_cons_zero, List.set_cons_succ]
  refine wl_pure (v := .string bs) (fun _ => rfl) rfl ?_
  simp only [Act.put, List.setIfInBounds_toArray, List.set_cons_zero, List.set_cons_succ]
  refine wl_pure (v := .int .u8 ((88 : UInt8).toNat : Int)) (fun W => run_idx_str W rfl rfl rfl Try.underlying9 (byL_get bY bs ebs 0 (by decide) 88 (by decide +kernel))) rfl ?_
  simp only [Act.put, List.setIfInBounds_toArray, List.set_cons_zero, List.set_cons_succ]
  refine wl_pure (v := .bool true) (fun W => run_eq_u8 W rfl rfl rfl (by decide)) rfl ?_
  simp only [Act.put, List.setIfInBounds_toArray, List.set_cons_zero, List.set_cons_succ]
  refine wl_pure (v := .bool true) (fun _ => rfl) rfl ?_
  simp only [Act.put, List.setIfInBounds_toArray, List.set_cons_zero, List.set_cons_succ]
  refine wl_pure (v := .bool true) (fun _ => rfl) rfl ?_
  simp only [Act.put, List.setIfInBounds_toArray, List.set_cons_zero, List.set_cons_succ]
  refine wl_pure (v := .string bs) (fun _ => rfl) rfl ?_
  simp only [Act.put, List.setIfInBounds_toArray, List.set_cons_zero, List.set_cons_succ]
  refine wl_pure (v := .int .u8 ((102 : UInt8).toNat : Int)) (fun W => run_idx_str W rfl rfl rfl Try.underlying9 (byL_get bY bs ebs 1 (by decide) 102 (by decide +kernel))) rfl ?_
  simp only [Act.put, List.setIfInBounds_toArray, List.set_cons_zero, List.set_cons_succ]
  refine wl_pure (v := .bool true) (fun W => run_eq_u8 W rfl rfl rfl (by decide)) rfl ?_
  simp only [Act.put, List.setIfInBounds_toArray, List.set_cons_zero, List.set_cons_succ]
  refine wl_pure (v := .bool true) (fun _ => rfl) rfl ?_
  simp only [Act.put, List.setIfInBounds_toArray, List.set_cons_zero, List.set_cons_succ]
  refine wl_pure (v := .bool true) (fun _ => rfl) rfl ?_
  simp only [Act.put, List.setIfInBounds_toArray, List.set_cons_zero, List.set_cons_succ]
  refine wl_pure (v := .string bs) (fun _ => rfl) rfl ?_
  simp only [Act.put, List.setIfInBounds_toArray, List.set_cons_zero, List.set_cons_succ]
  refine wl_pure (v := .int .u8 ((102 : UInt8).toNat : Int)) (fun W => run_idx_str W rfl rfl rfl Try.underlying9 (byL_get bY bs ebs 31 (by decide) 102 (by decide +kernel))) rfl ?_
  simp only [Act.put, List.setIfInBounds_toArray, List.set_cons_zero, List.set_cons_succ]
  refine wl_pure (v := .bool true) (fun W => run_eq_u8 W rfl rfl rfl (by decide)) rfl ?_
  simp only [Act.put, List.setIfInBounds_toArray, List.set_cons_zero, List.set_cons_succ]
  refine wl_pure (v := .bool true) (fun _ => rfl) rfl ?_
  simp only [Act.put, List.setIfInBounds_toArray, List.set_cons_zero, List.set_cons_succ]
  refine wl_pure (v := .bool true) (fun _ => rfl) rfl ?_
  simp only [Act.put, List.setIfInBounds_toArray, List.set_cons_zero, List.set_cons_succ]
  refine wl_pure (v := .int .i64 1) (fun _ => rfl) rfl ?_
  simp only [Act.put, List.setIfInBounds_toArray, List.set_cons_zero, List.set_cons_succ]
  refine wl_pure (v := .bool true) (fun W => run_eqint_of W rfl rfl rfl rfl) rfl ?_
  simp only [Act.put, List.setIfInBounds_toArray, List.set_cons_zero, List.set_cons_succ]
  refine wl_pure (v := .bool true) (fun _ => rfl) rfl ?_
  simp only [Act.put, List.setIfInBounds_toArray, List.set_cons_zero, List.set_cons_succ]
  refine wl_pure (v := .bool true) (fun _ => rfl) rfl ?_
  simp only [Act.put, List.setIfInBounds_toArray, List.set_cons_zero, List.set_cons_succ]
  refine wpList_nil ?_
  (go_step; go_step; go_step; refine bodyPost_ret (v := .bool true) (results_slot Try.results16 rfl) rfl ⟨?_, hM7.below⟩)
  exact rfl
set_option maxRecDepth 20000 in
set_option maxHeartbeats 8000000 in
theorem pcodeWrites_walk (k0 m0 : Int) (w : World) (wk : (Lit.int .u32 k0).wf = true) (wm : (Lit.int .u8 m0).wf = true) : Calls Try.prog 3 #[.int .u32 k0, .int .u8 m0] w fun e w' => e = .returned (.bool true) ∧ Below w.heap.size w w' := by
  obtain ⟨k, rfl, hk⟩ := u32_nat k0 wk
  obtain ⟨m, rfl, hm⟩ := u8_nat m0 wm
  clear wk wm
  obtain ⟨ak, bk, hak, hbk, Kbk⟩ := both_ex k hk
  have Kbk := Lib.hid Kbk
  obtain ⟨am, bm, pm, ham, hbm, Kbm⟩ := low_any m
  have Kbm := Lib.hid Kbm
  obtain ⟨pk, epk⟩ : ∃ p, p = timesE k baseE := ⟨_, rfl⟩
  rw [← epk] at hak hbk
  have HMIX := Lib.hid (show Try.prog.follows .mixedOrders = true by kernel_rfl)
  go_enter Try.func3, Try.ntmps3
  have hM0 := Mem.start w
  (go_step; go_step; refine wp_region_lit ?_)
  refine wl_pure (v := .bool false) (fun _ => rfl) rfl ?_
  simp only [Act.put, List.setIfInBounds_toArray, List.set_cons_zero, List.set_cons_succ]
  refine wpList_nil ?_
  (go_step; go_step; go_step; refine wp_region_lit ?_)
  refine wl_pure (v := .int .u32 (k : Int)) (fun _ => rfl) rfl ?_
  simp only [Act.put, List.setIfInBounds_toArray, List.set_cons_zero, List.set_cons_succ]
  refine wl_call hM0 (args := #[.int .u32 (k : Int)]) (v := .tuple #[pv4 ak, pv3 bk]) (fun W => run_call_fn W (enters_of Try.func7 rfl rfl) rfl (by simp [Act.eval])) (Kbk.out w) rfl fun W1 hM1 => ?_
  simp only [Act.put, List.setIfInBounds_toArray, List.set_cons_zero, List.set_cons_succ]
  refine wl_pure (v := .tuple #[pv4 ak, pv3 bk]) (fun _ => rfl) rfl ?_
  simp only [Act.put, List.setIfInBounds_toArray, List.set_cons_zero, List.set_cons_succ]
  refine wl_pure (v := pv4 ak) (fun _ => rfl) rfl ?_
  simp only [Act.put, List.setIfInBounds_toArray, List.set_cons_zero, List.set_cons_succ]
  refine wl_pure (v := pv3 bk) (fun _ => rfl) rfl ?_
  simp only [Act.put, List.setIfInBounds_toArray, List.set_cons_zero, List.set_cons_succ]
  refine wl_new hM1 (f := fun b => .pointer (some ⟨b, 0, none⟩)) (ob := .cells z16 30 (0, 0)) (fun W => run_alloc_of rfl (al_Pt W)) rfl fun b1 W2 hM2 => ?_
  simp only [Act.put, List.setIfInBounds_toArray, List.set_cons_zero, List.set_cons_succ]
  refine wl_new hM2 (f := fun b => .pointer (some ⟨b, 0, none⟩)) (ob := .cells z12 32 (0, 0)) (fun W => run_alloc_of rfl (al_Rp W)) rfl fun b2 W3 hM3 => ?_
  simp only [Act.put, List.setIfInBounds_toArray, List.set_cons_zero, List.set_cons_succ]
  refine wl_set hM3 1 (cs := ((pc4 ak))) rfl rfl rfl rfl rowPt rfl (one_p4 _) rfl rfl fun W4 hM4 => ?_
  simp only [List.set_cons_zero, List.set_cons_succ] at hM4
  refine wl_set hM4 0 (cs := ((rpL bk.1 bk.2.1 bk.2.2).toArray)) rfl rfl rfl rfl rowRp rfl (one_rp _ _ _) rfl rfl fun W5 hM5 => ?_
  simp only [List.set_cons_zero, List.set_cons_succ] at hM5
  refine wpList_nil ?_
  (go_step; go_step; go_step; refine wp_region_lit ?_)
  refine wl_pure (v := .int .u8 (m : Int)) (fun _ => rfl) rfl ?_
  simp only [Act.put, List.setIfInBounds_toArray, List.set_cons_zero, List.set_cons_succ]
  refine wl_call hM5 (args := #[.int .u8 (m : Int)]) (v := .tuple #[pv4 am, pv3 bm]) (fun W => run_call_fn W (enters_of Try.func8 rfl rfl) rfl (by simp [Act.eval])) (Kbm.out W5) rfl fun W6 hM6 => ?_
  simp only [Act.put, List.setIfInBounds_toArray, List.set_cons_zero, List.set_cons_succ]
  refine wl_pure (v := .tuple #[pv4 am, pv3 bm]) (fun _ => rfl) rfl ?_
  simp only [Act.put, List.setIfInBounds_toArray, List.set_cons_zero, List.set_cons_succ]
  refine wl_pure (v := pv4 am) (fun _ => rfl) rfl ?_
  simp only [Act.put, List.setIfInBounds_toArray, List.set_cons_zero, List.set_cons_succ]
  refine wl_pure (v := pv3 bm) (fun _ => rfl) rfl ?_
  simp only [Act.put, List.setIfInBounds_toArray, List.set_cons_zero, List.set_cons_succ]
  refine wl_new hM6 (f := fun b => .pointer (some ⟨b, 0, none⟩)) (ob := .cells z16 30 (0, 0)) (fun W => run_alloc_of rfl (al_Pt W)) rfl fun b3 W7 hM7 => ?_
  simp only [Act.put, List.setIfInBounds_toArray, List.set_cons_zero, List.set_cons_succ]
  refine wl_new hM7 (f := fun b => .pointer (some ⟨b, 0, none⟩)) (ob := .cells z12 32 (0, 0)) (fun W => run_alloc_of rfl (al_Rp W)) rfl fun b4 W8 hM8 => ?_
  simp only [Act.put, List.setIfInBounds_toArray, List.set_cons_zero, List.set_cons_succ]
  refine wl_set hM8 1 (cs := ((pc4 am))) rfl rfl rfl rfl rowPt rfl (one_p4 _) rfl rfl fun W9 hM9 => ?_
  simp only [List.set_cons_zero, List.set_cons_succ] at hM9
  refine wl_set hM9 0 (cs := ((rpL bm.1 bm.2.1 bm.2.2).toArray)) rfl rfl rfl rfl rowRp rfl (one_rp _ _ _) rfl rfl fun W10 hM10 => ?_
  simp only [List.set_cons_zero, List.set_cons_succ] at hM10
  refine wpList_nil ?_
  (go_step; go_step; go_step; refine wp_region_inw 8 HMIX.out (by decide) (by kernel_rfl) (by kernel_rfl) ?_)
  refine inw_row hM10 3 (v := pv4 ak) rfl rfl rfl rfl rowPt rfl rfl ?_; simp only [Act.put, List.setIfInBounds_toArray, List.set_cons_zero, List.set_cons_succ]
  refine inw_row hM10 1 (v := pv4 am) rfl rfl rfl rfl rowPt rfl rfl ?_; simp only [Act.put, List.setIfInBounds_toArray, List.set_cons_zero, List.set_cons_succ]
  refine inw_slice (n := 2) (L := (pl4 ak ++ pl4 am).toArray) (T := 30) (fun W => run_slice_of rfl (by simp [Act.eval]) (bsP2 ak am W)) rfl rfl ?_; simp only [List.nil_append, List.cons_append]
  obtain ⟨r1, er1⟩ : ∃ x, x = (add4 (add4 zero4 ak) am) := ⟨_, rfl⟩
  have or1 := (ok4_add (ok4_add ok4_zero hak) ham)
  rw [← er1] at or1
  have Kr1 := Lib.hid (addl2 hak ham)
  simp only [← er1] at Kr1
  refine inw_callS 2 24 (v := pv4 r1) rfl rfl (fun _ => rfl) (fun b W => run_call_fn W (enters_of Try.func9 rfl rfl) rfl (by simp [Act.eval, Act.put])) (fun b W h => Kr1.out b W h) ?_; simp only [Act.put, List.setIfInBounds_toArray, List.set_cons_zero, List.set_cons_succ]
  refine inw_row hM10 2 (v := pv3 bk) rfl rfl rfl rfl rowRp rfl rfl ?_; simp only [Act.put, List.setIfInBounds_toArray, List.set_cons_zero, List.set_cons_succ]
  refine inw_row hM10 0 (v := pv3 bm) rfl rfl rfl rfl rowRp rfl rfl ?_; simp only [Act.put, List.setIfInBounds_toArray, List.set_cons_zero, List.set_cons_succ]
  refine inw_callV (args := #[]) (v := numV dN) (fun W => run_call_fn W (enters_of Try.func11 rfl rfl) rfl (by simp [Act.eval])) (fun W _ => rD_any W) rfl rfl ?_; simp only [Act.put, List.setIfInBounds_toArray, List.set_cons_zero, List.set_cons_succ]
  obtain ⟨q2, eq2⟩ : ∃ x, x = add3 bk bm := ⟨_, rfl⟩
  have oq2 := ok3_add hbk hbm
  rw [← eq2] at oq2
  have Kq2 := Lib.hid (fun W => rptadd3 hbk hbm W)
  simp only [← eq2] at Kq2
  refine inw_callV (args := #[pv3 bk, pv3 bm, numV dN]) (v := pv3 q2) (fun W => run_call_fn W (enters_of Try.func10 rfl rfl) rfl (by simp [Act.eval])) (fun W _ => Kq2.out W) rfl rfl ?_; simp only [Act.put, List.setIfInBounds_toArray, List.set_cons_zero, List.set_cons_succ]
  refine inw_fin fun d os => ?_
  refine given_mk (t := 24) rfl fun s2 => ?_
  refine given_nil fun hap => ?_
  simp only [Act.put, List.setIfInBounds_toArray, List.set_cons_zero, List.set_cons_succ] at hap ⊢
  have hM11 := hM10.calls (below_regrown W10 d os)
  clear hap 
  generalize grow (redrawn W10 d) os = W11 at hM11 ⊢
  change wpAny _ _ _ _ 2 _ _ _
  refine any_set (n := 8) (by kernel_rfl) rfl hM11 3 (cs := ((pc4 r1))) rfl rfl rfl rfl rowPt rfl (one_p4 _) rfl rfl fun W12 hM12 => ?_
  simp only [List.set_cons_zero, List.set_cons_succ] at hM12
  refine any_set (n := 9) (by kernel_rfl) rfl hM12 2 (cs := ((rpL q2.1 q2.2.1 q2.2.2).toArray)) rfl rfl rfl rfl rowRp rfl (one_rp _ _ _) rfl rfl fun W13 hM13 => ?_
  simp only [List.set_cons_zero, List.set_cons_succ] at hM13
  refine wpAny_done (by kernel_rfl) ?_ _
  (go_step; go_step; go_step; refine wp_region_lit ?_)
  refine wl_row hM13 3 (v := pv4 r1) rfl rfl rfl rfl rowPt rfl ?_
  simp only [Act.put, List.setIfInBounds_toArray, List.set_cons_zero, List.set_cons_succ]
  obtain ⟨ts, ets⟩ : ∃ t : ByteArray, t = ⟨(byL (encN (addE (addE zeroE pk) pm).1.val (addE (addE zeroE pk) pm).2.val)).toArray⟩ := ⟨_, rfl⟩
  have hon := or1.on
  obtain ⟨au, oku, KD⟩ := decode_any ts (by rw [ets]; exact byL_size _)
  obtain ⟨dE, dP⟩ := dec_enc (addE (addE zeroE pk) pm) hon
  rw [show leN ts.data.toList = encN (addE (addE zeroE pk) pm).1.val (addE (addE zeroE pk) pm).2.val by rw [ets]; exact leN_byL _ (enc_dec _ _ (Fin.isLt _)).2.2, dE] at KD
  rw [show leN ts.data.toList = encN (addE (addE zeroE pk) pm).1.val (addE (addE zeroE pk) pm).2.val by rw [ets]; exact leN_byL _ (enc_dec _ _ (Fin.isLt _)).2.2, dP] at oku
  have KD := Lib.hid KD
  refine wl_call hM13 (args := #[pv4 r1]) (v := .string ts) (fun W => run_call_fn W (enters_of Try.func12 rfl rfl) rfl (by simp [Act.eval])) (enc_of or1 ts ets W13) rfl fun W14 hM14 => ?_
  simp only [Act.put, List.setIfInBounds_toArray, List.set_cons_zero, List.set_cons_succ]
  refine wl_pure (v := .string ts) (fun _ => rfl) rfl ?_
  simp only [Act.put, List.setIfInBounds_toArray, List.set_cons_zero, List.set_cons_succ]
  refine wpList_nil ?_
  (go_step; go_step; go_step; refine wp_region_lit ?_)
  refine wl_pure (v := .string ts) (fun _ => rfl) rfl ?_
  simp only [Act.put, List.setIfInBounds_toArray, List.set_cons_zero, List.set_cons_succ]
  refine wl_call hM14 (args := #[.string ts]) (v := .tuple #[pv4 au, .int .i64 0]) (fun W => run_call_fn W (enters_of Try.func13 rfl rfl) rfl (by simp [Act.eval])) (KD.out W14) rfl fun W15 hM15 => ?_
  simp only [Act.put, List.setIfInBounds_toArray, List.set_cons_zero, List.set_cons_succ]
  refine wl_pure (v := .tuple #[pv4 au, .int .i64 0]) (fun _ => rfl) rfl ?_
  simp only [Act.put, List.setIfInBounds_toArray, List.set_cons_zero, List.set_cons_succ]
  refine wl_pure (v := pv4 au) (fun _ => rfl) rfl ?_
  simp only [Act.put, List.setIfInBounds_toArray, List.set_cons_zero, List.set_cons_succ]
  refine wl_pure (v := .int .i64 0) (fun _ => rfl) rfl ?_
  simp only [Act.put, List.setIfInBounds_toArray, List.set_cons_zero, List.set_cons_succ]
  refine wl_new hM15 (f := fun b => .pointer (some ⟨b, 0, none⟩)) (ob := .cells z16 30 (0, 0)) (fun W => run_alloc_of rfl (al_Pt W)) rfl fun b5 W16 hM16 => ?_
  simp only [Act.put, List.setIfInBounds_toArray, List.set_cons_zero, List.set_cons_succ]
  refine wl_set hM16 0 (cs := ((pc4 au))) rfl rfl rfl rfl rowPt rfl (one_p4 _) rfl rfl fun W17 hM17 => ?_
  simp only [List.set_cons_zero, List.set_cons_succ] at hM17
  refine wl_pure (v := .int .i64 0) (fun _ => rfl) rfl ?_
  simp only [Act.put, List.setIfInBounds_toArray, List.set_cons_zero, List.set_cons_succ]
  refine wpList_nil ?_
  (go_step; go_step; go_step; refine wp_region_lit ?_)
  refine wl_pure (v := .string ts) (fun _ => rfl) rfl ?_
  simp only [Act.put, List.setIfInBounds_toArray, List.set_cons_zero, List.set_cons_succ]
  refine wl_row hM17 3 (v := pv3 q2) rfl rfl rfl rfl rowRp rfl ?_
  simp only [Act.put, List.setIfInBounds_toArray, List.set_cons_zero, List.set_cons_succ]
  refine wl_call hM17 (args := #[pv3 q2]) (v := .string ts) (fun W => run_call_fn W (enters_of Try.func14 rfl rfl) rfl (by simp [Act.eval])) (renc_of oq2 ts (by rw [ets, zz2 _ _ hak.on ham.on]) W17) rfl fun W18 hM18 => ?_
  simp only [Act.put, List.setIfInBounds_toArray, List.set_cons_zero, List.set_cons_succ]
  refine wl_pure (v := .bool true) (fun W => run_bin_of rfl rfl rfl (bin_str_self ts _ _ W)) rfl ?_
  simp only [Act.put, List.setIfInBounds_toArray, List.set_cons_zero, List.set_cons_succ]
  refine wl_pure (v := .bool true) (fun _ => rfl) rfl ?_
  simp only [Act.put, List.setIfInBounds_toArray, List.set_cons_zero, List.set_cons_succ]
  refine wl_pure (v := .int .i64 0) (fun _ => rfl) rfl ?_
  simp only [Act.put, List.setIfInBounds_toArray, List.set_cons_zero, List.set_cons_succ]
  refine wl_pure (v := .bool true) (fun W => run_eqint_of W rfl rfl rfl rfl) rfl ?_
  simp only [Act.put, List.setIfInBounds_toArray, List.set_cons_zero, List.set_cons_succ]
  refine wl_pure (v := .bool true) (fun _ => rfl) rfl ?_
  simp only [Act.put, List.setIfInBounds_toArray, List.set_cons_zero, List.set_cons_succ]
  refine wl_pure (v := .bool true) (fun _ => rfl) rfl ?_
  simp only [Act.put, List.setIfInBounds_toArray, List.set_cons_zero, List.set_cons_succ]
  refine wl_row hM18 0 (v := pv4 au) rfl rfl rfl rfl rowPt rfl ?_
  simp only [Act.put, List.setIfInBounds_toArray, List.set_cons_zero, List.set_cons_succ]
  refine wl_row hM18 4 (v := pv4 r1) rfl rfl rfl rfl rowPt rfl ?_
  simp only [Act.put, List.setIfInBounds_toArray, List.set_cons_zero, List.set_cons_succ]
  refine wl_call hM18 (args := #[pv4 au, pv4 r1]) (v := .bool true) (fun W => run_call_fn W (enters_of Try.func15 rfl rfl) rfl (by simp [Act.eval])) (same_yes oku or1 rfl W18) rfl fun W19 hM19 => ?_
  simp only [Act.put, List.setIfInBounds_toArray, List.set_cons_zero, List.set_cons_succ]
  refine wl_pure (v := .bool true) (fun _ => rfl) rfl ?_
  simp only [Act.put, List.setIfInBounds_toArray, List.set_cons_zero, List.set_cons_succ]
  refine wl_pure (v := .bool true) (fun _ => rfl) rfl ?_
  simp only [Act.put, List.setIfInBounds_toArray, List.set_cons_zero, List.set_cons_succ]
  refine wl_call hM19 (args := #[]) (v := .bool true) (fun W => run_call_fn W (enters_of Try.func16 rfl rfl) rfl (by simp [Act.eval])) (lives21_any W19) rfl fun W20 hM20 => ?_
  simp only [Act.put, List.setIfInBounds_toArray, List.set_cons_zero, List.set_cons_succ]
  refine wl_pure (v := .bool true) (fun _ => rfl) rfl ?_
  simp only [Act.put, List.setIfInBounds_toArray, List.set_cons_zero, List.set_cons_succ]
  refine wl_pure (v := .bool true) (fun _ => rfl) rfl ?_
  simp only [Act.put, List.setIfInBounds_toArray, List.set_cons_zero, List.set_cons_succ]
  refine wpList_nil ?_
  (go_step; go_step; go_step; refine bodyPost_ret (v := .bool true) (results_slot Try.results3 rfl) rfl ⟨?_, hM20.below⟩)
  exact rfl
end Go.Proofs.Ytigfoophimjgdaa
namespace Go.Proofs.Ytigfoophimjgdaa
set_option maxRecDepth 20000
set_option linter.unusedSimpArgs false
set_option linter.unusedVariables false
open Go.RowKit Go.Sort
theorem leN_back (s : ByteArray) (hs : s.size = 32) : (⟨(byL (leN s.data.toList)).toArray⟩ : ByteArray) = s := by
  refine ByteArray.ext ?_
  show (byL (leN s.data.toList)).toArray = s.data
  rw [byL_leN _ (by rw [Array.length_toList]; exact hs), Array.toArray_toList]
set_option maxRecDepth 20000 in
set_option maxHeartbeats 8000000 in
theorem reads_ok (s : ByteArray) {a : N4} {b : N3} {p : Pt} (ha : Ok4 a p) (hb : Ok3 b p) (KD : Hid (∀ w, Calls Try.prog 13 #[.string s] w fun E w' => E = .returned (.tuple #[pv4 a, .int .i64 0]) ∧ Below w.heap.size w w')) (KR : Hid (∀ w, Calls Try.prog 17 #[.string s] w fun E w' => E = .returned (.tuple #[pv3 b, .int .i64 0]) ∧ Below w.heap.size w w')) (het : s = ⟨(byL (encN p.1.val p.2.val)).toArray⟩) (w : World) : Calls Try.prog 4 #[.string s] w fun e w' => e = .returned (.bool true) ∧ Below w.heap.size w w' := by
  have HMIX := Lib.hid (show Try.prog.follows .mixedOrders = true by kernel_rfl)
  go_enter Try.func4, Try.ntmps4
  have hM0 := Mem.start w
  (go_step; go_step; refine wp_region_lit ?_)
  refine wl_pure (v := .bool false) (fun _ => rfl) rfl ?_
  simp only [Act.put, List.setIfInBounds_toArray, List.set_cons_zero, List.set_cons_succ]
  refine wpList_nil ?_
  (go_step; go_step; go_step; refine wp_region_lit ?_)
  refine wl_pure (v := .string s) (fun _ => rfl) rfl ?_
  simp only [Act.put, List.setIfInBounds_toArray, List.set_cons_zero, List.set_cons_succ]
  refine wl_call hM0 (args := #[.string s]) (v := .tuple #[pv4 a, .int .i64 0]) (fun W => run_call_fn W (enters_of Try.func13 rfl rfl) rfl (by simp [Act.eval])) (KD.out w) rfl fun W1 hM1 => ?_
  simp only [Act.put, List.setIfInBounds_toArray, List.set_cons_zero, List.set_cons_succ]
  refine wl_pure (v := .tuple #[pv4 a, .int .i64 0]) (fun _ => rfl) rfl ?_
  simp only [Act.put, List.setIfInBounds_toArray, List.set_cons_zero, List.set_cons_succ]
  refine wl_pure (v := pv4 a) (fun _ => rfl) rfl ?_
  simp only [Act.put, List.setIfInBounds_toArray, List.set_cons_zero, List.set_cons_succ]
  refine wl_pure (v := .int .i64 0) (fun _ => rfl) rfl ?_
  simp only [Act.put, List.setIfInBounds_toArray, List.set_cons_zero, List.set_cons_succ]
  refine wl_new hM1 (f := fun b => .pointer (some ⟨b, 0, none⟩)) (ob := .cells z16 30 (0, 0)) (fun W => run_alloc_of rfl (al_Pt W)) rfl fun b1 W2 hM2 => ?_
  simp only [Act.put, List.setIfInBounds_toArray, List.set_cons_zero, List.set_cons_succ]
  refine wl_set hM2 0 (cs := ((pc4 a))) rfl rfl rfl rfl rowPt rfl (one_p4 _) rfl rfl fun W3 hM3 => ?_
  simp only [List.set_cons_zero, List.set_cons_succ] at hM3
  refine wl_pure (v := .int .i64 0) (fun _ => rfl) rfl ?_
  simp only [Act.put, List.setIfInBounds_toArray, List.set_cons_zero, List.set_cons_succ]
  refine wpList_nil ?_
  (go_step; go_step; go_step; refine wp_region_lit ?_)
  refine wl_pure (v := .string s) (fun _ => rfl) rfl ?_
  simp only [Act.put, List.setIfInBounds_toArray, List.set_cons_zero, List.set_cons_succ]
  refine wl_call hM3 (args := #[.string s]) (v := .tuple #[pv3 b, .int .i64 0]) (fun W => run_call_fn W (enters_of Try.func17 rfl rfl) rfl (by simp [Act.eval])) (KR.out W3) rfl fun W4 hM4 => ?_
  simp only [Act.put, List.setIfInBounds_toArray, List.set_cons_zero, List.set_cons_succ]
  refine wl_pure (v := .tuple #[pv3 b, .int .i64 0]) (fun _ => rfl) rfl ?_
  simp only [Act.put, List.setIfInBounds_toArray, List.set_cons_zero, List.set_cons_succ]
  refine wl_pure (v := pv3 b) (fun _ => rfl) rfl ?_
  simp only [Act.put, List.setIfInBounds_toArray, List.set_cons_zero, List.set_cons_succ]
  refine wl_pure (v := .int .i64 0) (fun _ => rfl) rfl ?_
  simp only [Act.put, List.setIfInBounds_toArray, List.set_cons_zero, List.set_cons_succ]
  refine wl_new hM4 (f := fun b => .pointer (some ⟨b, 0, none⟩)) (ob := .cells z12 32 (0, 0)) (fun W => run_alloc_of rfl (al_Rp W)) rfl fun b2 W5 hM5 => ?_
  simp only [Act.put, List.setIfInBounds_toArray, List.set_cons_zero, List.set_cons_succ]
  refine wl_set hM5 0 (cs := ((rpL b.1 b.2.1 b.2.2).toArray)) rfl rfl rfl rfl rowRp rfl (one_rp _ _ _) rfl rfl fun W6 hM6 => ?_
  simp only [List.set_cons_zero, List.set_cons_succ] at hM6
  refine wl_pure (v := .int .i64 0) (fun _ => rfl) rfl ?_
  simp only [Act.put, List.setIfInBounds_toArray, List.set_cons_zero, List.set_cons_succ]
  refine wpList_nil ?_
  (go_step; go_step; go_step; refine wp_region_lit ?_)
  refine wl_pure (v := .int .i64 0) (fun _ => rfl) rfl ?_
  simp only [Act.put, List.setIfInBounds_toArray, List.set_cons_zero, List.set_cons_succ]
  refine wl_pure (v := .int .i64 0) (fun _ => rfl) rfl ?_
  simp only [Act.put, List.setIfInBounds_toArray, List.set_cons_zero, List.set_cons_succ]
  refine wl_pure (v := .bool true) (fun W => run_eqint_of W rfl rfl rfl rfl) rfl ?_
  simp only [Act.put, List.setIfInBounds_toArray, List.set_cons_zero, List.set_cons_succ]
  refine wl_pure (v := .bool true) (fun _ => rfl) rfl ?_
  simp only [Act.put, List.setIfInBounds_toArray, List.set_cons_zero, List.set_cons_succ]
  refine wl_row hM6 1 (v := pv4 a) rfl rfl rfl rfl rowPt rfl ?_
  simp only [Act.put, List.setIfInBounds_toArray, List.set_cons_zero, List.set_cons_succ]
  refine wl_row hM6 0 (v := pv3 b) rfl rfl rfl rfl rowRp rfl ?_
  simp only [Act.put, List.setIfInBounds_toArray, List.set_cons_zero, List.set_cons_succ]
  refine wl_call hM6 (args := #[pv4 a, pv3 b]) (v := .bool true) (fun W => run_call_fn W (enters_of Try.func18 rfl rfl) rfl (by simp [Act.eval])) (is_yes ha hb W6) rfl fun W7 hM7 => ?_
  simp only [Act.put, List.setIfInBounds_toArray, List.set_cons_zero, List.set_cons_succ]
  refine wl_pure (v := .bool true) (fun _ => rfl) rfl ?_
  simp only [Act.put, List.setIfInBounds_toArray, List.set_cons_zero, List.set_cons_succ]
  refine wl_pure (v := .bool true) (fun _ => rfl) rfl ?_
  simp only [Act.put, List.setIfInBounds_toArray, List.set_cons_zero, List.set_cons_succ]
  refine wl_pure (v := .int .i64 0) (fun _ => rfl) rfl ?_
  simp only [Act.put, List.setIfInBounds_toArray, List.set_cons_zero, List.set_cons_succ]
  refine wl_pure (v := .bool false) (fun W => run_neint_of W rfl rfl rfl rfl) rfl ?_
  simp only [Act.put, List.setIfInBounds_toArray, List.set_cons_zero, List.set_cons_succ]
  refine wl_pure (v := .bool false) (fun _ => rfl) rfl ?_
  simp only [Act.put, List.setIfInBounds_toArray, List.set_cons_zero, List.set_cons_succ]
  refine wl_row hM7 1 (v := pv4 a) rfl rfl rfl rfl rowPt rfl ?_
  simp only [Act.put, List.setIfInBounds_toArray, List.set_cons_zero, List.set_cons_succ]
  refine wl_call hM7 (args := #[pv4 a]) (v := .string s) (fun W => run_call_fn W (enters_of Try.func12 rfl rfl) rfl (by simp [Act.eval])) (enc_of ha s het W7) rfl fun W8 hM8 => ?_
  simp only [Act.put, List.setIfInBounds_toArray, List.set_cons_zero, List.set_cons_succ]
  refine wl_pure (v := .string s) (fun _ => rfl) rfl ?_
  simp only [Act.put, List.setIfInBounds_toArray, List.set_cons_zero, List.set_cons_succ]
  refine wl_pure (v := .bool true) (fun W => run_bin_of rfl rfl rfl (bin_str_self s _ _ W)) rfl ?_
  simp only [Act.put, List.setIfInBounds_toArray, List.set_cons_zero, List.set_cons_succ]
  refine wl_pure (v := .bool true) (fun _ => rfl) rfl ?_
  simp only [Act.put, List.setIfInBounds_toArray, List.set_cons_zero, List.set_cons_succ]
  refine wl_pure (v := .bool true) (fun _ => rfl) rfl ?_
  simp only [Act.put, List.setIfInBounds_toArray, List.set_cons_zero, List.set_cons_succ]
  refine wl_pure (v := .bool true) (fun _ => rfl) rfl ?_
  simp only [Act.put, List.setIfInBounds_toArray, List.set_cons_zero, List.set_cons_succ]
  refine wl_call hM8 (args := #[]) (v := .bool true) (fun W => run_call_fn W (enters_of Try.func16 rfl rfl) rfl (by simp [Act.eval])) (lives21_any W8) rfl fun W9 hM9 => ?_
  simp only [Act.put, List.setIfInBounds_toArray, List.set_cons_zero, List.set_cons_succ]
  refine wl_pure (v := .bool true) (fun _ => rfl) rfl ?_
  simp only [Act.put, List.setIfInBounds_toArray, List.set_cons_zero, List.set_cons_succ]
  refine wl_pure (v := .bool true) (fun _ => rfl) rfl ?_
  simp only [Act.put, List.setIfInBounds_toArray, List.set_cons_zero, List.set_cons_succ]
  refine wpList_nil ?_
  (go_step; go_step; go_step; refine bodyPost_ret (v := .bool true) (results_slot Try.results4 rfl) rfl ⟨?_, hM9.below⟩)
  exact rfl
set_option maxRecDepth 20000 in
set_option maxHeartbeats 8000000 in
theorem reads_no (s : ByteArray) {a : N4} {b : N3} {p : Pt} (e : Nat) (he : ¬ e = 0) (ha : Ok4 a p) (hb : Ok3 b p) (KD : Hid (∀ w, Calls Try.prog 13 #[.string s] w fun E w' => E = .returned (.tuple #[pv4 a, .int .i64 (e : Int)]) ∧ Below w.heap.size w w')) (KR : Hid (∀ w, Calls Try.prog 17 #[.string s] w fun E w' => E = .returned (.tuple #[pv3 b, .int .i64 (e : Int)]) ∧ Below w.heap.size w w')) (w : World) : Calls Try.prog 4 #[.string s] w fun e w' => e = .returned (.bool true) ∧ Below w.heap.size w w' := by
  have HMIX := Lib.hid (show Try.prog.follows .mixedOrders = true by kernel_rfl)
  go_enter Try.func4, Try.ntmps4
  have hM0 := Mem.start w
  (go_step; go_step; refine wp_region_lit ?_)
  refine wl_pure (v := .bool false) (fun _ => rfl) rfl ?_
  simp only [Act.put, List.setIfInBounds_toArray, List.set_cons_zero, List.set_cons_succ]
  refine wpList_nil ?_
  (go_step; go_step; go_step; refine wp_region_lit ?_)
  refine wl_pure (v := .string s) (fun _ => rfl) rfl ?_
  simp only [Act.put, List.setIfInBounds_toArray, List.set_cons_zero, List.set_cons_succ]
  refine wl_call hM0 (args := #[.string s]) (v := .tuple #[pv4 a, .int .i64 (e : Int)]) (fun W => run_call_fn W (enters_of Try.func13 rfl rfl) rfl (by simp [Act.eval])) (KD.out w) rfl fun W1 hM1 => ?_
  simp only [Act.put, List.setIfInBounds_toArray, List.set_cons_zero, List.set_cons_succ]
  refine wl_pure (v := .tuple #[pv4 a, .int .i64 (e : Int)]) (fun _ => rfl) rfl ?_
  simp only [Act.put, List.setIfInBounds_toArray, List.set_cons_zero, List.set_cons_succ]
  refine wl_pure (v := pv4 a) (fun _ => rfl) rfl ?_
  simp only [Act.put, List.setIfInBounds_toArray, List.set_cons_zero, List.set_cons_succ]
  refine wl_pure (v := .int .i64 (e : Int)) (fun _ => rfl) rfl ?_
  simp only [Act.put, List.setIfInBounds_toArray, List.set_cons_zero, List.set_cons_succ]
  refine wl_new hM1 (f := fun b => .pointer (some ⟨b, 0, none⟩)) (ob := .cells z16 30 (0, 0)) (fun W => run_alloc_of rfl (al_Pt W)) rfl fun b1 W2 hM2 => ?_
  simp only [Act.put, List.setIfInBounds_toArray, List.set_cons_zero, List.set_cons_succ]
  refine wl_set hM2 0 (cs := ((pc4 a))) rfl rfl rfl rfl rowPt rfl (one_p4 _) rfl rfl fun W3 hM3 => ?_
  simp only [List.set_cons_zero, List.set_cons_succ] at hM3
  refine wl_pure (v := .int .i64 (e : Int)) (fun _ => rfl) rfl ?_
  simp only [Act.put, List.setIfInBounds_toArray, List.set_cons_zero, List.set_cons_succ]
  refine wpList_nil ?_
  (go_step; go_step; go_step; refine wp_region_lit ?_)
  refine wl_pure (v := .string s) (fun _ => rfl) rfl ?_
  simp only [Act.put, List.setIfInBounds_toArray, List.set_cons_zero, List.set_cons_succ]
  refine wl_call hM3 (args := #[.string s]) (v := .tuple #[pv3 b, .int .i64 (e : Int)]) (fun W => run_call_fn W (enters_of Try.func17 rfl rfl) rfl (by simp [Act.eval])) (KR.out W3) rfl fun W4 hM4 => ?_
  simp only [Act.put, List.setIfInBounds_toArray, List.set_cons_zero, List.set_cons_succ]
  refine wl_pure (v := .tuple #[pv3 b, .int .i64 (e : Int)]) (fun _ => rfl) rfl ?_
  simp only [Act.put, List.setIfInBounds_toArray, List.set_cons_zero, List.set_cons_succ]
  refine wl_pure (v := pv3 b) (fun _ => rfl) rfl ?_
  simp only [Act.put, List.setIfInBounds_toArray, List.set_cons_zero, List.set_cons_succ]
  refine wl_pure (v := .int .i64 (e : Int)) (fun _ => rfl) rfl ?_
  simp only [Act.put, List.setIfInBounds_toArray, List.set_cons_zero, List.set_cons_succ]
  refine wl_new hM4 (f := fun b => .pointer (some ⟨b, 0, none⟩)) (ob := .cells z12 32 (0, 0)) (fun W => run_alloc_of rfl (al_Rp W)) rfl fun b2 W5 hM5 => ?_
  simp only [Act.put, List.setIfInBounds_toArray, List.set_cons_zero, List.set_cons_succ]
  refine wl_set hM5 0 (cs := ((rpL b.1 b.2.1 b.2.2).toArray)) rfl rfl rfl rfl rowRp rfl (one_rp _ _ _) rfl rfl fun W6 hM6 => ?_
  simp only [List.set_cons_zero, List.set_cons_succ] at hM6
  refine wl_pure (v := .int .i64 (e : Int)) (fun _ => rfl) rfl ?_
  simp only [Act.put, List.setIfInBounds_toArray, List.set_cons_zero, List.set_cons_succ]
  refine wpList_nil ?_
  (go_step; go_step; go_step; refine wp_region_lit ?_)
  refine wl_pure (v := .int .i64 (e : Int)) (fun _ => rfl) rfl ?_
  simp only [Act.put, List.setIfInBounds_toArray, List.set_cons_zero, List.set_cons_succ]
  refine wl_pure (v := .int .i64 (e : Int)) (fun _ => rfl) rfl ?_
  simp only [Act.put, List.setIfInBounds_toArray, List.set_cons_zero, List.set_cons_succ]
  refine wl_pure (v := .bool true) (fun W => run_bin_of rfl rfl rfl (bin_int_self e _ _ W)) rfl ?_
  simp only [Act.put, List.setIfInBounds_toArray, List.set_cons_zero, List.set_cons_succ]
  refine wl_pure (v := .bool true) (fun _ => rfl) rfl ?_
  simp only [Act.put, List.setIfInBounds_toArray, List.set_cons_zero, List.set_cons_succ]
  refine wl_row hM6 1 (v := pv4 a) rfl rfl rfl rfl rowPt rfl ?_
  simp only [Act.put, List.setIfInBounds_toArray, List.set_cons_zero, List.set_cons_succ]
  refine wl_row hM6 0 (v := pv3 b) rfl rfl rfl rfl rowRp rfl ?_
  simp only [Act.put, List.setIfInBounds_toArray, List.set_cons_zero, List.set_cons_succ]
  refine wl_call hM6 (args := #[pv4 a, pv3 b]) (v := .bool true) (fun W => run_call_fn W (enters_of Try.func18 rfl rfl) rfl (by simp [Act.eval])) (is_yes ha hb W6) rfl fun W7 hM7 => ?_
  simp only [Act.put, List.setIfInBounds_toArray, List.set_cons_zero, List.set_cons_succ]
  refine wl_pure (v := .bool true) (fun _ => rfl) rfl ?_
  simp only [Act.put, List.setIfInBounds_toArray, List.set_cons_zero, List.set_cons_succ]
  refine wl_pure (v := .bool true) (fun _ => rfl) rfl ?_
  simp only [Act.put, List.setIfInBounds_toArray, List.set_cons_zero, List.set_cons_succ]
  refine wl_pure (v := .int .i64 (e : Int)) (fun _ => rfl) rfl ?_
  simp only [Act.put, List.setIfInBounds_toArray, List.set_cons_zero, List.set_cons_succ]
  refine wl_pure (v := .bool true) (fun W => run_bin_of rfl rfl rfl (by rw [show true = !decide (e = 0) by rw [decide_eq_false he]; rfl]; exact bin_int_zero e _ _ W)) rfl ?_
  simp only [Act.put, List.setIfInBounds_toArray, List.set_cons_zero, List.set_cons_succ]
  refine wl_pure (v := .bool true) (fun _ => rfl) rfl ?_
  simp only [Act.put, List.setIfInBounds_toArray, List.set_cons_zero, List.set_cons_succ]
  refine wl_skip rfl ?_
  simp only [Act.put, List.setIfInBounds_toArray, List.set_cons_zero, List.set_cons_succ]
  refine wl_skip rfl ?_
  simp only [Act.put, List.setIfInBounds_toArray, List.set_cons_zero, List.set_cons_succ]
  refine wl_skip rfl ?_
  simp only [Act.put, List.setIfInBounds_toArray, List.set_cons_zero, List.set_cons_succ]
  refine wl_skip rfl ?_
  simp only [Act.put, List.setIfInBounds_toArray, List.set_cons_zero, List.set_cons_succ]
  refine wl_pure (v := .bool true) (fun _ => rfl) rfl ?_
  simp only [Act.put, List.setIfInBounds_toArray, List.set_cons_zero, List.set_cons_succ]
  refine wl_pure (v := .bool true) (fun _ => rfl) rfl ?_
  simp only [Act.put, List.setIfInBounds_toArray, List.set_cons_zero, List.set_cons_succ]
  refine wl_pure (v := .bool true) (fun _ => rfl) rfl ?_
  simp only [Act.put, List.setIfInBounds_toArray, List.set_cons_zero, List.set_cons_succ]
  refine wl_call hM7 (args := #[]) (v := .bool true) (fun W => run_call_fn W (enters_of Try.func16 rfl rfl) rfl (by simp [Act.eval])) (lives21_any W7) rfl fun W8 hM8 => ?_
  simp only [Act.put, List.setIfInBounds_toArray, List.set_cons_zero, List.set_cons_succ]
  refine wl_pure (v := .bool true) (fun _ => rfl) rfl ?_
  simp only [Act.put, List.setIfInBounds_toArray, List.set_cons_zero, List.set_cons_succ]
  refine wl_pure (v := .bool true) (fun _ => rfl) rfl ?_
  simp only [Act.put, List.setIfInBounds_toArray, List.set_cons_zero, List.set_cons_succ]
  refine wpList_nil ?_
  (go_step; go_step; go_step; refine bodyPost_ret (v := .bool true) (results_slot Try.results4 rfl) rfl ⟨?_, hM8.below⟩)
  exact rfl
theorem pcodeReads_walk (s : ByteArray) (w : World) (ws : s.size ≤ 9223372036854775807) : Calls Try.prog 4 #[.string s] w fun e w' => e = .returned (.bool true) ∧ Below w.heap.size w w' := by
  by_cases hs : s.size = 32
  · obtain ⟨a, ha, KD⟩ := decode_any s hs
    obtain ⟨b, hb, KR⟩ := rdecode_any s hs
    by_cases he : decE (leN s.data.toList) = 0
    · have het := enc_of_dec _ (leN_B s hs) he
      have hback := leN_back s hs
      rw [he] at KD KR
      exact reads_ok s ha hb KD KR (by rw [het, hback]) w
    · exact reads_no s _ he ha hb KD KR w
  · exact reads_no s 1 (by decide) ok4_zero ok3_zero (fun w => dec_short s hs w) (fun w => rdec_short s hs w) w
end Go.Proofs.Ytigfoophimjgdaa
