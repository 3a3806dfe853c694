/- The reference's Decode (layer 21): its contract. The laws of the curve (layer 20): they return true. -/
import Derived.Test.YtigfoophimjgdaaK23
import Derived.Test.YtigfoophimjgdaaK25
namespace Go.Proofs.Ytigfoophimjgdaa
set_option maxRecDepth 20000
set_option linter.unusedSimpArgs false
set_option linter.unusedVariables false
open Go.RowKit Go.Sort
theorem bin_quo_top (a : Nat) (h : a < 18446744073709551616) (x y : Operand) (W : World) : (do eqGuard .quo 23 x y (.int .u64 (a : Int)) (.int .u64 9223372036854775808); binOp .quo 23 (.int .u64 (a : Int)) (.int .u64 9223372036854775808) : Sem Value).run Try.prog W = .ok (.int .u64 ((a / 9223372036854775808 : Nat) : Int)) W := by
  have e : ((a : Int).tdiv 9223372036854775808) = ((a / 9223372036854775808 : Nat) : Int) := by rw [Int.tdiv_eq_ediv_of_nonneg (by omega)]; omega
  have e2 : IntKind.u64.wrap ((a / 9223372036854775808 : Nat) : Int) = ((a / 9223372036854775808 : Nat) : Int) := IntWalk.u64_in _ (by omega)
  have e3 : (a : Int) / 9223372036854775808 = ((a / 9223372036854775808 : Nat) : Int) := by omega
  obtain ⟨m, hm⟩ : ∃ m, a / 9223372036854775808 = m := ⟨_, rfl⟩
  rw [hm] at e e2 e3 ⊢
  go_simp
theorem bin_rem_top (a : Nat) (x y : Operand) (W : World) : (do eqGuard .rem 23 x y (.int .u64 (a : Int)) (.int .u64 9223372036854775808); binOp .rem 23 (.int .u64 (a : Int)) (.int .u64 9223372036854775808) : Sem Value).run Try.prog W = .ok (.int .u64 ((a % 9223372036854775808 : Nat) : Int)) W := by
  have e : ((a : Int).tmod 9223372036854775808) = ((a % 9223372036854775808 : Nat) : Int) := by rw [Int.tmod_eq_emod_of_nonneg (by omega)]; omega
  have e2 : IntKind.u64.wrap ((a % 9223372036854775808 : Nat) : Int) = ((a % 9223372036854775808 : Nat) : Int) := IntWalk.u64_in _ (by omega)
  have e3 : (a : Int) % 9223372036854775808 = ((a % 9223372036854775808 : Nat) : Int) := by omega
  obtain ⟨m, hm⟩ : ∃ m, a % 9223372036854775808 = m := ⟨_, rfl⟩
  rw [hm] at e e2 e3 ⊢
  go_simp
theorem bin_neq_nu4 (a b : Nat) (x y : Operand) (W : World) (ha : a < B64 ^ 4) (hb : b < B64 ^ 4) : (do eqGuard .neq 24 x y (numV a) (numV b); binOp .neq 24 (numV a) (numV b) : Sem Value).run Try.prog W = .ok (.bool (!decide (a = b))) W := by
  have h := fun w => eql_arrN w a b ha hb
  unfold numV at h ⊢
  go_simp
theorem bin_eq_s32 (n : Nat) (x y : Operand) (W : World) : (do eqGuard .neq 3 x y (.int .i64 (n : Int)) (.int .i64 32); binOp .neq 3 (.int .i64 (n : Int)) (.int .i64 32) : Sem Value).run Try.prog W = .ok (.bool (!decide (n = 32))) W := by
  have e : ((n : Int) == 32) = decide (n = 32) := by
    rw [Bool.eq_iff_iff]
    simp
    omega
  go_simp
  rw [bne, e]
theorem top_bit (N : Nat) : wd N 3 / 9223372036854775808 = bitN N 255 := by
  have h := wd_bit N 255
  have h1 := wd_lt N 3
  rw [show (255 / 64 : Nat) = 3 from rfl, show (255 % 64 : Nat) = 63 from rfl, show (2 ^ 63 : Nat) = 9223372036854775808 by decide] at h
  rw [← h]
  omega
set_option maxRecDepth 20000 in
set_option maxHeartbeats 8000000 in
theorem rdec_short (s : ByteArray) (hs : s.size ≠ 32) (w : World) : Calls Try.prog 17 #[.string s] w fun E w' => E = .returned (.tuple #[pv3 ((0, 1, 1)), .int .i64 1]) ∧ Below w.heap.size w w' := by
  have HMIX := Lib.hid (show Try.prog.follows .mixedOrders = true by kernel_rfl)
  go_enter Try.func17, Try.ntmps17
  have hM0 := Mem.start w
  (go_step; go_step; refine wp_region_lit ?_)
  refine wl_new hM0 (f := fun b => .pointer (some ⟨b, 0, none⟩)) (ob := .cells z12 32 (0, 0)) (fun W => run_alloc_of rfl (al_Rp W)) rfl fun b1 W1 hM1 => ?_
  simp only [Act.put, List.setIfInBounds_toArray, List.set_cons_zero, List.set_cons_succ]
  refine wl_pure (v := .int .i64 0) (fun _ => rfl) rfl ?_
  simp only [Act.put, List.setIfInBounds_toArray, List.set_cons_zero, List.set_cons_succ]
  refine wpList_nil ?_
  (go_step; go_step; go_step; go_step; refine wp_region_lit ?_)
  refine wl_pure (v := .string s) (fun _ => rfl) rfl ?_
  simp only [Act.put, List.setIfInBounds_toArray, List.set_cons_zero, List.set_cons_succ]
  refine wl_pure (v := .int .i64 (s.size : Int)) (fun W => run_len_str W rfl (by simp [Act.eval]) rfl Try.underlying9) rfl ?_
  simp only [Act.put, List.setIfInBounds_toArray, List.set_cons_zero, List.set_cons_succ]
  refine wl_pure (v := .bool true) (fun W => run_bin_of rfl rfl rfl (by rw [show true = !decide (s.size = 32) from by rw [decide_eq_false hs]; rfl]; exact bin_eq_s32 _ _ _ W)) rfl ?_
  simp only [Act.put, List.setIfInBounds_toArray, List.set_cons_zero, List.set_cons_succ]
  refine wpList_nil ?_
  (go_step; go_step; go_step; go_step; refine wp_region_lit ?_)
  refine wl_call hM1 (args := #[]) (v := pv3 ((0, 1, 1))) (fun W => run_call_fn W (enters_of Try.func38 rfl rfl) rfl (by simp [Act.eval])) (rzero_any W1) rfl fun W2 hM2 => ?_
  simp only [Act.put, List.setIfInBounds_toArray, List.set_cons_zero, List.set_cons_succ]
  refine wl_set hM2 0 (cs := ((rpL ((0, 1, 1)).1 ((0, 1, 1)).2.1 ((0, 1, 1)).2.2).toArray)) rfl rfl rfl rfl rowRp rfl (one_rp _ _ _) rfl rfl fun W3 hM3 => ?_
  simp only [List.set_cons_zero, List.set_cons_succ] at hM3
  refine wl_pure (v := .int .i64 1) (fun _ => rfl) rfl ?_
  simp only [Act.put, List.setIfInBounds_toArray, List.set_cons_zero, List.set_cons_succ]
  refine wpList_nil ?_
  (go_step; go_step; go_step; go_step; refine bodyPost_ret (v := .tuple #[pv3 ((0, 1, 1)), .int .i64 1]) (results_arr_tmp Try.results17 rfl rfl (hM3.load 0 rfl rowRp)) rfl ⟨?_, hM3.below⟩)
  exact rfl
set_option maxRecDepth 20000 in
set_option maxHeartbeats 8000000 in
theorem rdec_range (s : ByteArray) (hs : s.size = 32) (N m bb : Nat) (hN : leN s.data.toList = N) (em : m = N % (9223372036854775808 * B64 ^ 3)) (hmB : m < B64 ^ 4) (hbb : wd N 3 / 9223372036854775808 = bb) (hm : ¬ m < PN) (w : World) : Calls Try.prog 17 #[.string s] w fun E w' => E = .returned (.tuple #[pv3 ((0, 1, 1)), .int .i64 2]) ∧ Below w.heap.size w w' := by
  have HMIX := Lib.hid (show Try.prog.follows .mixedOrders = true by kernel_rfl)
  have KN := Lib.hid (fun w => number_any s hs w)
  rw [hN] at KN
  clear hN
  have KMod := Lib.hid (fun w => rmod_any m w hmB)
  obtain ⟨mm, emm⟩ : ∃ x, x = m % PN := ⟨_, rfl⟩
  rw [← emm] at KMod
  have hmmB : mm < B64 ^ 4 := by rw [emm]; exact of_PN (Nat.mod_lt _ PN_pos)
  have hmm : ¬ mm = m := by intro e; rw [emm] at e; exact hm (by rw [← e]; exact Nat.mod_lt _ PN_pos)
  clear emm
  go_enter Try.func17, Try.ntmps17
  have hM0 := Mem.start w
  (go_step; go_step; refine wp_region_lit ?_)
  refine wl_new hM0 (f := fun b => .pointer (some ⟨b, 0, none⟩)) (ob := .cells z12 32 (0, 0)) (fun W => run_alloc_of rfl (al_Rp W)) rfl fun b1 W1 hM1 => ?_
  simp only [Act.put, List.setIfInBounds_toArray, List.set_cons_zero, List.set_cons_succ]
  refine wl_pure (v := .int .i64 0) (fun _ => rfl) rfl ?_
  simp only [Act.put, List.setIfInBounds_toArray, List.set_cons_zero, List.set_cons_succ]
  refine wpList_nil ?_
  (go_step; go_step; go_step; go_step; refine wp_region_lit ?_)
  refine wl_pure (v := .string s) (fun _ => rfl) rfl ?_
  simp only [Act.put, List.setIfInBounds_toArray, List.set_cons_zero, List.set_cons_succ]
  refine wl_pure (v := .int .i64 (s.size : Int)) (fun W => run_len_str W rfl (by simp [Act.eval]) rfl Try.underlying9) rfl ?_
  simp only [Act.put, List.setIfInBounds_toArray, List.set_cons_zero, List.set_cons_succ]
  refine wl_pure (v := .bool false) (fun W => run_bin_of rfl rfl rfl (by rw [show false = !decide (s.size = 32) from by rw [decide_eq_true hs]; rfl]; exact bin_eq_s32 _ _ _ W)) rfl ?_
  simp only [Act.put, List.setIfInBounds_toArray, List.set_cons_zero, List.set_cons_succ]
  refine wpList_nil ?_
  (go_step; go_step; go_step; go_step; go_step; go_step; go_step; refine wp_region_lit ?_)
  refine wl_pure (v := .string s) (fun _ => rfl) rfl ?_
  simp only [Act.put, List.setIfInBounds_toArray, List.set_cons_zero, List.set_cons_succ]
  refine wl_call hM1 (args := #[.string s]) (v := numV N) (fun W => run_call_fn W (enters_of Try.func61 rfl rfl) rfl (by simp [Act.eval])) (KN.out W1) rfl fun W2 hM2 => ?_
  simp only [Act.put, List.setIfInBounds_toArray, List.set_cons_zero, List.set_cons_succ]
  refine wl_new hM2 (f := fun b => .pointer (some ⟨b, 0, none⟩)) (ob := .cells z4 24 (0, 0)) (fun W => run_alloc_of rfl (al_Nu W)) rfl fun b2 W3 hM3 => ?_
  simp only [Act.put, List.setIfInBounds_toArray, List.set_cons_zero, List.set_cons_succ]
  refine wl_set hM3 0 (cs := (elR N)) rfl rfl rfl rfl rowNu rfl (one_el N) rfl rfl fun W4 hM4 => ?_
  simp only [List.set_cons_zero, List.set_cons_succ] at hM4
  refine wpList_nil ?_
  (go_step; go_step; go_step; refine wp_region_lit ?_)
  refine wl_pure (v := .pointer (some ⟨b2, 3, none⟩)) (fun W => run_index_of rfl rfl rfl (ix_Nu3 b2 W)) rfl ?_
  simp only [Act.put, List.setIfInBounds_toArray, List.set_cons_zero, List.set_cons_succ]
  refine wl_cell hM4 0 (v := .int .u64 (wd N 3 : Int)) rfl rfl rfl rfl cellU rfl ?_
  simp only [Act.put, List.setIfInBounds_toArray, List.set_cons_zero, List.set_cons_succ]
  refine wl_pure (v := .int .u64 (bb : Int)) (fun W => run_bin_of rfl rfl rfl (by rw [← hbb]; exact bin_quo_top _ (wd_lt _ _) _ _ W)) rfl ?_
  simp only [Act.put, List.setIfInBounds_toArray, List.set_cons_zero, List.set_cons_succ]
  refine wl_pure (v := .int .u64 (bb : Int)) (fun _ => rfl) rfl ?_
  simp only [Act.put, List.setIfInBounds_toArray, List.set_cons_zero, List.set_cons_succ]
  refine wpList_nil ?_
  (go_step; go_step; go_step; refine wp_region_lit ?_)
  refine wl_pure (v := .pointer (some ⟨b2, 3, none⟩)) (fun W => run_index_of rfl rfl rfl (ix_Nu3 b2 W)) rfl ?_
  simp only [Act.put, List.setIfInBounds_toArray, List.set_cons_zero, List.set_cons_succ]
  refine wl_cell hM4 0 (v := .int .u64 (wd N 3 : Int)) rfl rfl rfl rfl cellU rfl ?_
  simp only [Act.put, List.setIfInBounds_toArray, List.set_cons_zero, List.set_cons_succ]
  refine wl_pure (v := .int .u64 (((wd N 3) % 9223372036854775808 : Nat) : Int)) (fun W => run_bin_of rfl rfl rfl (bin_rem_top (wd N 3) _ _ W)) rfl ?_
  simp only [Act.put, List.setIfInBounds_toArray, List.set_cons_zero, List.set_cons_succ]
  refine wl_pure (v := .pointer (some ⟨b2, 3, none⟩)) (fun W => run_index_of rfl rfl rfl (ix_Nu3 b2 W)) rfl ?_
  simp only [Act.put, List.setIfInBounds_toArray, List.set_cons_zero, List.set_cons_succ]
  refine wl_setat hM4 0 (cs' := (elR m)) rfl rfl rfl rfl (by show 3 < 4; decide) (by rw [em]; exact num_low N) cellU rfl rfl rfl fun W5 hM5 => ?_
  simp only [List.set_cons_zero, List.set_cons_succ] at hM5
  refine wpList_nil ?_
  (go_step; go_step; go_step; go_step; refine wp_region_inw 4 HMIX.out (by decide) (by kernel_rfl) (by kernel_rfl) ?_)
  refine inw_row hM5 0 (v := numV m) rfl rfl rfl rfl rowNu rfl rfl ?_; simp only [Act.put, List.setIfInBounds_toArray, List.set_cons_zero, List.set_cons_succ]
  refine inw_callV (args := #[numV m]) (v := numV mm) (fun W => run_call_fn W (enters_of Try.func62 rfl rfl) rfl (by simp [Act.eval])) (fun W _ => KMod.out W) rfl rfl ?_; simp only [Act.put, List.setIfInBounds_toArray, List.set_cons_zero, List.set_cons_succ]
  refine inw_row hM5 0 (v := numV m) rfl rfl rfl rfl rowNu rfl rfl ?_; simp only [Act.put, List.setIfInBounds_toArray, List.set_cons_zero, List.set_cons_succ]
  refine inw_pure (v := .bool true) (fun W => run_bin_of rfl rfl rfl (by rw [show true = !decide (mm = m) from by rw [decide_eq_false hmm]; rfl]; exact bin_neq_nu4 mm m _ _ W hmmB hmB)) rfl rfl ?_; simp only [Act.put, List.setIfInBounds_toArray, List.set_cons_zero, List.set_cons_succ]
  refine inw_fin fun d os => ?_
  refine given_nil fun hap => ?_
  have hM6 := hM5.calls (below_regrown W5 d os)
  clear hap 
  generalize grow (redrawn W5 d) os = W6 at hM6 ⊢
  refine wpAny_done (by kernel_rfl) ?_ _
  (go_step; go_step; go_step; go_step; refine wp_region_lit ?_)
  refine wl_call hM6 (args := #[]) (v := pv3 ((0, 1, 1))) (fun W => run_call_fn W (enters_of Try.func38 rfl rfl) rfl (by simp [Act.eval])) (rzero_any W6) rfl fun W7 hM7 => ?_
  simp only [Act.put, List.setIfInBounds_toArray, List.set_cons_zero, List.set_cons_succ]
  refine wl_set hM7 1 (cs := ((rpL ((0, 1, 1)).1 ((0, 1, 1)).2.1 ((0, 1, 1)).2.2).toArray)) rfl rfl rfl rfl rowRp rfl (one_rp _ _ _) rfl rfl fun W8 hM8 => ?_
  simp only [List.set_cons_zero, List.set_cons_succ] at hM8
  refine wl_pure (v := .int .i64 2) (fun _ => rfl) rfl ?_
  simp only [Act.put, List.setIfInBounds_toArray, List.set_cons_zero, List.set_cons_succ]
  refine wpList_nil ?_
  (go_step; go_step; go_step; go_step; refine bodyPost_ret (v := .tuple #[pv3 ((0, 1, 1)), .int .i64 2]) (results_arr_tmp Try.results17 rfl rfl (hM8.load 1 rfl rowRp)) rfl ⟨?_, hM8.below⟩)
  exact rfl
set_option maxRecDepth 20000 in
set_option maxHeartbeats 8000000 in
theorem rdec_no (s : ByteArray) (hs : s.size = 32) (N m bb x : Nat) (hN : leN s.data.toList = N) (em : m = N % (9223372036854775808 * B64 ^ 3)) (hmB : m < B64 ^ 4) (hbb : wd N 3 / 9223372036854775808 = bb) (hm : m < PN) (ex : x = rootN iV (sqR m)) (hok : okN iV (sqR m) = false) (w : World) : Calls Try.prog 17 #[.string s] w fun E w' => E = .returned (.tuple #[pv3 ((0, 1, 1)), .int .i64 22]) ∧ Below w.heap.size w w' := by
  have HMIX := Lib.hid (show Try.prog.follows .mixedOrders = true by kernel_rfl)
  have KN := Lib.hid (fun w => number_any s hs w)
  rw [hN] at KN
  clear hN
  have KMod := Lib.hid (fun w => rmod_any m w hmB)
  obtain ⟨mm, emm⟩ : ∃ x, x = m % PN := ⟨_, rfl⟩
  rw [← emm] at KMod
  have hmmB : mm < B64 ^ 4 := by rw [emm]; exact of_PN (Nat.mod_lt _ PN_pos)
  have hmm : mm = m := by rw [emm]; exact Nat.mod_eq_of_lt hm
  clear emm
  have hx : x < PN := by rw [ex]; exact rootN_below _
  obtain ⟨sq, esq⟩ : ∃ y, y = sqR m := ⟨_, rfl⟩
  have hsq : sq < PN := by rw [esq]; exact sqR_lt _
  have KS := Lib.hid (fun w => rsquare_any m w hm)
  rw [← esq] at KS ex hok
  have KR := Lib.hid (fun w => rroot' sq w hsq)
  rw [← ex, hok] at KR
  clear ex hok
  go_enter Try.func17, Try.ntmps17
  have hM0 := Mem.start w
  (go_step; go_step; refine wp_region_lit ?_)
  refine wl_new hM0 (f := fun b => .pointer (some ⟨b, 0, none⟩)) (ob := .cells z12 32 (0, 0)) (fun W => run_alloc_of rfl (al_Rp W)) rfl fun b1 W1 hM1 => ?_
  simp only [Act.put, List.setIfInBounds_toArray, List.set_cons_zero, List.set_cons_succ]
  refine wl_pure (v := .int .i64 0) (fun _ => rfl) rfl ?_
  simp only [Act.put, List.setIfInBounds_toArray, List.set_cons_zero, List.set_cons_succ]
  refine wpList_nil ?_
  (go_step; go_step; go_step; go_step; refine wp_region_lit ?_)
  refine wl_pure (v := .string s) (fun _ => rfl) rfl ?_
  simp only [Act.put, List.setIfInBounds_toArray, List.set_cons_zero, List.set_cons_succ]
  refine wl_pure (v := .int .i64 (s.size : Int)) (fun W => run_len_str W rfl (by simp [Act.eval]) rfl Try.underlying9) rfl ?_
  simp only [Act.put, List.setIfInBounds_toArray, List.set_cons_zero, List.set_cons_succ]
  refine wl_pure (v := .bool false) (fun W => run_bin_of rfl rfl rfl (by rw [show false = !decide (s.size = 32) from by rw [decide_eq_true hs]; rfl]; exact bin_eq_s32 _ _ _ W)) rfl ?_
  simp only [Act.put, List.setIfInBounds_toArray, List.set_cons_zero, List.set_cons_succ]
  refine wpList_nil ?_
  (go_step; go_step; go_step; go_step; go_step; go_step; go_step; refine wp_region_lit ?_)
  refine wl_pure (v := .string s) (fun _ => rfl) rfl ?_
  simp only [Act.put, List.setIfInBounds_toArray, List.set_cons_zero, List.set_cons_succ]
  refine wl_call hM1 (args := #[.string s]) (v := numV N) (fun W => run_call_fn W (enters_of Try.func61 rfl rfl) rfl (by simp [Act.eval])) (KN.out W1) rfl fun W2 hM2 => ?_
  simp only [Act.put, List.setIfInBounds_toArray, List.set_cons_zero, List.set_cons_succ]
  refine wl_new hM2 (f := fun b => .pointer (some ⟨b, 0, none⟩)) (ob := .cells z4 24 (0, 0)) (fun W => run_alloc_of rfl (al_Nu W)) rfl fun b2 W3 hM3 => ?_
  simp only [Act.put, List.setIfInBounds_toArray, List.set_cons_zero, List.set_cons_succ]
  refine wl_set hM3 0 (cs := (elR N)) rfl rfl rfl rfl rowNu rfl (one_el N) rfl rfl fun W4 hM4 => ?_
  simp only [List.set_cons_zero, List.set_cons_succ] at hM4
  refine wpList_nil ?_
  (go_step; go_step; go_step; refine wp_region_lit ?_)
  refine wl_pure (v := .pointer (some ⟨b2, 3, none⟩)) (fun W => run_index_of rfl rfl rfl (ix_Nu3 b2 W)) rfl ?_
  simp only [Act.put, List.setIfInBounds_toArray, List.set_cons_zero, List.set_cons_succ]
  refine wl_cell hM4 0 (v := .int .u64 (wd N 3 : Int)) rfl rfl rfl rfl cellU rfl ?_
  simp only [Act.put, List.setIfInBounds_toArray, List.set_cons_zero, List.set_cons_succ]
  refine wl_pure (v := .int .u64 (bb : Int)) (fun W => run_bin_of rfl rfl rfl (by rw [← hbb]; exact bin_quo_top _ (wd_lt _ _) _ _ W)) rfl ?_
  simp only [Act.put, List.setIfInBounds_toArray, List.set_cons_zero, List.set_cons_succ]
  refine wl_pure (v := .int .u64 (bb : Int)) (fun _ => rfl) rfl ?_
  simp only [Act.put, List.setIfInBounds_toArray, List.set_cons_zero, List.set_cons_succ]
  refine wpList_nil ?_
  (go_step; go_step; go_step; refine wp_region_lit ?_)
  refine wl_pure (v := .pointer (some ⟨b2, 3, none⟩)) (fun W => run_index_of rfl rfl rfl (ix_Nu3 b2 W)) rfl ?_
  simp only [Act.put, List.setIfInBounds_toArray, List.set_cons_zero, List.set_cons_succ]
  refine wl_cell hM4 0 (v := .int .u64 (wd N 3 : Int)) rfl rfl rfl rfl cellU rfl ?_
  simp only [Act.put, List.setIfInBounds_toArray, List.set_cons_zero, List.set_cons_succ]
  refine wl_pure (v := .int .u64 (((wd N 3) % 9223372036854775808 : Nat) : Int)) (fun W => run_bin_of rfl rfl rfl (bin_rem_top (wd N 3) _ _ W)) rfl ?_
  simp only [Act.put, List.setIfInBounds_toArray, List.set_cons_zero, List.set_cons_succ]
  refine wl_pure (v := .pointer (some ⟨b2, 3, none⟩)) (fun W => run_index_of rfl rfl rfl (ix_Nu3 b2 W)) rfl ?_
  simp only [Act.put, List.setIfInBounds_toArray, List.set_cons_zero, List.set_cons_succ]
  refine wl_setat hM4 0 (cs' := (elR m)) rfl rfl rfl rfl (by show 3 < 4; decide) (by rw [em]; exact num_low N) cellU rfl rfl rfl fun W5 hM5 => ?_
  simp only [List.set_cons_zero, List.set_cons_succ] at hM5
  refine wpList_nil ?_
  (go_step; go_step; go_step; go_step; refine wp_region_inw 4 HMIX.out (by decide) (by kernel_rfl) (by kernel_rfl) ?_)
  refine inw_row hM5 0 (v := numV m) rfl rfl rfl rfl rowNu rfl rfl ?_; simp only [Act.put, List.setIfInBounds_toArray, List.set_cons_zero, List.set_cons_succ]
  refine inw_callV (args := #[numV m]) (v := numV mm) (fun W => run_call_fn W (enters_of Try.func62 rfl rfl) rfl (by simp [Act.eval])) (fun W _ => KMod.out W) rfl rfl ?_; simp only [Act.put, List.setIfInBounds_toArray, List.set_cons_zero, List.set_cons_succ]
  refine inw_row hM5 0 (v := numV m) rfl rfl rfl rfl rowNu rfl rfl ?_; simp only [Act.put, List.setIfInBounds_toArray, List.set_cons_zero, List.set_cons_succ]
  refine inw_pure (v := .bool false) (fun W => run_bin_of rfl rfl rfl (by rw [show false = !decide (mm = m) from by rw [decide_eq_true hmm]; rfl]; exact bin_neq_nu4 mm m _ _ W hmmB hmB)) rfl rfl ?_; simp only [Act.put, List.setIfInBounds_toArray, List.set_cons_zero, List.set_cons_succ]
  refine inw_fin fun d os => ?_
  refine given_nil fun hap => ?_
  have hM6 := hM5.calls (below_regrown W5 d os)
  clear hap 
  generalize grow (redrawn W5 d) os = W6 at hM6 ⊢
  refine wpAny_done (by kernel_rfl) ?_ _
  (go_step; go_step; go_step; go_step; go_step; go_step; go_step; refine wp_region_lit ?_)
  refine wl_row hM6 0 (v := numV m) rfl rfl rfl rfl rowNu rfl ?_
  simp only [Act.put, List.setIfInBounds_toArray, List.set_cons_zero, List.set_cons_succ]
  refine wl_call hM6 (args := #[numV m]) (v := numV sq) (fun W => run_call_fn W (enters_of Try.func63 rfl rfl) rfl (by simp [Act.eval])) (KS.out W6) rfl fun W7 hM7 => ?_
  simp only [Act.put, List.setIfInBounds_toArray, List.set_cons_zero, List.set_cons_succ]
  refine wl_call hM7 (args := #[numV sq]) (v := .tuple #[numV x, .bool false]) (fun W => run_call_fn W (enters_of Try.func37 rfl rfl) rfl (by simp [Act.eval])) (KR.out W7) rfl fun W8 hM8 => ?_
  simp only [Act.put, List.setIfInBounds_toArray, List.set_cons_zero, List.set_cons_succ]
  refine wl_pure (v := .tuple #[numV x, .bool false]) (fun _ => rfl) rfl ?_
  simp only [Act.put, List.setIfInBounds_toArray, List.set_cons_zero, List.set_cons_succ]
  refine wl_pure (v := numV x) (fun _ => rfl) rfl ?_
  simp only [Act.put, List.setIfInBounds_toArray, List.set_cons_zero, List.set_cons_succ]
  refine wl_pure (v := .bool false) (fun _ => rfl) rfl ?_
  simp only [Act.put, List.setIfInBounds_toArray, List.set_cons_zero, List.set_cons_succ]
  refine wl_new hM8 (f := fun b => .pointer (some ⟨b, 0, none⟩)) (ob := .cells z4 24 (0, 0)) (fun W => run_alloc_of rfl (al_Nu W)) rfl fun b3 W9 hM9 => ?_
  simp only [Act.put, List.setIfInBounds_toArray, List.set_cons_zero, List.set_cons_succ]
  refine wl_set hM9 0 (cs := (elR x)) rfl rfl rfl rfl rowNu rfl (one_el x) rfl rfl fun W10 hM10 => ?_
  simp only [List.set_cons_zero, List.set_cons_succ] at hM10
  refine wl_pure (v := .bool false) (fun _ => rfl) rfl ?_
  simp only [Act.put, List.setIfInBounds_toArray, List.set_cons_zero, List.set_cons_succ]
  refine wpList_nil ?_
  (go_step; go_step; go_step; go_step; refine wp_region_inw 11 HMIX.out (by decide) (by kernel_rfl) (by kernel_rfl) ?_)
  refine inw_pure (v := .bool false) (fun _ => rfl) rfl rfl ?_; simp only [Act.put, List.setIfInBounds_toArray, List.set_cons_zero, List.set_cons_succ]
  refine inw_pure (v := .bool true) (fun W => run_not_of W rfl rfl rfl) rfl rfl ?_; simp only [Act.put, List.setIfInBounds_toArray, List.set_cons_zero, List.set_cons_succ]
  refine inw_pure (v := .bool true) (fun _ => rfl) rfl rfl ?_; simp only [Act.put, List.setIfInBounds_toArray, List.set_cons_zero, List.set_cons_succ]
  refine inw_skip rfl rfl ?_; simp only [Act.put, List.setIfInBounds_toArray, List.set_cons_zero, List.set_cons_succ]
  refine inw_skip rfl rfl ?_; simp only [Act.put, List.setIfInBounds_toArray, List.set_cons_zero, List.set_cons_succ]
  refine inw_skip rfl rfl ?_; simp only [Act.put, List.setIfInBounds_toArray, List.set_cons_zero, List.set_cons_succ]
  refine inw_skip rfl rfl ?_; simp only [Act.put, List.setIfInBounds_toArray, List.set_cons_zero, List.set_cons_succ]
  refine inw_skip rfl rfl ?_; simp only [Act.put, List.setIfInBounds_toArray, List.set_cons_zero, List.set_cons_succ]
  refine inw_skip rfl rfl ?_; simp only [Act.put, List.setIfInBounds_toArray, List.set_cons_zero, List.set_cons_succ]
  refine inw_skip rfl rfl ?_; simp only [Act.put, List.setIfInBounds_toArray, List.set_cons_zero, List.set_cons_succ]
  refine inw_pure (v := .bool true) (fun _ => rfl) rfl rfl ?_; simp only [Act.put, List.setIfInBounds_toArray, List.set_cons_zero, List.set_cons_succ]
  refine inw_fin fun d os => ?_
  refine given_nil fun hap => ?_
  have hM11 := hM10.calls (below_regrown W10 d os)
  clear hap 
  generalize grow (redrawn W10 d) os = W11 at hM11 ⊢
  refine wpAny_done (by kernel_rfl) ?_ _
  (go_step; go_step; go_step; go_step; refine wp_region_lit ?_)
  refine wl_call hM11 (args := #[]) (v := pv3 ((0, 1, 1))) (fun W => run_call_fn W (enters_of Try.func38 rfl rfl) rfl (by simp [Act.eval])) (rzero_any W11) rfl fun W12 hM12 => ?_
  simp only [Act.put, List.setIfInBounds_toArray, List.set_cons_zero, List.set_cons_succ]
  refine wl_set hM12 2 (cs := ((rpL ((0, 1, 1)).1 ((0, 1, 1)).2.1 ((0, 1, 1)).2.2).toArray)) rfl rfl rfl rfl rowRp rfl (one_rp _ _ _) rfl rfl fun W13 hM13 => ?_
  simp only [List.set_cons_zero, List.set_cons_succ] at hM13
  refine wl_pure (v := .int .i64 22) (fun _ => rfl) rfl ?_
  simp only [Act.put, List.setIfInBounds_toArray, List.set_cons_zero, List.set_cons_succ]
  refine wpList_nil ?_
  (go_step; go_step; go_step; go_step; refine bodyPost_ret (v := .tuple #[pv3 ((0, 1, 1)), .int .i64 22]) (results_arr_tmp Try.results17 rfl rfl (hM13.load 2 rfl rowRp)) rfl ⟨?_, hM13.below⟩)
  exact rfl
set_option maxRecDepth 20000 in
set_option maxHeartbeats 8000000 in
theorem rdec_bad (s : ByteArray) (hs : s.size = 32) (N m bb x : Nat) (hN : leN s.data.toList = N) (em : m = N % (9223372036854775808 * B64 ^ 3)) (hmB : m < B64 ^ 4) (hbb : wd N 3 / 9223372036854775808 = bb) (hm : m < PN) (ex : x = rootN iV (sqR m)) (hok : okN iV (sqR m) = true) (hb1 : bb = 1) (h0 : x = 0) (w : World) : Calls Try.prog 17 #[.string s] w fun E w' => E = .returned (.tuple #[pv3 ((0, 1, 1)), .int .i64 22]) ∧ Below w.heap.size w w' := by
  have HMIX := Lib.hid (show Try.prog.follows .mixedOrders = true by kernel_rfl)
  have KN := Lib.hid (fun w => number_any s hs w)
  rw [hN] at KN
  clear hN
  have KMod := Lib.hid (fun w => rmod_any m w hmB)
  obtain ⟨mm, emm⟩ : ∃ x, x = m % PN := ⟨_, rfl⟩
  rw [← emm] at KMod
  have hmmB : mm < B64 ^ 4 := by rw [emm]; exact of_PN (Nat.mod_lt _ PN_pos)
  have hmm : mm = m := by rw [emm]; exact Nat.mod_eq_of_lt hm
  clear emm
  have hx : x < PN := by rw [ex]; exact rootN_below _
  obtain ⟨sq, esq⟩ : ∃ y, y = sqR m := ⟨_, rfl⟩
  have hsq : sq < PN := by rw [esq]; exact sqR_lt _
  have KS := Lib.hid (fun w => rsquare_any m w hm)
  rw [← esq] at KS ex hok
  have KR := Lib.hid (fun w => rroot' sq w hsq)
  rw [← ex, hok] at KR
  clear ex hok
  go_enter Try.func17, Try.ntmps17
  have hM0 := Mem.start w
  (go_step; go_step; refine wp_region_lit ?_)
  refine wl_new hM0 (f := fun b => .pointer (some ⟨b, 0, none⟩)) (ob := .cells z12 32 (0, 0)) (fun W => run_alloc_of rfl (al_Rp W)) rfl fun b1 W1 hM1 => ?_
  simp only [Act.put, List.setIfInBounds_toArray, List.set_cons_zero, List.set_cons_succ]
  refine wl_pure (v := .int .i64 0) (fun _ => rfl) rfl ?_
  simp only [Act.put, List.setIfInBounds_toArray, List.set_cons_zero, List.set_cons_succ]
  refine wpList_nil ?_
  (go_step; go_step; go_step; go_step; refine wp_region_lit ?_)
  refine wl_pure (v := .string s) (fun _ => rfl) rfl ?_
  simp only [Act.put, List.setIfInBounds_toArray, List.set_cons_zero, List.set_cons_succ]
  refine wl_pure (v := .int .i64 (s.size : Int)) (fun W => run_len_str W rfl (by simp [Act.eval]) rfl Try.underlying9) rfl ?_
  simp only [Act.put, List.setIfInBounds_toArray, List.set_cons_zero, List.set_cons_succ]
  refine wl_pure (v := .bool false) (fun W => run_bin_of rfl rfl rfl (by rw [show false = !decide (s.size = 32) from by rw [decide_eq_true hs]; rfl]; exact bin_eq_s32 _ _ _ W)) rfl ?_
  simp only [Act.put, List.setIfInBounds_toArray, List.set_cons_zero, List.set_cons_succ]
  refine wpList_nil ?_
  (go_step; go_step; go_step; go_step; go_step; go_step; go_step; refine wp_region_lit ?_)
  refine wl_pure (v := .string s) (fun _ => rfl) rfl ?_
  simp only [Act.put, List.setIfInBounds_toArray, List.set_cons_zero, List.set_cons_succ]
  refine wl_call hM1 (args := #[.string s]) (v := numV N) (fun W => run_call_fn W (enters_of Try.func61 rfl rfl) rfl (by simp [Act.eval])) (KN.out W1) rfl fun W2 hM2 => ?_
  simp only [Act.put, List.setIfInBounds_toArray, List.set_cons_zero, List.set_cons_succ]
  refine wl_new hM2 (f := fun b => .pointer (some ⟨b, 0, none⟩)) (ob := .cells z4 24 (0, 0)) (fun W => run_alloc_of rfl (al_Nu W)) rfl fun b2 W3 hM3 => ?_
  simp only [Act.put, List.setIfInBounds_toArray, List.set_cons_zero, List.set_cons_succ]
  refine wl_set hM3 0 (cs := (elR N)) rfl rfl rfl rfl rowNu rfl (one_el N) rfl rfl fun W4 hM4 => ?_
  simp only [List.set_cons_zero, List.set_cons_succ] at hM4
  refine wpList_nil ?_
  (go_step; go_step; go_step; refine wp_region_lit ?_)
  refine wl_pure (v := .pointer (some ⟨b2, 3, none⟩)) (fun W => run_index_of rfl rfl rfl (ix_Nu3 b2 W)) rfl ?_
  simp only [Act.put, List.setIfInBounds_toArray, List.set_cons_zero, List.set_cons_succ]
  refine wl_cell hM4 0 (v := .int .u64 (wd N 3 : Int)) rfl rfl rfl rfl cellU rfl ?_
  simp only [Act.put, List.setIfInBounds_toArray, List.set_cons_zero, List.set_cons_succ]
  refine wl_pure (v := .int .u64 (bb : Int)) (fun W => run_bin_of rfl rfl rfl (by rw [← hbb]; exact bin_quo_top _ (wd_lt _ _) _ _ W)) rfl ?_
  simp only [Act.put, List.setIfInBounds_toArray, List.set_cons_zero, List.set_cons_succ]
  refine wl_pure (v := .int .u64 (bb : Int)) (fun _ => rfl) rfl ?_
  simp only [Act.put, List.setIfInBounds_toArray, List.set_cons_zero, List.set_cons_succ]
  refine wpList_nil ?_
  (go_step; go_step; go_step; refine wp_region_lit ?_)
  refine wl_pure (v := .pointer (some ⟨b2, 3, none⟩)) (fun W => run_index_of rfl rfl rfl (ix_Nu3 b2 W)) rfl ?_
  simp only [Act.put, List.setIfInBounds_toArray, List.set_cons_zero, List.set_cons_succ]
  refine wl_cell hM4 0 (v := .int .u64 (wd N 3 : Int)) rfl rfl rfl rfl cellU rfl ?_
  simp only [Act.put, List.setIfInBounds_toArray, List.set_cons_zero, List.set_cons_succ]
  refine wl_pure (v := .int .u64 (((wd N 3) % 9223372036854775808 : Nat) : Int)) (fun W => run_bin_of rfl rfl rfl (bin_rem_top (wd N 3) _ _ W)) rfl ?_
  simp only [Act.put, List.setIfInBounds_toArray, List.set_cons_zero, List.set_cons_succ]
  refine wl_pure (v := .pointer (some ⟨b2, 3, none⟩)) (fun W => run_index_of rfl rfl rfl (ix_Nu3 b2 W)) rfl ?_
  simp only [Act.put, List.setIfInBounds_toArray, List.set_cons_zero, List.set_cons_succ]
  refine wl_setat hM4 0 (cs' := (elR m)) rfl rfl rfl rfl (by show 3 < 4; decide) (by rw [em]; exact num_low N) cellU rfl rfl rfl fun W5 hM5 => ?_
  simp only [List.set_cons_zero, List.set_cons_succ] at hM5
  refine wpList_nil ?_
  (go_step; go_step; go_step; go_step; refine wp_region_inw 4 HMIX.out (by decide) (by kernel_rfl) (by kernel_rfl) ?_)
  refine inw_row hM5 0 (v := numV m) rfl rfl rfl rfl rowNu rfl rfl ?_; simp only [Act.put, List.setIfInBounds_toArray, List.set_cons_zero, List.set_cons_succ]
  refine inw_callV (args := #[numV m]) (v := numV mm) (fun W => run_call_fn W (enters_of Try.func62 rfl rfl) rfl (by simp [Act.eval])) (fun W _ => KMod.out W) rfl rfl ?_; simp only [Act.put, List.setIfInBounds_toArray, List.set_cons_zero, List.set_cons_succ]
  refine inw_row hM5 0 (v := numV m) rfl rfl rfl rfl rowNu rfl rfl ?_; simp only [Act.put, List.setIfInBounds_toArray, List.set_cons_zero, List.set_cons_succ]
  refine inw_pure (v := .bool false) (fun W => run_bin_of rfl rfl rfl (by rw [show false = !decide (mm = m) from by rw [decide_eq_true hmm]; rfl]; exact bin_neq_nu4 mm m _ _ W hmmB hmB)) rfl rfl ?_; simp only [Act.put, List.setIfInBounds_toArray, List.set_cons_zero, List.set_cons_succ]
  refine inw_fin fun d os => ?_
  refine given_nil fun hap => ?_
  have hM6 := hM5.calls (below_regrown W5 d os)
  clear hap 
  generalize grow (redrawn W5 d) os = W6 at hM6 ⊢
  refine wpAny_done (by kernel_rfl) ?_ _
  (go_step; go_step; go_step; go_step; go_step; go_step; go_step; refine wp_region_lit ?_)
  refine wl_row hM6 0 (v := numV m) rfl rfl rfl rfl rowNu rfl ?_
  simp only [Act.put, List.setIfInBounds_toArray, List.set_cons_zero, List.set_cons_succ]
  refine wl_call hM6 (args := #[numV m]) (v := numV sq) (fun W => run_call_fn W (enters_of Try.func63 rfl rfl) rfl (by simp [Act.eval])) (KS.out W6) rfl fun W7 hM7 => ?_
  simp only [Act.put, List.setIfInBounds_toArray, List.set_cons_zero, List.set_cons_succ]
  refine wl_call hM7 (args := #[numV sq]) (v := .tuple #[numV x, .bool true]) (fun W => run_call_fn W (enters_of Try.func37 rfl rfl) rfl (by simp [Act.eval])) (KR.out W7) rfl fun W8 hM8 => ?_
  simp only [Act.put, List.setIfInBounds_toArray, List.set_cons_zero, List.set_cons_succ]
  refine wl_pure (v := .tuple #[numV x, .bool true]) (fun _ => rfl) rfl ?_
  simp only [Act.put, List.setIfInBounds_toArray, List.set_cons_zero, List.set_cons_succ]
  refine wl_pure (v := numV x) (fun _ => rfl) rfl ?_
  simp only [Act.put, List.setIfInBounds_toArray, List.set_cons_zero, List.set_cons_succ]
  refine wl_pure (v := .bool true) (fun _ => rfl) rfl ?_
  simp only [Act.put, List.setIfInBounds_toArray, List.set_cons_zero, List.set_cons_succ]
  refine wl_new hM8 (f := fun b => .pointer (some ⟨b, 0, none⟩)) (ob := .cells z4 24 (0, 0)) (fun W => run_alloc_of rfl (al_Nu W)) rfl fun b3 W9 hM9 => ?_
  simp only [Act.put, List.setIfInBounds_toArray, List.set_cons_zero, List.set_cons_succ]
  refine wl_set hM9 0 (cs := (elR x)) rfl rfl rfl rfl rowNu rfl (one_el x) rfl rfl fun W10 hM10 => ?_
  simp only [List.set_cons_zero, List.set_cons_succ] at hM10
  refine wl_pure (v := .bool true) (fun _ => rfl) rfl ?_
  simp only [Act.put, List.setIfInBounds_toArray, List.set_cons_zero, List.set_cons_succ]
  refine wpList_nil ?_
  (go_step; go_step; go_step; go_step; refine wp_region_inw 11 HMIX.out (by decide) (by kernel_rfl) (by kernel_rfl) ?_)
  refine inw_pure (v := .bool true) (fun _ => rfl) rfl rfl ?_; simp only [Act.put, List.setIfInBounds_toArray, List.set_cons_zero, List.set_cons_succ]
  refine inw_pure (v := .bool false) (fun W => run_not_of W rfl rfl rfl) rfl rfl ?_; simp only [Act.put, List.setIfInBounds_toArray, List.set_cons_zero, List.set_cons_succ]
  refine inw_pure (v := .bool false) (fun _ => rfl) rfl rfl ?_; simp only [Act.put, List.setIfInBounds_toArray, List.set_cons_zero, List.set_cons_succ]
  refine inw_pure (v := .int .u64 (bb : Int)) (fun _ => rfl) rfl rfl ?_; simp only [Act.put, List.setIfInBounds_toArray, List.set_cons_zero, List.set_cons_succ]
  refine inw_pure (v := .bool true) (fun W => run_bin_of rfl rfl rfl (by rw [show true = decide (bb = 1) from (decide_eq_true hb1).symm]; exact bin_eql_u64 bb _ _ W)) rfl rfl ?_; simp only [Act.put, List.setIfInBounds_toArray, List.set_cons_zero, List.set_cons_succ]
  refine inw_pure (v := .bool true) (fun _ => rfl) rfl rfl ?_; simp only [Act.put, List.setIfInBounds_toArray, List.set_cons_zero, List.set_cons_succ]
  refine inw_row hM10 0 (v := numV x) rfl rfl rfl rfl rowNu rfl rfl ?_; simp only [Act.put, List.setIfInBounds_toArray, List.set_cons_zero, List.set_cons_succ]
  refine inw_callV (args := #[.int .u64 0]) (v := numV 0) (fun W => run_call_fn W (enters_of Try.func35 rfl rfl) rfl (by simp [Act.eval])) (fun W _ => rsmall' 0 (by decide) W) rfl rfl ?_; simp only [Act.put, List.setIfInBounds_toArray, List.set_cons_zero, List.set_cons_succ]
  refine inw_pure (v := .bool true) (fun W => run_bin_of rfl rfl rfl (by rw [show true = decide (x = 0) from (decide_eq_true h0).symm]; exact bin_eql_nu4 x 0 _ _ W (of_PN hx) (of_PN PN_pos))) rfl rfl ?_; simp only [Act.put, List.setIfInBounds_toArray, List.set_cons_zero, List.set_cons_succ]
  refine inw_pure (v := .bool true) (fun _ => rfl) rfl rfl ?_; simp only [Act.put, List.setIfInBounds_toArray, List.set_cons_zero, List.set_cons_succ]
  refine inw_pure (v := .bool true) (fun _ => rfl) rfl rfl ?_; simp only [Act.put, List.setIfInBounds_toArray, List.set_cons_zero, List.set_cons_succ]
  refine inw_fin fun d os => ?_
  refine given_nil fun hap => ?_
  have hM11 := hM10.calls (below_regrown W10 d os)
  clear hap 
  generalize grow (redrawn W10 d) os = W11 at hM11 ⊢
  refine wpAny_done (by kernel_rfl) ?_ _
  (go_step; go_step; go_step; go_step; refine wp_region_lit ?_)
  refine wl_call hM11 (args := #[]) (v := pv3 ((0, 1, 1))) (fun W => run_call_fn W (enters_of Try.func38 rfl rfl) rfl (by simp [Act.eval])) (rzero_any W11) rfl fun W12 hM12 => ?_
  simp only [Act.put, List.setIfInBounds_toArray, List.set_cons_zero, List.set_cons_succ]
  refine wl_set hM12 2 (cs := ((rpL ((0, 1, 1)).1 ((0, 1, 1)).2.1 ((0, 1, 1)).2.2).toArray)) rfl rfl rfl rfl rowRp rfl (one_rp _ _ _) rfl rfl fun W13 hM13 => ?_
  simp only [List.set_cons_zero, List.set_cons_succ] at hM13
  refine wl_pure (v := .int .i64 22) (fun _ => rfl) rfl ?_
  simp only [Act.put, List.setIfInBounds_toArray, List.set_cons_zero, List.set_cons_succ]
  refine wpList_nil ?_
  (go_step; go_step; go_step; go_step; refine bodyPost_ret (v := .tuple #[pv3 ((0, 1, 1)), .int .i64 22]) (results_arr_tmp Try.results17 rfl rfl (hM13.load 2 rfl rowRp)) rfl ⟨?_, hM13.below⟩)
  exact rfl
set_option maxRecDepth 20000 in
set_option maxHeartbeats 8000000 in
theorem rdec_yes0 (s : ByteArray) (hs : s.size = 32) (N m bb x : Nat) (hN : leN s.data.toList = N) (em : m = N % (9223372036854775808 * B64 ^ 3)) (hmB : m < B64 ^ 4) (hbb : wd N 3 / 9223372036854775808 = bb) (hm : m < PN) (ex : x = rootN iV (sqR m)) (hok : okN iV (sqR m) = true) (hb1 : ¬ bb = 1)  (w : World) : Calls Try.prog 17 #[.string s] w fun E w' => E = .returned (.tuple #[pv3 ((x, m, 1)), .int .i64 0]) ∧ Below w.heap.size w w' := by
  have HMIX := Lib.hid (show Try.prog.follows .mixedOrders = true by kernel_rfl)
  have KN := Lib.hid (fun w => number_any s hs w)
  rw [hN] at KN
  clear hN
  have KMod := Lib.hid (fun w => rmod_any m w hmB)
  obtain ⟨mm, emm⟩ : ∃ x, x = m % PN := ⟨_, rfl⟩
  rw [← emm] at KMod
  have hmmB : mm < B64 ^ 4 := by rw [emm]; exact of_PN (Nat.mod_lt _ PN_pos)
  have hmm : mm = m := by rw [emm]; exact Nat.mod_eq_of_lt hm
  clear emm
  have hx : x < PN := by rw [ex]; exact rootN_below _
  obtain ⟨sq, esq⟩ : ∃ y, y = sqR m := ⟨_, rfl⟩
  have hsq : sq < PN := by rw [esq]; exact sqR_lt _
  have KS := Lib.hid (fun w => rsquare_any m w hm)
  rw [← esq] at KS ex hok
  have KR := Lib.hid (fun w => rroot' sq w hsq)
  rw [← ex, hok] at KR
  clear ex hok
  go_enter Try.func17, Try.ntmps17
  have hM0 := Mem.start w
  (go_step; go_step; refine wp_region_lit ?_)
  refine wl_new hM0 (f := fun b => .pointer (some ⟨b, 0, none⟩)) (ob := .cells z12 32 (0, 0)) (fun W => run_alloc_of rfl (al_Rp W)) rfl fun b1 W1 hM1 => ?_
  simp only [Act.put, List.setIfInBounds_toArray, List.set_cons_zero, List.set_cons_succ]
  refine wl_pure (v := .int .i64 0) (fun _ => rfl) rfl ?_
  simp only [Act.put, List.setIfInBounds_toArray, List.set_cons_zero, List.set_cons_succ]
  refine wpList_nil ?_
  (go_step; go_step; go_step; go_step; refine wp_region_lit ?_)
  refine wl_pure (v := .string s) (fun _ => rfl) rfl ?_
  simp only [Act.put, List.setIfInBounds_toArray, List.set_cons_zero, List.set_cons_succ]
  refine wl_pure (v := .int .i64 (s.size : Int)) (fun W => run_len_str W rfl (by simp [Act.eval]) rfl Try.underlying9) rfl ?_
  simp only [Act.put, List.setIfInBounds_toArray, List.set_cons_zero, List.set_cons_succ]
  refine wl_pure (v := .bool false) (fun W => run_bin_of rfl rfl rfl (by rw [show false = !decide (s.size = 32) from by rw [decide_eq_true hs]; rfl]; exact bin_eq_s32 _ _ _ W)) rfl ?_
  simp only [Act.put, List.setIfInBounds_toArray, List.set_cons_zero, List.set_cons_succ]
  refine wpList_nil ?_
  (go_step; go_step; go_step; go_step; go_step; go_step; go_step; refine wp_region_lit ?_)
  refine wl_pure (v := .string s) (fun _ => rfl) rfl ?_
  simp only [Act.put, List.setIfInBounds_toArray, List.set_cons_zero, List.set_cons_succ]
  refine wl_call hM1 (args := #[.string s]) (v := numV N) (fun W => run_call_fn W (enters_of Try.func61 rfl rfl) rfl (by simp [Act.eval])) (KN.out W1) rfl fun W2 hM2 => ?_
  simp only [Act.put, List.setIfInBounds_toArray, List.set_cons_zero, List.set_cons_succ]
  refine wl_new hM2 (f := fun b => .pointer (some ⟨b, 0, none⟩)) (ob := .cells z4 24 (0, 0)) (fun W => run_alloc_of rfl (al_Nu W)) rfl fun b2 W3 hM3 => ?_
  simp only [Act.put, List.setIfInBounds_toArray, List.set_cons_zero, List.set_cons_succ]
  refine wl_set hM3 0 (cs := (elR N)) rfl rfl rfl rfl rowNu rfl (one_el N) rfl rfl fun W4 hM4 => ?_
  simp only [List.set_cons_zero, List.set_cons_succ] at hM4
  refine wpList_nil ?_
  (go_step; go_step; go_step; refine wp_region_lit ?_)
  refine wl_pure (v := .pointer (some ⟨b2, 3, none⟩)) (fun W => run_index_of rfl rfl rfl (ix_Nu3 b2 W)) rfl ?_
  simp only [Act.put, List.setIfInBounds_toArray, List.set_cons_zero, List.set_cons_succ]
  refine wl_cell hM4 0 (v := .int .u64 (wd N 3 : Int)) rfl rfl rfl rfl cellU rfl ?_
  simp only [Act.put, List.setIfInBounds_toArray, List.set_cons_zero, List.set_cons_succ]
  refine wl_pure (v := .int .u64 (bb : Int)) (fun W => run_bin_of rfl rfl rfl (by rw [← hbb]; exact bin_quo_top _ (wd_lt _ _) _ _ W)) rfl ?_
  simp only [Act.put, List.setIfInBounds_toArray, List.set_cons_zero, List.set_cons_succ]
  refine wl_pure (v := .int .u64 (bb : Int)) (fun _ => rfl) rfl ?_
  simp only [Act.put, List.setIfInBounds_toArray, List.set_cons_zero, List.set_cons_succ]
  refine wpList_nil ?_
  (go_step; go_step; go_step; refine wp_region_lit ?_)
  refine wl_pure (v := .pointer (some ⟨b2, 3, none⟩)) (fun W => run_index_of rfl rfl rfl (ix_Nu3 b2 W)) rfl ?_
  simp only [Act.put, List.setIfInBounds_toArray, List.set_cons_zero, List.set_cons_succ]
  refine wl_cell hM4 0 (v := .int .u64 (wd N 3 : Int)) rfl rfl rfl rfl cellU rfl ?_
  simp only [Act.put, List.setIfInBounds_toArray, List.set_cons_zero, List.set_cons_succ]
  refine wl_pure (v := .int .u64 (((wd N 3) % 9223372036854775808 : Nat) : Int)) (fun W => run_bin_of rfl rfl rfl (bin_rem_top (wd N 3) _ _ W)) rfl ?_
  simp only [Act.put, List.setIfInBounds_toArray, List.set_cons_zero, List.set_cons_succ]
  refine wl_pure (v := .pointer (some ⟨b2, 3, none⟩)) (fun W => run_index_of rfl rfl rfl (ix_Nu3 b2 W)) rfl ?_
  simp only [Act.put, List.setIfInBounds_toArray, List.set_cons_zero, List.set_cons_succ]
  refine wl_setat hM4 0 (cs' := (elR m)) rfl rfl rfl rfl (by show 3 < 4; decide) (by rw [em]; exact num_low N) cellU rfl rfl rfl fun W5 hM5 => ?_
  simp only [List.set_cons_zero, List.set_cons_succ] at hM5
  refine wpList_nil ?_
  (go_step; go_step; go_step; go_step; refine wp_region_inw 4 HMIX.out (by decide) (by kernel_rfl) (by kernel_rfl) ?_)
  refine inw_row hM5 0 (v := numV m) rfl rfl rfl rfl rowNu rfl rfl ?_; simp only [Act.put, List.setIfInBounds_toArray, List.set_cons_zero, List.set_cons_succ]
  refine inw_callV (args := #[numV m]) (v := numV mm) (fun W => run_call_fn W (enters_of Try.func62 rfl rfl) rfl (by simp [Act.eval])) (fun W _ => KMod.out W) rfl rfl ?_; simp only [Act.put, List.setIfInBounds_toArray, List.set_cons_zero, List.set_cons_succ]
  refine inw_row hM5 0 (v := numV m) rfl rfl rfl rfl rowNu rfl rfl ?_; simp only [Act.put, List.setIfInBounds_toArray, List.set_cons_zero, List.set_cons_succ]
  refine inw_pure (v := .bool false) (fun W => run_bin_of rfl rfl rfl (by rw [show false = !decide (mm = m) from by rw [decide_eq_true hmm]; rfl]; exact bin_neq_nu4 mm m _ _ W hmmB hmB)) rfl rfl ?_; simp only [Act.put, List.setIfInBounds_toArray, List.set_cons_zero, List.set_cons_succ]
  refine inw_fin fun d os => ?_
  refine given_nil fun hap => ?_
  have hM6 := hM5.calls (below_regrown W5 d os)
  clear hap 
  generalize grow (redrawn W5 d) os = W6 at hM6 ⊢
  refine wpAny_done (by kernel_rfl) ?_ _
  (go_step; go_step; go_step; go_step; go_step; go_step; go_step; refine wp_region_lit ?_)
  refine wl_row hM6 0 (v := numV m) rfl rfl rfl rfl rowNu rfl ?_
  simp only [Act.put, List.setIfInBounds_toArray, List.set_cons_zero, List.set_cons_succ]
  refine wl_call hM6 (args := #[numV m]) (v := numV sq) (fun W => run_call_fn W (enters_of Try.func63 rfl rfl) rfl (by simp [Act.eval])) (KS.out W6) rfl fun W7 hM7 => ?_
  simp only [Act.put, List.setIfInBounds_toArray, List.set_cons_zero, List.set_cons_succ]
  refine wl_call hM7 (args := #[numV sq]) (v := .tuple #[numV x, .bool true]) (fun W => run_call_fn W (enters_of Try.func37 rfl rfl) rfl (by simp [Act.eval])) (KR.out W7) rfl fun W8 hM8 => ?_
  simp only [Act.put, List.setIfInBounds_toArray, List.set_cons_zero, List.set_cons_succ]
  refine wl_pure (v := .tuple #[numV x, .bool true]) (fun _ => rfl) rfl ?_
  simp only [Act.put, List.setIfInBounds_toArray, List.set_cons_zero, List.set_cons_succ]
  refine wl_pure (v := numV x) (fun _ => rfl) rfl ?_
  simp only [Act.put, List.setIfInBounds_toArray, List.set_cons_zero, List.set_cons_succ]
  refine wl_pure (v := .bool true) (fun _ => rfl) rfl ?_
  simp only [Act.put, List.setIfInBounds_toArray, List.set_cons_zero, List.set_cons_succ]
  refine wl_new hM8 (f := fun b => .pointer (some ⟨b, 0, none⟩)) (ob := .cells z4 24 (0, 0)) (fun W => run_alloc_of rfl (al_Nu W)) rfl fun b3 W9 hM9 => ?_
  simp only [Act.put, List.setIfInBounds_toArray, List.set_cons_zero, List.set_cons_succ]
  refine wl_set hM9 0 (cs := (elR x)) rfl rfl rfl rfl rowNu rfl (one_el x) rfl rfl fun W10 hM10 => ?_
  simp only [List.set_cons_zero, List.set_cons_succ] at hM10
  refine wl_pure (v := .bool true) (fun _ => rfl) rfl ?_
  simp only [Act.put, List.setIfInBounds_toArray, List.set_cons_zero, List.set_cons_succ]
  refine wpList_nil ?_
  (go_step; go_step; go_step; go_step; refine wp_region_inw 11 HMIX.out (by decide) (by kernel_rfl) (by kernel_rfl) ?_)
  refine inw_pure (v := .bool true) (fun _ => rfl) rfl rfl ?_; simp only [Act.put, List.setIfInBounds_toArray, List.set_cons_zero, List.set_cons_succ]
  refine inw_pure (v := .bool false) (fun W => run_not_of W rfl rfl rfl) rfl rfl ?_; simp only [Act.put, List.setIfInBounds_toArray, List.set_cons_zero, List.set_cons_succ]
  refine inw_pure (v := .bool false) (fun _ => rfl) rfl rfl ?_; simp only [Act.put, List.setIfInBounds_toArray, List.set_cons_zero, List.set_cons_succ]
  refine inw_pure (v := .int .u64 (bb : Int)) (fun _ => rfl) rfl rfl ?_; simp only [Act.put, List.setIfInBounds_toArray, List.set_cons_zero, List.set_cons_succ]
  refine inw_pure (v := .bool false) (fun W => run_bin_of rfl rfl rfl (by rw [show false = decide (bb = 1) from (decide_eq_false hb1).symm]; exact bin_eql_u64 bb _ _ W)) rfl rfl ?_; simp only [Act.put, List.setIfInBounds_toArray, List.set_cons_zero, List.set_cons_succ]
  refine inw_pure (v := .bool false) (fun _ => rfl) rfl rfl ?_; simp only [Act.put, List.setIfInBounds_toArray, List.set_cons_zero, List.set_cons_succ]
  refine inw_skip rfl rfl ?_; simp only [Act.put, List.setIfInBounds_toArray, List.set_cons_zero, List.set_cons_succ]
  refine inw_skip rfl rfl ?_; simp only [Act.put, List.setIfInBounds_toArray, List.set_cons_zero, List.set_cons_succ]
  refine inw_skip rfl rfl ?_; simp only [Act.put, List.setIfInBounds_toArray, List.set_cons_zero, List.set_cons_succ]
  refine inw_pure (v := .bool false) (fun _ => rfl) rfl rfl ?_; simp only [Act.put, List.setIfInBounds_toArray, List.set_cons_zero, List.set_cons_succ]
  refine inw_pure (v := .bool false) (fun _ => rfl) rfl rfl ?_; simp only [Act.put, List.setIfInBounds_toArray, List.set_cons_zero, List.set_cons_succ]
  refine inw_fin fun d os => ?_
  refine given_nil fun hap => ?_
  have hM11 := hM10.calls (below_regrown W10 d os)
  clear hap 
  generalize grow (redrawn W10 d) os = W11 at hM11 ⊢
  refine wpAny_done (by kernel_rfl) ?_ _
  (go_step; go_step; go_step; go_step; go_step; go_step; go_step; go_step; refine wp_region_lit ?_)
  refine wl_pure (v := .int .u64 (bb : Int)) (fun _ => rfl) rfl ?_
  simp only [Act.put, List.setIfInBounds_toArray, List.set_cons_zero, List.set_cons_succ]
  refine wl_pure (v := .bool false) (fun W => run_bin_of rfl rfl rfl (by rw [show false = decide (bb = 1) from (decide_eq_false hb1).symm]; exact bin_eql_u64 bb _ _ W)) rfl ?_
  simp only [Act.put, List.setIfInBounds_toArray, List.set_cons_zero, List.set_cons_succ]
  refine wpList_nil ?_
  (go_step; go_step; go_step; go_step; go_step; go_step; go_step; refine wp_region_lit ?_)
  refine wl_row hM11 0 (v := numV x) rfl rfl rfl rfl rowNu rfl ?_
  simp only [Act.put, List.setIfInBounds_toArray, List.set_cons_zero, List.set_cons_succ]
  refine wl_row hM11 1 (v := numV m) rfl rfl rfl rfl rowNu rfl ?_
  simp only [Act.put, List.setIfInBounds_toArray, List.set_cons_zero, List.set_cons_succ]
  refine wl_call hM11 (args := #[numV x, numV m]) (v := pv3 ((x, m, 1))) (fun W => run_call_fn W (enters_of Try.func39 rfl rfl) rfl (by simp [Act.eval])) (rmake_any x m W11) rfl fun W12 hM12 => ?_
  simp only [Act.put, List.setIfInBounds_toArray, List.set_cons_zero, List.set_cons_succ]
  refine wl_set hM12 2 (cs := ((rpL x m 1).toArray)) rfl rfl rfl rfl rowRp rfl (one_rp _ _ _) rfl rfl fun W13 hM13 => ?_
  simp only [List.set_cons_zero, List.set_cons_succ] at hM13
  refine wl_pure (v := .int .i64 0) (fun _ => rfl) rfl ?_
  simp only [Act.put, List.setIfInBounds_toArray, List.set_cons_zero, List.set_cons_succ]
  refine wpList_nil ?_
  (go_step; go_step; go_step; refine bodyPost_ret (v := .tuple #[pv3 ((x, m, 1)), .int .i64 0]) (results_arr_tmp Try.results17 rfl rfl (hM13.load 2 rfl rowRp)) rfl ⟨?_, hM13.below⟩)
  exact rfl
set_option maxRecDepth 20000 in
set_option maxHeartbeats 8000000 in
theorem rdec_yes1 (s : ByteArray) (hs : s.size = 32) (N m bb x : Nat) (hN : leN s.data.toList = N) (em : m = N % (9223372036854775808 * B64 ^ 3)) (hmB : m < B64 ^ 4) (hbb : wd N 3 / 9223372036854775808 = bb) (hm : m < PN) (ex : x = rootN iV (sqR m)) (hok : okN iV (sqR m) = true) (hb1 : bb = 1) (h0 : ¬ x = 0) (w : World) : Calls Try.prog 17 #[.string s] w fun E w' => E = .returned (.tuple #[pv3 (((0 + PN - x) % PN, m, 1)), .int .i64 0]) ∧ Below w.heap.size w w' := by
  have HMIX := Lib.hid (show Try.prog.follows .mixedOrders = true by kernel_rfl)
  have KN := Lib.hid (fun w => number_any s hs w)
  rw [hN] at KN
  clear hN
  have KMod := Lib.hid (fun w => rmod_any m w hmB)
  obtain ⟨mm, emm⟩ : ∃ x, x = m % PN := ⟨_, rfl⟩
  rw [← emm] at KMod
  have hmmB : mm < B64 ^ 4 := by rw [emm]; exact of_PN (Nat.mod_lt _ PN_pos)
  have hmm : mm = m := by rw [emm]; exact Nat.mod_eq_of_lt hm
  clear emm
  have hx : x < PN := by rw [ex]; exact rootN_below _
  obtain ⟨sq, esq⟩ : ∃ y, y = sqR m := ⟨_, rfl⟩
  have hsq : sq < PN := by rw [esq]; exact sqR_lt _
  have KS := Lib.hid (fun w => rsquare_any m w hm)
  rw [← esq] at KS ex hok
  have KR := Lib.hid (fun w => rroot' sq w hsq)
  rw [← ex, hok] at KR
  clear ex hok
  obtain ⟨x1, ex1⟩ : ∃ y, y = (0 + PN - x) % PN := ⟨_, rfl⟩
  have KSub := Lib.hid (fun w => rsub' 0 x w PN_pos hx)
  rw [← ex1] at KSub
  rw [← ex1]
  clear ex1
  go_enter Try.func17, Try.ntmps17
  have hM0 := Mem.start w
  (go_step; go_step; refine wp_region_lit ?_)
  refine wl_new hM0 (f := fun b => .pointer (some ⟨b, 0, none⟩)) (ob := .cells z12 32 (0, 0)) (fun W => run_alloc_of rfl (al_Rp W)) rfl fun b1 W1 hM1 => ?_
  simp only [Act.put, List.setIfInBounds_toArray, List.set_cons_zero, List.set_cons_succ]
  refine wl_pure (v := .int .i64 0) (fun _ => rfl) rfl ?_
  simp only [Act.put, List.setIfInBounds_toArray, List.set_cons_zero, List.set_cons_succ]
  refine wpList_nil ?_
  (go_step; go_step; go_step; go_step; refine wp_region_lit ?_)
  refine wl_pure (v := .string s) (fun _ => rfl) rfl ?_
  simp only [Act.put, List.setIfInBounds_toArray, List.set_cons_zero, List.set_cons_succ]
  refine wl_pure (v := .int .i64 (s.size : Int)) (fun W => run_len_str W rfl (by simp [Act.eval]) rfl Try.underlying9) rfl ?_
  simp only [Act.put, List.setIfInBounds_toArray, List.set_cons_zero, List.set_cons_succ]
  refine wl_pure (v := .bool false) (fun W => run_bin_of rfl rfl rfl (by rw [show false = !decide (s.size = 32) from by rw [decide_eq_true hs]; rfl]; exact bin_eq_s32 _ _ _ W)) rfl ?_
  simp only [Act.put, List.setIfInBounds_toArray, List.set_cons_zero, List.set_cons_succ]
  refine wpList_nil ?_
  (go_step; go_step; go_step; go_step; go_step; go_step; go_step; refine wp_region_lit ?_)
  refine wl_pure (v := .string s) (fun _ => rfl) rfl ?_
  simp only [Act.put, List.setIfInBounds_toArray, List.set_cons_zero, List.set_cons_succ]
  refine wl_call hM1 (args := #[.string s]) (v := numV N) (fun W => run_call_fn W (enters_of Try.func61 rfl rfl) rfl (by simp [Act.eval])) (KN.out W1) rfl fun W2 hM2 => ?_
  simp only [Act.put, List.setIfInBounds_toArray, List.set_cons_zero, List.set_cons_succ]
  refine wl_new hM2 (f := fun b => .pointer (some ⟨b, 0, none⟩)) (ob := .cells z4 24 (0, 0)) (fun W => run_alloc_of rfl (al_Nu W)) rfl fun b2 W3 hM3 => ?_
  simp only [Act.put, List.setIfInBounds_toArray, List.set_cons_zero, List.set_cons_succ]
  refine wl_set hM3 0 (cs := (elR N)) rfl rfl rfl rfl rowNu rfl (one_el N) rfl rfl fun W4 hM4 => ?_
  simp only [List.set_cons_zero, List.set_cons_succ] at hM4
  refine wpList_nil ?_
  (go_step; go_step; go_step; refine wp_region_lit ?_)
  refine wl_pure (v := .pointer (some ⟨b2, 3, none⟩)) (fun W => run_index_of rfl rfl rfl (ix_Nu3 b2 W)) rfl ?_
  simp only [Act.put, List.setIfInBounds_toArray, List.set_cons_zero, List.set_cons_succ]
  refine wl_cell hM4 0 (v := .int .u64 (wd N 3 : Int)) rfl rfl rfl rfl cellU rfl ?_
  simp only [Act.put, List.setIfInBounds_toArray, List.set_cons_zero, List.set_cons_succ]
  refine wl_pure (v := .int .u64 (bb : Int)) (fun W => run_bin_of rfl rfl rfl (by rw [← hbb]; exact bin_quo_top _ (wd_lt _ _) _ _ W)) rfl ?_
  simp only [Act.put, List.setIfInBounds_toArray, List.set_cons_zero, List.set_cons_succ]
  refine wl_pure (v := .int .u64 (bb : Int)) (fun _ => rfl) rfl ?_
  simp only [Act.put, List.setIfInBounds_toArray, List.set_cons_zero, List.set_cons_succ]
  refine wpList_nil ?_
  (go_step; go_step; go_step; refine wp_region_lit ?_)
  refine wl_pure (v := .pointer (some ⟨b2, 3, none⟩)) (fun W => run_index_of rfl rfl rfl (ix_Nu3 b2 W)) rfl ?_
  simp only [Act.put, List.setIfInBounds_toArray, List.set_cons_zero, List.set_cons_succ]
  refine wl_cell hM4 0 (v := .int .u64 (wd N 3 : Int)) rfl rfl rfl rfl cellU rfl ?_
  simp only [Act.put, List.setIfInBounds_toArray, List.set_cons_zero, List.set_cons_succ]
  refine wl_pure (v := .int .u64 (((wd N 3) % 9223372036854775808 : Nat) : Int)) (fun W => run_bin_of rfl rfl rfl (bin_rem_top (wd N 3) _ _ W)) rfl ?_
  simp only [Act.put, List.setIfInBounds_toArray, List.set_cons_zero, List.set_cons_succ]
  refine wl_pure (v := .pointer (some ⟨b2, 3, none⟩)) (fun W => run_index_of rfl rfl rfl (ix_Nu3 b2 W)) rfl ?_
  simp only [Act.put, List.setIfInBounds_toArray, List.set_cons_zero, List.set_cons_succ]
  refine wl_setat hM4 0 (cs' := (elR m)) rfl rfl rfl rfl (by show 3 < 4; decide) (by rw [em]; exact num_low N) cellU rfl rfl rfl fun W5 hM5 => ?_
  simp only [List.set_cons_zero, List.set_cons_succ] at hM5
  refine wpList_nil ?_
  (go_step; go_step; go_step; go_step; refine wp_region_inw 4 HMIX.out (by decide) (by kernel_rfl) (by kernel_rfl) ?_)
  refine inw_row hM5 0 (v := numV m) rfl rfl rfl rfl rowNu rfl rfl ?_; simp only [Act.put, List.setIfInBounds_toArray, List.set_cons_zero, List.set_cons_succ]
  refine inw_callV (args := #[numV m]) (v := numV mm) (fun W => run_call_fn W (enters_of Try.func62 rfl rfl) rfl (by simp [Act.eval])) (fun W _ => KMod.out W) rfl rfl ?_; simp only [Act.put, List.setIfInBounds_toArray, List.set_cons_zero, List.set_cons_succ]
  refine inw_row hM5 0 (v := numV m) rfl rfl rfl rfl rowNu rfl rfl ?_; simp only [Act.put, List.setIfInBounds_toArray, List.set_cons_zero, List.set_cons_succ]
  refine inw_pure (v := .bool false) (fun W => run_bin_of rfl rfl rfl (by rw [show false = !decide (mm = m) from by rw [decide_eq_true hmm]; rfl]; exact bin_neq_nu4 mm m _ _ W hmmB hmB)) rfl rfl ?_; simp only [Act.put, List.setIfInBounds_toArray, List.set_cons_zero, List.set_cons_succ]
  refine inw_fin fun d os => ?_
  refine given_nil fun hap => ?_
  have hM6 := hM5.calls (below_regrown W5 d os)
  clear hap 
  generalize grow (redrawn W5 d) os = W6 at hM6 ⊢
  refine wpAny_done (by kernel_rfl) ?_ _
  (go_step; go_step; go_step; go_step; go_step; go_step; go_step; refine wp_region_lit ?_)
  refine wl_row hM6 0 (v := numV m) rfl rfl rfl rfl rowNu rfl ?_
  simp only [Act.put, List.setIfInBounds_toArray, List.set_cons_zero, List.set_cons_succ]
  refine wl_call hM6 (args := #[numV m]) (v := numV sq) (fun W => run_call_fn W (enters_of Try.func63 rfl rfl) rfl (by simp [Act.eval])) (KS.out W6) rfl fun W7 hM7 => ?_
  simp only [Act.put, List.setIfInBounds_toArray, List.set_cons_zero, List.set_cons_succ]
  refine wl_call hM7 (args := #[numV sq]) (v := .tuple #[numV x, .bool true]) (fun W => run_call_fn W (enters_of Try.func37 rfl rfl) rfl (by simp [Act.eval])) (KR.out W7) rfl fun W8 hM8 => ?_
  simp only [Act.put, List.setIfInBounds_toArray, List.set_cons_zero, List.set_cons_succ]
  refine wl_pure (v := .tuple #[numV x, .bool true]) (fun _ => rfl) rfl ?_
  simp only [Act.put, List.setIfInBounds_toArray, List.set_cons_zero, List.set_cons_succ]
  refine wl_pure (v := numV x) (fun _ => rfl) rfl ?_
  simp only [Act.put, List.setIfInBounds_toArray, List.set_cons_zero, List.set_cons_succ]
  refine wl_pure (v := .bool true) (fun _ => rfl) rfl ?_
  simp only [Act.put, List.setIfInBounds_toArray, List.set_cons_zero, List.set_cons_succ]
  refine wl_new hM8 (f := fun b => .pointer (some ⟨b, 0, none⟩)) (ob := .cells z4 24 (0, 0)) (fun W => run_alloc_of rfl (al_Nu W)) rfl fun b3 W9 hM9 => ?_
  simp only [Act.put, List.setIfInBounds_toArray, List.set_cons_zero, List.set_cons_succ]
  refine wl_set hM9 0 (cs := (elR x)) rfl rfl rfl rfl rowNu rfl (one_el x) rfl rfl fun W10 hM10 => ?_
  simp only [List.set_cons_zero, List.set_cons_succ] at hM10
  refine wl_pure (v := .bool true) (fun _ => rfl) rfl ?_
  simp only [Act.put, List.setIfInBounds_toArray, List.set_cons_zero, List.set_cons_succ]
  refine wpList_nil ?_
  (go_step; go_step; go_step; go_step; refine wp_region_inw 11 HMIX.out (by decide) (by kernel_rfl) (by kernel_rfl) ?_)
  refine inw_pure (v := .bool true) (fun _ => rfl) rfl rfl ?_; simp only [Act.put, List.setIfInBounds_toArray, List.set_cons_zero, List.set_cons_succ]
  refine inw_pure (v := .bool false) (fun W => run_not_of W rfl rfl rfl) rfl rfl ?_; simp only [Act.put, List.setIfInBounds_toArray, List.set_cons_zero, List.set_cons_succ]
  refine inw_pure (v := .bool false) (fun _ => rfl) rfl rfl ?_; simp only [Act.put, List.setIfInBounds_toArray, List.set_cons_zero, List.set_cons_succ]
  refine inw_pure (v := .int .u64 (bb : Int)) (fun _ => rfl) rfl rfl ?_; simp only [Act.put, List.setIfInBounds_toArray, List.set_cons_zero, List.set_cons_succ]
  refine inw_pure (v := .bool true) (fun W => run_bin_of rfl rfl rfl (by rw [show true = decide (bb = 1) from (decide_eq_true hb1).symm]; exact bin_eql_u64 bb _ _ W)) rfl rfl ?_; simp only [Act.put, List.setIfInBounds_toArray, List.set_cons_zero, List.set_cons_succ]
  refine inw_pure (v := .bool true) (fun _ => rfl) rfl rfl ?_; simp only [Act.put, List.setIfInBounds_toArray, List.set_cons_zero, List.set_cons_succ]
  refine inw_row hM10 0 (v := numV x) rfl rfl rfl rfl rowNu rfl rfl ?_; simp only [Act.put, List.setIfInBounds_toArray, List.set_cons_zero, List.set_cons_succ]
  refine inw_callV (args := #[.int .u64 0]) (v := numV 0) (fun W => run_call_fn W (enters_of Try.func35 rfl rfl) rfl (by simp [Act.eval])) (fun W _ => rsmall' 0 (by decide) W) rfl rfl ?_; simp only [Act.put, List.setIfInBounds_toArray, List.set_cons_zero, List.set_cons_succ]
  refine inw_pure (v := .bool false) (fun W => run_bin_of rfl rfl rfl (by rw [show false = decide (x = 0) from (decide_eq_false h0).symm]; exact bin_eql_nu4 x 0 _ _ W (of_PN hx) (of_PN PN_pos))) rfl rfl ?_; simp only [Act.put, List.setIfInBounds_toArray, List.set_cons_zero, List.set_cons_succ]
  refine inw_pure (v := .bool false) (fun _ => rfl) rfl rfl ?_; simp only [Act.put, List.setIfInBounds_toArray, List.set_cons_zero, List.set_cons_succ]
  refine inw_pure (v := .bool false) (fun _ => rfl) rfl rfl ?_; simp only [Act.put, List.setIfInBounds_toArray, List.set_cons_zero, List.set_cons_succ]
  refine inw_fin fun d os => ?_
  refine given_nil fun hap => ?_
  have hM11 := hM10.calls (below_regrown W10 d os)
  clear hap 
  generalize grow (redrawn W10 d) os = W11 at hM11 ⊢
  refine wpAny_done (by kernel_rfl) ?_ _
  (go_step; go_step; go_step; go_step; go_step; go_step; go_step; go_step; refine wp_region_lit ?_)
  refine wl_pure (v := .int .u64 (bb : Int)) (fun _ => rfl) rfl ?_
  simp only [Act.put, List.setIfInBounds_toArray, List.set_cons_zero, List.set_cons_succ]
  refine wl_pure (v := .bool true) (fun W => run_bin_of rfl rfl rfl (by rw [show true = decide (bb = 1) from (decide_eq_true hb1).symm]; exact bin_eql_u64 bb _ _ W)) rfl ?_
  simp only [Act.put, List.setIfInBounds_toArray, List.set_cons_zero, List.set_cons_succ]
  refine wpList_nil ?_
  (go_step; go_step; go_step; refine wp_region_inw 3 HMIX.out (by decide) (by kernel_rfl) (by kernel_rfl) ?_)
  refine inw_callV (args := #[.int .u64 0]) (v := numV 0) (fun W => run_call_fn W (enters_of Try.func35 rfl rfl) rfl (by simp [Act.eval])) (fun W _ => rsmall' 0 (by decide) W) rfl rfl ?_; simp only [Act.put, List.setIfInBounds_toArray, List.set_cons_zero, List.set_cons_succ]
  refine inw_row hM11 0 (v := numV x) rfl rfl rfl rfl rowNu rfl rfl ?_; simp only [Act.put, List.setIfInBounds_toArray, List.set_cons_zero, List.set_cons_succ]
  refine inw_callV (args := #[numV 0, numV x]) (v := numV x1) (fun W => run_call_fn W (enters_of Try.func36 rfl rfl) rfl (by simp [Act.eval])) (fun W _ => KSub.out W) rfl rfl ?_; simp only [Act.put, List.setIfInBounds_toArray, List.set_cons_zero, List.set_cons_succ]
  refine inw_fin fun d os => ?_
  refine given_nil fun hap => ?_
  have hM12 := hM11.calls (below_regrown W11 d os)
  clear hap 
  generalize grow (redrawn W11 d) os = W12 at hM12 ⊢
  change wpAny _ _ _ _ 1 _ _ _
  refine any_set (n := 3) (by kernel_rfl) rfl hM12 0 (cs := (elR x1)) rfl rfl rfl rfl rowNu rfl (one_el x1) rfl rfl fun W13 hM13 => ?_
  simp only [List.set_cons_zero, List.set_cons_succ] at hM13
  refine wpAny_done (by kernel_rfl) ?_ _
  (go_step; go_step; go_step; refine wp_region_lit ?_)
  refine wl_row hM13 0 (v := numV x1) rfl rfl rfl rfl rowNu rfl ?_
  simp only [Act.put, List.setIfInBounds_toArray, List.set_cons_zero, List.set_cons_succ]
  refine wl_row hM13 1 (v := numV m) rfl rfl rfl rfl rowNu rfl ?_
  simp only [Act.put, List.setIfInBounds_toArray, List.set_cons_zero, List.set_cons_succ]
  refine wl_call hM13 (args := #[numV x1, numV m]) (v := pv3 ((x1, m, 1))) (fun W => run_call_fn W (enters_of Try.func39 rfl rfl) rfl (by simp [Act.eval])) (rmake_any x1 m W13) rfl fun W14 hM14 => ?_
  simp only [Act.put, List.setIfInBounds_toArray, List.set_cons_zero, List.set_cons_succ]
  refine wl_set hM14 2 (cs := ((rpL x1 m 1).toArray)) rfl rfl rfl rfl rowRp rfl (one_rp _ _ _) rfl rfl fun W15 hM15 => ?_
  simp only [List.set_cons_zero, List.set_cons_succ] at hM15
  refine wl_pure (v := .int .i64 0) (fun _ => rfl) rfl ?_
  simp only [Act.put, List.setIfInBounds_toArray, List.set_cons_zero, List.set_cons_succ]
  refine wpList_nil ?_
  (go_step; go_step; go_step; refine bodyPost_ret (v := .tuple #[pv3 ((x1, m, 1)), .int .i64 0]) (results_arr_tmp Try.results17 rfl rfl (hM15.load 2 rfl rowRp)) rfl ⟨?_, hM15.below⟩)
  exact rfl
/-- What the reference's Decode answers of 32 bytes. -/
theorem rdecode_any (s : ByteArray) (hs : s.size = 32) : ∃ b : N3, Ok3 b (decP (leN s.data.toList)) ∧ ∀ w, Calls Try.prog 17 #[.string s] w fun E w' => E = .returned (.tuple #[pv3 b, .int .i64 (decE (leN s.data.toList) : Int)]) ∧ Below w.heap.size w w' := by
  have hNB := leN_B s hs
  obtain ⟨N, hN⟩ : ∃ N, leN s.data.toList = N := ⟨_, rfl⟩
  rw [hN] at hNB ⊢
  obtain ⟨b0, b1⟩ := decB_bit N
  have htb := top_bit N
  obtain ⟨y, x, ok, b, ey, hyN, ex, hok, hb, hE, hX, hP⟩ := dec_parts N
  have hmB : y < B64 ^ 4 := Nat.lt_of_le_of_lt hyN hNB
  have hxl : x < PN := by rw [ex]; exact rootN_below _
  by_cases hm : y < PN
  · rw [if_pos hm] at hE
    cases ok
    · rw [if_neg (by decide)] at hE
      rw [hE, if_neg (by decide)] at hP
      rw [hE, hP]
      exact ⟨(0, 1, 1), ok3_zero, fun w => rdec_no s hs N y _ x hN ey hmB rfl hm ex hok w⟩
    · rw [if_pos rfl] at hE
      have hon : On (fz x, fz y) := by rw [ex]; exact root_on y hok
      cases b
      · rw [if_neg (by simp)] at hE
        rw [if_neg (by decide)] at hX
        rw [hE, if_pos rfl, hX] at hP
        rw [hE, hP]
        exact ⟨_, ok3_at x y hxl hm hon, fun w => rdec_yes0 s hs N y _ x hN ey hmB htb hm ex hok (by rw [b0 hb]; decide) w⟩
      · by_cases h0 : x = 0
        · rw [if_pos ⟨rfl, h0⟩] at hE
          rw [hE, if_neg (by decide)] at hP
          rw [hE, hP]
          exact ⟨(0, 1, 1), ok3_zero, fun w => rdec_bad s hs N y _ x hN ey hmB htb hm ex hok (b1 hb) h0 w⟩
        · rw [if_neg (fun h => h0 h.2)] at hE
          rw [if_pos rfl] at hX
          rw [hE, if_pos rfl, hX] at hP
          have hon2 : On (fz ((0 + PN - x) % PN), fz y) := by rw [fz_negm x hxl]; exact on_neg (fz x, fz y) hon
          rw [hE, hP]
          exact ⟨_, ok3_at _ y (Nat.mod_lt _ PN_pos) hm hon2, fun w => rdec_yes1 s hs N y _ x hN ey hmB htb hm ex hok (b1 hb) h0 w⟩
  · rw [if_neg hm] at hE
    rw [hE, if_neg (by decide)] at hP
    rw [hE, hP]
    exact ⟨(0, 1, 1), ok3_zero, fun w => rdec_range s hs N y _ hN ey hmB rfl hm w⟩
end Go.Proofs.Ytigfoophimjgdaa
namespace Go.Proofs.Ytigfoophimjgdaa
set_option maxRecDepth 20000
set_option linter.unusedSimpArgs false
set_option linter.unusedVariables false
open Go.RowKit Go.Sort
theorem u32_nat (a : Int) (h : (Lit.int .u32 a).wf = true) : ∃ k : Nat, a = (k : Int) ∧ k < 4294967296 := by
  have ha : 0 ≤ a ∧ a ≤ 4294967295 := by simpa [Lit.wf, IntKind.min, IntKind.max, IntKind.signed, IntKind.bits] using h
  exact ⟨a.toNat, by omega, by omega⟩
theorem u8_nat (a : Int) (h : (Lit.int .u8 a).wf = true) : ∃ k : Nat, a = (k : Int) ∧ k < 256 := by
  have ha : 0 ≤ a ∧ a ≤ 255 := by simpa [Lit.wf, IntKind.min, IntKind.max, IntKind.signed, IntKind.bits] using h
  exact ⟨a.toNat, by omega, by omega⟩
/-- A multiple of the base, both ways. -/
theorem both_ex (k : Nat) (hk : k < 4294967296) : ∃ (a : N4) (b : N3), Ok4 a (timesE k baseE) ∧ Ok3 b (timesE k baseE) ∧ ∀ w, Calls Try.prog 7 #[.int .u32 (k : Int)] w fun E w' => E = .returned (.tuple #[pv4 a, pv3 b]) ∧ Below w.heap.size w w' :=
  ⟨_, _, ok4_p _ (on_times baseE on_base k), ok3_times ok3_base k (Nat.lt_of_lt_of_le hk (by decide +kernel)), both_any k hk⟩
theorem rptadd3 {a b : N3} {p q : Pt} (ha : Ok3 a p) (hb : Ok3 b q) (w : World) : Calls Try.prog 10 #[pv3 a, pv3 b, numV dN] w fun E w' => E = .returned (pv3 (add3 a b)) ∧ Below w.heap.size w w' := add3_any a b w ha.is hb.is
theorem is_eq {a : N4} {b : N3} {p q : Pt} (ha : Ok4 a p) (hb : Ok3 b q) (h : p = q) (w : World) : Calls Try.prog 18 #[pv4 a, pv3 b] w fun E w' => E = .returned (.bool true) ∧ Below w.heap.size w w' := by
  subst h
  exact is_yes ha hb w
theorem zz2 (p q : Pt) (hp : On p) (hq : On q) : addE (addE zeroE p) q = addE p q := by rw [zeroAdd p hp]
theorem zz3 (p q r : Pt) (hp : On p) (hq : On q) (hr : On r) : addE (addE zeroE (addE (addE zeroE p) q)) r = addE (addE p q) r := by rw [zz2 p q hp hq, zeroAdd _ (on_add p q hp hq)]
theorem zz4 (p q : Pt) (hp : On p) (hq : On q) : addE (addE (addE zeroE p) q) (addE (addE zeroE p) q) = addE (addE p q) (addE p q) := by rw [zz2 p q hp hq]
theorem zz5 (p q : Pt) (hp : On p) (hq : On q) : negE (addE (addE zeroE p) q) = negE (addE p q) := by rw [zz2 p q hp hq]
theorem zz6 (p q r : Pt) (hp : On p) (hq : On q) (hr : On r) : addE (addE (addE zeroE (addE (addE zeroE p) q)) r) (addE (addE zeroE p) q) = addE (addE (addE p q) r) (addE p q) := by rw [zz3 p q r hp hq hr, zz2 p q hp hq]
theorem cv8 (m m8 : Nat) (h : m % 256 = m8) (W : World) : (convert 22 5 (.int .u32 (m : Int))).run Try.prog W = .ok (.int .u8 (m8 : Int)) W := by
  have e : IntKind.u8.wrap (m : Int) = (m8 : Int) := by rw [IntKind.wrap_u8]; omega
  go_simp
theorem bin_eql_u32 (k l : Nat) (x y : Operand) (W : World) : (do eqGuard .eql 22 x y (.int .u32 (k : Int)) (.int .u32 (l : Int)); binOp .eql 22 (.int .u32 (k : Int)) (.int .u32 (l : Int)) : Sem Value).run Try.prog W = .ok (.bool (decide (k = l))) W := by
  have e : ((k : Int) == (l : Int)) = decide (k = l) := by
    by_cases h : k = l
    · subst h; simp
    · rw [decide_eq_false h]
      exact beq_eq_false_iff_ne.2 (by omega)
  go_simp
theorem bin_eql_bb (c : Prop) [Decidable c] (x y : Operand) (W : World) : (do eqGuard .eql 4 x y (.bool (decide c)) (.bool (decide c)); binOp .eql 4 (.bool (decide c)) (.bool (decide c)) : Sem Value).run Try.prog W = .ok (.bool true) W := by
  have h := bin_eql_b (decide c) (decide c) x y W
  rw [beq_self_eq_true] at h
  exact h
theorem same_kl {a b : N4} {p q : Pt} {k l : Nat} (ha : Ok4 a p) (hb : Ok4 b q) (h : p = q ↔ k = l) (w : World) : Calls Try.prog 15 #[pv4 a, pv4 b] w fun E w' => E = .returned (.bool (decide (k = l))) ∧ Below w.heap.size w w' := by
  have hc := samep4 ha hb w
  rw [show decide (p = q) = decide (k = l) from decide_eq_decide.2 h] at hc
  exact hc
theorem y1 (p q r : Pt) (hp : On p) (hq : On q) (hr : On r) : addE (addE zeroE (addE (addE zeroE p) q)) r = addE (addE zeroE p) (addE (addE zeroE q) r) := by
  rw [zz3 p q r hp hq hr, zeroAdd p hp, zeroAdd q hq, add_assoc' p q r hp hq hr]
theorem y2 (p q r : Pt) (hp : On p) (hq : On q) (hr : On r) : addE (addE zeroE (addE (addE zeroE p) q)) r = addE (addE (addE zeroE r) q) p := by
  rw [zz3 p q r hp hq hr, zeroAdd r hr, add_assoc' p q r hp hq hr, add_comm' p, add_comm' q r]
theorem y3 (p : Pt) (hp : On p) : addE (addE zeroE p) zeroE = p := by rw [zeroAdd p hp, add_zero' p hp]
theorem y4 (p q : Pt) (hp : On p) (hq : On q) : addE p q = addE (addE zeroE p) q := by rw [zeroAdd p hp]
theorem y5 (p : Pt) (hp : On p) : addE p p = addE (addE zeroE p) p := by rw [zeroAdd p hp]
end Go.Proofs.Ytigfoophimjgdaa
