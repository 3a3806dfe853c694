/- The reference's Content (layer 32). Written by kp_gen_j.py. -/
import Derived.Test.YtbheiglbejokmaaKepI
import Derived.Test.YtbheiglbejokmaaHlw
namespace Go.Proofs.Ytbheiglbejokmaa
set_option maxRecDepth 20000
set_option linter.unusedSimpArgs false
set_option linter.unusedVariables false
open Go.RowKit Go.Sort Go.Lib Go.MapKept
attribute [local go_sem] Oper.semAt_some
theorem tl_rul : kk_rul.toList = [109, 46, 114, 111, 111, 109, 46, 106, 111, 105, 110, 95, 114, 117, 108, 101, 115] := by kernel_rfl
theorem is_rul (s : ByteArray) : (s.toList == [109, 46, 114, 111, 111, 109, 46, 106, 111, 105, 110, 95, 114, 117, 108, 101, 115]) = decide (s = kk_rul) := by
  rw [← tl_rul]
  by_cases c : s = kk_rul
  · rw [c]; simp
  · rw [text_ne c]; simp [c]
theorem tl_lev : kk_lev.toList = [109, 46, 114, 111, 111, 109, 46, 112, 111, 119, 101, 114, 95, 108, 101, 118, 101, 108, 115] := by kernel_rfl
theorem is_lev (s : ByteArray) : (s.toList == [109, 46, 114, 111, 111, 109, 46, 112, 111, 119, 101, 114, 95, 108, 101, 118, 101, 108, 115]) = decide (s = kk_lev) := by
  rw [← tl_lev]
  by_cases c : s = kk_lev
  · rw [c]; simp
  · rw [text_ne c]; simp [c]
theorem tl_ali : kk_ali.toList = [109, 46, 114, 111, 111, 109, 46, 97, 108, 105, 97, 115, 101, 115] := by kernel_rfl
theorem is_ali (s : ByteArray) : (s.toList == [109, 46, 114, 111, 111, 109, 46, 97, 108, 105, 97, 115, 101, 115]) = decide (s = kk_ali) := by
  rw [← tl_ali]
  by_cases c : s = kk_ali
  · rw [c]; simp
  · rw [text_ne c]; simp [c]
theorem tl_his : kk_his.toList = [109, 46, 114, 111, 111, 109, 46, 104, 105, 115, 116, 111, 114, 121, 95, 118, 105, 115, 105, 98, 105, 108, 105, 116, 121] := by kernel_rfl
theorem is_his (s : ByteArray) : (s.toList == [109, 46, 114, 111, 111, 109, 46, 104, 105, 115, 116, 111, 114, 121, 95, 118, 105, 115, 105, 98, 105, 108, 105, 116, 121]) = decide (s = kk_his) := by
  rw [← tl_his]
  by_cases c : s = kk_his
  · rw [c]; simp
  · rw [text_ne c]; simp [c]
theorem tl_red : kk_red.toList = [109, 46, 114, 111, 111, 109, 46, 114, 101, 100, 97, 99, 116, 105, 111, 110] := by kernel_rfl
theorem is_red (s : ByteArray) : (s.toList == [109, 46, 114, 111, 111, 109, 46, 114, 101, 100, 97, 99, 116, 105, 111, 110]) = decide (s = kk_red) := by
  rw [← tl_red]
  by_cases c : s = kk_red
  · rw [c]; simp
  · rw [text_ne c]; simp [c]
/-- The reference's Of, of a version. -/
theorem rof_mem (v : Int) (w : World) (hv : verB v = true) : Calls Try.prog 51 #[.int .i64 v] w fun e w' => ∃ rb, e = .returned (.tuple #[.slice (some ⟨rb, 0, none⟩) 7 7, .bool true]) ∧ Mem w [(rb, .cells #[.bool (gA v), .bool (gA v), .bool (gB v), .bool (gC v), .bool (gD v), .bool (gE v), .bool (gF v)] 4 (0, 0))] w' := by
  have hn : 1 ≤ v ∧ v ≤ 11 := by simpa [verB] using hv
  obtain ⟨f1, f2, f3, f4, f5, f6, f7⟩ := g_in v hn.1 hn.2
  refine (rof_in v w hn.1 hn.2).mono ?_
  rintro e w' ⟨rfl, rfl⟩
  refine ⟨_, rfl, ?_⟩
  rw [← f1, ← f2, ← f3, ← f4, ← f5, ← f6]
  exact (Mem.start w).new1 _
theorem ix_bools (b len cap i : Nat) (hi : i < len) (W : World) : (Instr.indexAt 58 (.slice (some ⟨b, 0, none⟩) len cap) (.int .i64 (i : Int))).run Try.prog W = .ok (.pointer (some ⟨b, i, none⟩)) W := by
  have h1 : (i : Int) < (len : Int) := by omega
  have e : (⟨b, 0, none⟩ : Addr).add i = ⟨b, i, none⟩ := by unfold Addr.add; split <;> simp_all
  go_simp
theorem bsr_mem (W : World) : (Instr.buildSlice 22 3 #[(0, .string kk_authd), (1, .string kk_membership), (2, .string kk_inv3)]).run Try.prog W = .ok (.slice (some ⟨W.heap.size, 0, none⟩) 3 3) (W.alloc (.cells (vsT [kk_authd, kk_membership, kk_inv3] ++ []).toArray 9 (0, 0))) := by go_simp; rfl
theorem bsr_rul (W : World) : (Instr.buildSlice 22 2 #[(0, .string kk_allow), (1, .string kk_join_rule)]).run Try.prog W = .ok (.slice (some ⟨W.heap.size, 0, none⟩) 2 2) (W.alloc (.cells (vsT [kk_allow, kk_join_rule] ++ []).toArray 9 (0, 0))) := by go_simp; rfl
theorem bsr_lev (W : World) : (Instr.buildSlice 22 9 #[(0, .string kk_ban), (1, .string kk_events), (2, .string kk_events_default), (3, .string kk_invite), (4, .string kk_kick), (5, .string kk_redact), (6, .string kk_state_default), (7, .string kk_users), (8, .string kk_users_default)]).run Try.prog W = .ok (.slice (some ⟨W.heap.size, 0, none⟩) 9 9) (W.alloc (.cells (vsT [kk_ban, kk_events, kk_events_default, kk_invite, kk_kick, kk_redact, kk_state_default, kk_users, kk_users_default] ++ []).toArray 9 (0, 0))) := by go_simp; rfl
theorem bsb_1 (q0 : Bool) (W : World) : (Instr.buildSlice 58 1 #[(0, .bool q0)]).run Try.prog W = .ok (.slice (some ⟨W.heap.size, 0, none⟩) 1 1) (W.alloc (.cells ([q0].map Value.bool).toArray 4 (0, 0))) := by go_simp; try rfl
theorem bsb_2 (q0 q1 : Bool) (W : World) : (Instr.buildSlice 58 2 #[(0, .bool q0), (1, .bool q1)]).run Try.prog W = .ok (.slice (some ⟨W.heap.size, 0, none⟩) 2 2) (W.alloc (.cells ([q0, q1].map Value.bool).toArray 4 (0, 0))) := by go_simp; try rfl
theorem bsb_3 (q0 q1 q2 : Bool) (W : World) : (Instr.buildSlice 58 3 #[(0, .bool q0), (1, .bool q1), (2, .bool q2)]).run Try.prog W = .ok (.slice (some ⟨W.heap.size, 0, none⟩) 3 3) (W.alloc (.cells ([q0, q1, q2].map Value.bool).toArray 4 (0, 0))) := by go_simp; try rfl
theorem bsb_9 (q0 q1 q2 q3 q4 q5 q6 q7 q8 : Bool) (W : World) : (Instr.buildSlice 58 9 #[(0, .bool q0), (1, .bool q1), (2, .bool q2), (3, .bool q3), (4, .bool q4), (5, .bool q5), (6, .bool q6), (7, .bool q7), (8, .bool q8)]).run Try.prog W = .ok (.slice (some ⟨W.heap.size, 0, none⟩) 9 9) (W.alloc (.cells ([q0, q1, q2, q3, q4, q5, q6, q7, q8].map Value.bool).toArray 4 (0, 0))) := by go_simp; try rfl
set_option maxHeartbeats 2000000 in
set_option maxRecDepth 20000 in
theorem rcont_rul (w : World) (v : Int) (kind : ByteArray) (hv : verB v = true) (c0 : (kind.toList == [109, 46, 114, 111, 111, 109, 46, 109, 101, 109, 98, 101, 114]) = false) (c1 : (kind.toList == [109, 46, 114, 111, 111, 109, 46, 99, 114, 101, 97, 116, 101]) = false) (c2 : (kind.toList == [109, 46, 114, 111, 111, 109, 46, 106, 111, 105, 110, 95, 114, 117, 108, 101, 115]) = true) (c3 : (kind.toList == [109, 46, 114, 111, 111, 109, 46, 112, 111, 119, 101, 114, 95, 108, 101, 118, 101, 108, 115]) = false) (c4 : (kind.toList == [109, 46, 114, 111, 111, 109, 46, 97, 108, 105, 97, 115, 101, 115]) = false) (c5 : (kind.toList == [109, 46, 114, 111, 111, 109, 46, 104, 105, 115, 116, 111, 114, 121, 95, 118, 105, 115, 105, 98, 105, 108, 105, 116, 121]) = false) (c6 : (kind.toList == [109, 46, 114, 111, 111, 109, 46, 114, 101, 100, 97, 99, 116, 105, 111, 110]) = false) :
    Calls Try.prog 23 #[.int .i64 v, .string kind] w fun e w' => ∃ x, e = .returned (.tuple #[x, .bool false]) ∧ TxAt w' x (selT [kk_allow, kk_join_rule] [gD v, true] 2) ∧ Below w.heap.size w w' := by
  have HMIX := Lib.hid (show Try.prog.follows .mixedOrders = true by kernel_rfl)
  have KO := Lib.hid (rof_mem v w hv)
  generalize gA v = p1 at KO ⊢
  generalize gB v = p2 at KO ⊢
  generalize gC v = p3 at KO ⊢
  generalize gD v = p4 at KO ⊢
  generalize gE v = p5 at KO ⊢
  generalize gF v = p6 at KO ⊢
  clear hv
  go_enter Try.func23, Try.ntmps23
  go_upto_region 12 with (go_at_call 51; refine KO.out.mono ?_; rintro e w1 ⟨rb, rfl, hM1⟩)
  refine wp_region_lit ?_
  refine wl_new hM1 (f := fun b => .slice (some ⟨b, 0, none⟩) 2 2) (ob := .cells (vsT [kk_allow, kk_join_rule] ++ []).toArray 9 (0, 0)) (fun W => run_slice_of rfl (by simp [Act.eval]; exact ⟨rfl, rfl⟩) (bsr_rul W)) rfl fun g W2 hM2 => ?_
  simp only [nm0, nm1, nm2, nm3]
  refine wl_pure (v := .slice (some ⟨rb, 0, none⟩) 7 7) (fun W => rfl) rfl ?_
  simp only [nm0, nm1, nm2, nm3]
  refine wl_pure (v := .pointer (some ⟨rb, 4, none⟩)) (fun W => run_index_of rfl rfl rfl (ix_bools rb 7 7 4 (by decide) W)) rfl ?_
  simp only [nm0, nm1, nm2, nm3]
  refine wl_cell hM2 1 (v := .bool p4) rfl rfl rfl rfl cellBoolK rfl ?_
  simp only [nm0, nm1, nm2, nm3]
  refine wl_new hM2 (f := fun b => .slice (some ⟨b, 0, none⟩) 2 2) (ob := .cells ([p4, true].map Value.bool).toArray 4 (0, 0)) (fun W => run_slice_of rfl (by simp [Act.eval]; try rfl) (bsb_2 p4 true W)) rfl fun h W3 hM3 => ?_
  simp only [nm0, nm1, nm2, nm3]
  refine wl_callX (args := #[.slice (some ⟨g, 0, none⟩) 2 2, .slice (some ⟨h, 0, none⟩) 2 2]) (fun W => run_call_fn W (enters_of Try.func53 (by kernel_rfl) rfl) rfl (by simp [Act.eval]; try rfl)) (some_any W3 g h 2 [kk_allow, kk_join_rule] [p4, true] (hM3.get 1 rfl) (hM3.get 0 rfl) rfl rfl (by decide)) rfl ?_
  rintro e W4 ⟨x, rfl, hT, hb⟩
  refine ⟨_, rfl, ?_⟩
  simp only [nm0, nm1, nm2, nm3]
  refine wl_pure (v := x) (fun W => rfl) rfl ?_
  simp only [nm0, nm1, nm2, nm3]
  refine wl_pure (v := .bool false) (fun W => rfl) rfl ?_
  simp only [nm0, nm1, nm2, nm3]
  refine wpList_nil ?_
  have HB := Lib.hid (hM3.calls hb).below
  have HT := Lib.hid hT
  clear hT hb hM1 hM2 hM3
  go_wp2_with fail
  exact bodyPost_ret (results_tt rfl rfl rfl) rfl ⟨x, rfl, HT.out, HB.out⟩
set_option maxHeartbeats 2000000 in
set_option maxRecDepth 20000 in
theorem rcont_lev (w : World) (v : Int) (kind : ByteArray) (hv : verB v = true) (c0 : (kind.toList == [109, 46, 114, 111, 111, 109, 46, 109, 101, 109, 98, 101, 114]) = false) (c1 : (kind.toList == [109, 46, 114, 111, 111, 109, 46, 99, 114, 101, 97, 116, 101]) = false) (c2 : (kind.toList == [109, 46, 114, 111, 111, 109, 46, 106, 111, 105, 110, 95, 114, 117, 108, 101, 115]) = false) (c3 : (kind.toList == [109, 46, 114, 111, 111, 109, 46, 112, 111, 119, 101, 114, 95, 108, 101, 118, 101, 108, 115]) = true) (c4 : (kind.toList == [109, 46, 114, 111, 111, 109, 46, 97, 108, 105, 97, 115, 101, 115]) = false) (c5 : (kind.toList == [109, 46, 114, 111, 111, 109, 46, 104, 105, 115, 116, 111, 114, 121, 95, 118, 105, 115, 105, 98, 105, 108, 105, 116, 121]) = false) (c6 : (kind.toList == [109, 46, 114, 111, 111, 109, 46, 114, 101, 100, 97, 99, 116, 105, 111, 110]) = false) :
    Calls Try.prog 23 #[.int .i64 v, .string kind] w fun e w' => ∃ x, e = .returned (.tuple #[x, .bool false]) ∧ TxAt w' x (selT [kk_ban, kk_events, kk_events_default, kk_invite, kk_kick, kk_redact, kk_state_default, kk_users, kk_users_default] [true, true, true, gF v, true, true, true, true, true] 9) ∧ Below w.heap.size w w' := by
  have HMIX := Lib.hid (show Try.prog.follows .mixedOrders = true by kernel_rfl)
  have KO := Lib.hid (rof_mem v w hv)
  generalize gA v = p1 at KO ⊢
  generalize gB v = p2 at KO ⊢
  generalize gC v = p3 at KO ⊢
  generalize gD v = p4 at KO ⊢
  generalize gE v = p5 at KO ⊢
  generalize gF v = p6 at KO ⊢
  clear hv
  go_enter Try.func23, Try.ntmps23
  go_upto_region 14 with (go_at_call 51; refine KO.out.mono ?_; rintro e w1 ⟨rb, rfl, hM1⟩)
  refine wp_region_lit ?_
  refine wl_new hM1 (f := fun b => .slice (some ⟨b, 0, none⟩) 9 9) (ob := .cells (vsT [kk_ban, kk_events, kk_events_default, kk_invite, kk_kick, kk_redact, kk_state_default, kk_users, kk_users_default] ++ []).toArray 9 (0, 0)) (fun W => run_slice_of rfl (by simp [Act.eval]; exact ⟨rfl, rfl, rfl, rfl, rfl, rfl, rfl, rfl, rfl⟩) (bsr_lev W)) rfl fun g W2 hM2 => ?_
  simp only [nm0, nm1, nm2, nm3]
  refine wl_pure (v := .slice (some ⟨rb, 0, none⟩) 7 7) (fun W => rfl) rfl ?_
  simp only [nm0, nm1, nm2, nm3]
  refine wl_pure (v := .pointer (some ⟨rb, 6, none⟩)) (fun W => run_index_of rfl rfl rfl (ix_bools rb 7 7 6 (by decide) W)) rfl ?_
  simp only [nm0, nm1, nm2, nm3]
  refine wl_cell hM2 1 (v := .bool p6) rfl rfl rfl rfl cellBoolK rfl ?_
  simp only [nm0, nm1, nm2, nm3]
  refine wl_new hM2 (f := fun b => .slice (some ⟨b, 0, none⟩) 9 9) (ob := .cells ([true, true, true, p6, true, true, true, true, true].map Value.bool).toArray 4 (0, 0)) (fun W => run_slice_of rfl (by simp [Act.eval]; try rfl) (bsb_9 true true true p6 true true true true true W)) rfl fun h W3 hM3 => ?_
  simp only [nm0, nm1, nm2, nm3]
  refine wl_callX (args := #[.slice (some ⟨g, 0, none⟩) 9 9, .slice (some ⟨h, 0, none⟩) 9 9]) (fun W => run_call_fn W (enters_of Try.func53 (by kernel_rfl) rfl) rfl (by simp [Act.eval]; try rfl)) (some_any W3 g h 9 [kk_ban, kk_events, kk_events_default, kk_invite, kk_kick, kk_redact, kk_state_default, kk_users, kk_users_default] [true, true, true, p6, true, true, true, true, true] (hM3.get 1 rfl) (hM3.get 0 rfl) rfl rfl (by decide)) rfl ?_
  rintro e W4 ⟨x, rfl, hT, hb⟩
  refine ⟨_, rfl, ?_⟩
  simp only [nm0, nm1, nm2, nm3]
  refine wl_pure (v := x) (fun W => rfl) rfl ?_
  simp only [nm0, nm1, nm2, nm3]
  refine wl_pure (v := .bool false) (fun W => rfl) rfl ?_
  simp only [nm0, nm1, nm2, nm3]
  refine wpList_nil ?_
  have HB := Lib.hid (hM3.calls hb).below
  have HT := Lib.hid hT
  clear hT hb hM1 hM2 hM3
  go_wp2_with fail
  exact bodyPost_ret (results_tt rfl rfl rfl) rfl ⟨x, rfl, HT.out, HB.out⟩
set_option maxHeartbeats 2000000 in
set_option maxRecDepth 20000 in
theorem rcont_ali (w : World) (v : Int) (kind : ByteArray) (hv : verB v = true) (c0 : (kind.toList == [109, 46, 114, 111, 111, 109, 46, 109, 101, 109, 98, 101, 114]) = false) (c1 : (kind.toList == [109, 46, 114, 111, 111, 109, 46, 99, 114, 101, 97, 116, 101]) = false) (c2 : (kind.toList == [109, 46, 114, 111, 111, 109, 46, 106, 111, 105, 110, 95, 114, 117, 108, 101, 115]) = false) (c3 : (kind.toList == [109, 46, 114, 111, 111, 109, 46, 112, 111, 119, 101, 114, 95, 108, 101, 118, 101, 108, 115]) = false) (c4 : (kind.toList == [109, 46, 114, 111, 111, 109, 46, 97, 108, 105, 97, 115, 101, 115]) = true) (c5 : (kind.toList == [109, 46, 114, 111, 111, 109, 46, 104, 105, 115, 116, 111, 114, 121, 95, 118, 105, 115, 105, 98, 105, 108, 105, 116, 121]) = false) (c6 : (kind.toList == [109, 46, 114, 111, 111, 109, 46, 114, 101, 100, 97, 99, 116, 105, 111, 110]) = false) :
    Calls Try.prog 23 #[.int .i64 v, .string kind] w fun e w' => ∃ x, e = .returned (.tuple #[x, .bool false]) ∧ TxAt w' x (selT [kk_aliases] [gC v] 1) ∧ Below w.heap.size w w' := by
  have HMIX := Lib.hid (show Try.prog.follows .mixedOrders = true by kernel_rfl)
  have KO := Lib.hid (rof_mem v w hv)
  generalize gA v = p1 at KO ⊢
  generalize gB v = p2 at KO ⊢
  generalize gC v = p3 at KO ⊢
  generalize gD v = p4 at KO ⊢
  generalize gE v = p5 at KO ⊢
  generalize gF v = p6 at KO ⊢
  clear hv
  go_enter Try.func23, Try.ntmps23
  go_upto_region 16 with (go_at_call 51; refine KO.out.mono ?_; rintro e w1 ⟨rb, rfl, hM1⟩)
  refine wp_region_lit ?_
  refine wl_new hM1 (f := fun b => .slice (some ⟨b, 0, none⟩) 1 1) (ob := .cells (vsT [kk_aliases] ++ []).toArray 9 (0, 0)) (fun W => run_slice_of rfl (by simp [Act.eval]; try rfl) (bs_str kk_aliases W)) rfl fun g W2 hM2 => ?_
  simp only [nm0, nm1, nm2, nm3]
  refine wl_pure (v := .slice (some ⟨rb, 0, none⟩) 7 7) (fun W => rfl) rfl ?_
  simp only [nm0, nm1, nm2, nm3]
  refine wl_pure (v := .pointer (some ⟨rb, 3, none⟩)) (fun W => run_index_of rfl rfl rfl (ix_bools rb 7 7 3 (by decide) W)) rfl ?_
  simp only [nm0, nm1, nm2, nm3]
  refine wl_cell hM2 1 (v := .bool p3) rfl rfl rfl rfl cellBoolK rfl ?_
  simp only [nm0, nm1, nm2, nm3]
  refine wl_new hM2 (f := fun b => .slice (some ⟨b, 0, none⟩) 1 1) (ob := .cells ([p3].map Value.bool).toArray 4 (0, 0)) (fun W => run_slice_of rfl (by simp [Act.eval]; try rfl) (bsb_1 p3 W)) rfl fun h W3 hM3 => ?_
  simp only [nm0, nm1, nm2, nm3]
  refine wl_callX (args := #[.slice (some ⟨g, 0, none⟩) 1 1, .slice (some ⟨h, 0, none⟩) 1 1]) (fun W => run_call_fn W (enters_of Try.func53 (by kernel_rfl) rfl) rfl (by simp [Act.eval]; try rfl)) (some_any W3 g h 1 [kk_aliases] [p3] (hM3.get 1 rfl) (hM3.get 0 rfl) rfl rfl (by decide)) rfl ?_
  rintro e W4 ⟨x, rfl, hT, hb⟩
  refine ⟨_, rfl, ?_⟩
  simp only [nm0, nm1, nm2, nm3]
  refine wl_pure (v := x) (fun W => rfl) rfl ?_
  simp only [nm0, nm1, nm2, nm3]
  refine wl_pure (v := .bool false) (fun W => rfl) rfl ?_
  simp only [nm0, nm1, nm2, nm3]
  refine wpList_nil ?_
  have HB := Lib.hid (hM3.calls hb).below
  have HT := Lib.hid hT
  clear hT hb hM1 hM2 hM3
  go_wp2_with fail
  exact bodyPost_ret (results_tt rfl rfl rfl) rfl ⟨x, rfl, HT.out, HB.out⟩
set_option maxHeartbeats 2000000 in
set_option maxRecDepth 20000 in
theorem rcont_red (w : World) (v : Int) (kind : ByteArray) (hv : verB v = true) (c0 : (kind.toList == [109, 46, 114, 111, 111, 109, 46, 109, 101, 109, 98, 101, 114]) = false) (c1 : (kind.toList == [109, 46, 114, 111, 111, 109, 46, 99, 114, 101, 97, 116, 101]) = false) (c2 : (kind.toList == [109, 46, 114, 111, 111, 109, 46, 106, 111, 105, 110, 95, 114, 117, 108, 101, 115]) = false) (c3 : (kind.toList == [109, 46, 114, 111, 111, 109, 46, 112, 111, 119, 101, 114, 95, 108, 101, 118, 101, 108, 115]) = false) (c4 : (kind.toList == [109, 46, 114, 111, 111, 109, 46, 97, 108, 105, 97, 115, 101, 115]) = false) (c5 : (kind.toList == [109, 46, 114, 111, 111, 109, 46, 104, 105, 115, 116, 111, 114, 121, 95, 118, 105, 115, 105, 98, 105, 108, 105, 116, 121]) = false) (c6 : (kind.toList == [109, 46, 114, 111, 111, 109, 46, 114, 101, 100, 97, 99, 116, 105, 111, 110]) = true) :
    Calls Try.prog 23 #[.int .i64 v, .string kind] w fun e w' => ∃ x, e = .returned (.tuple #[x, .bool false]) ∧ TxAt w' x (selT [kk_redacts] [gF v] 1) ∧ Below w.heap.size w w' := by
  have HMIX := Lib.hid (show Try.prog.follows .mixedOrders = true by kernel_rfl)
  have KO := Lib.hid (rof_mem v w hv)
  generalize gA v = p1 at KO ⊢
  generalize gB v = p2 at KO ⊢
  generalize gC v = p3 at KO ⊢
  generalize gD v = p4 at KO ⊢
  generalize gE v = p5 at KO ⊢
  generalize gF v = p6 at KO ⊢
  clear hv
  go_enter Try.func23, Try.ntmps23
  go_upto_region 20 with (go_at_call 51; refine KO.out.mono ?_; rintro e w1 ⟨rb, rfl, hM1⟩)
  refine wp_region_lit ?_
  refine wl_new hM1 (f := fun b => .slice (some ⟨b, 0, none⟩) 1 1) (ob := .cells (vsT [kk_redacts] ++ []).toArray 9 (0, 0)) (fun W => run_slice_of rfl (by simp [Act.eval]; try rfl) (bs_str kk_redacts W)) rfl fun g W2 hM2 => ?_
  simp only [nm0, nm1, nm2, nm3]
  refine wl_pure (v := .slice (some ⟨rb, 0, none⟩) 7 7) (fun W => rfl) rfl ?_
  simp only [nm0, nm1, nm2, nm3]
  refine wl_pure (v := .pointer (some ⟨rb, 6, none⟩)) (fun W => run_index_of rfl rfl rfl (ix_bools rb 7 7 6 (by decide) W)) rfl ?_
  simp only [nm0, nm1, nm2, nm3]
  refine wl_cell hM2 1 (v := .bool p6) rfl rfl rfl rfl cellBoolK rfl ?_
  simp only [nm0, nm1, nm2, nm3]
  refine wl_new hM2 (f := fun b => .slice (some ⟨b, 0, none⟩) 1 1) (ob := .cells ([p6].map Value.bool).toArray 4 (0, 0)) (fun W => run_slice_of rfl (by simp [Act.eval]; try rfl) (bsb_1 p6 W)) rfl fun h W3 hM3 => ?_
  simp only [nm0, nm1, nm2, nm3]
  refine wl_callX (args := #[.slice (some ⟨g, 0, none⟩) 1 1, .slice (some ⟨h, 0, none⟩) 1 1]) (fun W => run_call_fn W (enters_of Try.func53 (by kernel_rfl) rfl) rfl (by simp [Act.eval]; try rfl)) (some_any W3 g h 1 [kk_redacts] [p6] (hM3.get 1 rfl) (hM3.get 0 rfl) rfl rfl (by decide)) rfl ?_
  rintro e W4 ⟨x, rfl, hT, hb⟩
  refine ⟨_, rfl, ?_⟩
  simp only [nm0, nm1, nm2, nm3]
  refine wl_pure (v := x) (fun W => rfl) rfl ?_
  simp only [nm0, nm1, nm2, nm3]
  refine wl_pure (v := .bool false) (fun W => rfl) rfl ?_
  simp only [nm0, nm1, nm2, nm3]
  refine wpList_nil ?_
  have HB := Lib.hid (hM3.calls hb).below
  have HT := Lib.hid hT
  clear hT hb hM1 hM2 hM3
  go_wp2_with fail
  exact bodyPost_ret (results_tt rfl rfl rfl) rfl ⟨x, rfl, HT.out, HB.out⟩
set_option maxHeartbeats 2000000 in
set_option maxRecDepth 20000 in
theorem rcont_his (w : World) (v : Int) (kind : ByteArray) (hv : verB v = true) (c0 : (kind.toList == [109, 46, 114, 111, 111, 109, 46, 109, 101, 109, 98, 101, 114]) = false) (c1 : (kind.toList == [109, 46, 114, 111, 111, 109, 46, 99, 114, 101, 97, 116, 101]) = false) (c2 : (kind.toList == [109, 46, 114, 111, 111, 109, 46, 106, 111, 105, 110, 95, 114, 117, 108, 101, 115]) = false) (c3 : (kind.toList == [109, 46, 114, 111, 111, 109, 46, 112, 111, 119, 101, 114, 95, 108, 101, 118, 101, 108, 115]) = false) (c4 : (kind.toList == [109, 46, 114, 111, 111, 109, 46, 97, 108, 105, 97, 115, 101, 115]) = false) (c5 : (kind.toList == [109, 46, 114, 111, 111, 109, 46, 104, 105, 115, 116, 111, 114, 121, 95, 118, 105, 115, 105, 98, 105, 108, 105, 116, 121]) = true) (c6 : (kind.toList == [109, 46, 114, 111, 111, 109, 46, 114, 101, 100, 97, 99, 116, 105, 111, 110]) = false) :
    Calls Try.prog 23 #[.int .i64 v, .string kind] w fun e w' => ∃ x, e = .returned (.tuple #[x, .bool false]) ∧ TxAt w' x [kk_history_visibility] ∧ Below w.heap.size w w' := by
  have HMIX := Lib.hid (show Try.prog.follows .mixedOrders = true by kernel_rfl)
  have KO := Lib.hid (rof_mem v w hv)
  generalize gA v = p1 at KO ⊢
  generalize gB v = p2 at KO ⊢
  generalize gC v = p3 at KO ⊢
  generalize gD v = p4 at KO ⊢
  generalize gE v = p5 at KO ⊢
  generalize gF v = p6 at KO ⊢
  clear hv
  go_enter Try.func23, Try.ntmps23
  go_upto_region 18 with (go_at_call 51; refine KO.out.mono ?_; rintro e w1 ⟨rb, rfl, hM1⟩)
  refine wp_region_lit ?_
  refine wl_new hM1 (f := fun b => .slice (some ⟨b, 0, none⟩) 1 1) (ob := .cells (vsT [kk_history_visibility] ++ []).toArray 9 (0, 0)) (fun W => run_slice_of rfl (by simp [Act.eval]; try rfl) (bs_str kk_history_visibility W)) rfl fun g W2 hM2 => ?_
  simp only [nm0, nm1, nm2, nm3]
  refine wl_pure (v := .slice (some ⟨g, 0, none⟩) 1 1) (fun W => rfl) rfl ?_
  simp only [nm0, nm1, nm2, nm3]
  refine wl_pure (v := .bool false) (fun W => rfl) rfl ?_
  simp only [nm0, nm1, nm2, nm3]
  refine wpList_nil ?_
  have HB := Lib.hid hM2.below
  have HT := Lib.hid (row_tx (ok_row [kk_history_visibility] 1 rfl (by decide)) rfl (hM2.get 0 rfl))
  clear hM1 hM2
  go_wp2_with fail
  exact bodyPost_ret (results_tt rfl rfl rfl) rfl ⟨_, rfl, HT.out, HB.out⟩
set_option maxHeartbeats 2000000 in
set_option maxRecDepth 20000 in
theorem rcont_cre0 (w : World) (v : Int) (kind : ByteArray) (hv : verB v = true) (hF : gF v = false) (c0 : (kind.toList == [109, 46, 114, 111, 111, 109, 46, 109, 101, 109, 98, 101, 114]) = false) (c1 : (kind.toList == [109, 46, 114, 111, 111, 109, 46, 99, 114, 101, 97, 116, 101]) = true) (c2 : (kind.toList == [109, 46, 114, 111, 111, 109, 46, 106, 111, 105, 110, 95, 114, 117, 108, 101, 115]) = false) (c3 : (kind.toList == [109, 46, 114, 111, 111, 109, 46, 112, 111, 119, 101, 114, 95, 108, 101, 118, 101, 108, 115]) = false) (c4 : (kind.toList == [109, 46, 114, 111, 111, 109, 46, 97, 108, 105, 97, 115, 101, 115]) = false) (c5 : (kind.toList == [109, 46, 114, 111, 111, 109, 46, 104, 105, 115, 116, 111, 114, 121, 95, 118, 105, 115, 105, 98, 105, 108, 105, 116, 121]) = false) (c6 : (kind.toList == [109, 46, 114, 111, 111, 109, 46, 114, 101, 100, 97, 99, 116, 105, 111, 110]) = false) :
    Calls Try.prog 23 #[.int .i64 v, .string kind] w fun e w' => ∃ x, e = .returned (.tuple #[x, .bool false]) ∧ TxAt w' x [kk_creator] ∧ Below w.heap.size w w' := by
  have HMIX := Lib.hid (show Try.prog.follows .mixedOrders = true by kernel_rfl)
  have KO := Lib.hid (rof_mem v w hv)
  rw [hF] at KO
  generalize gA v = p1 at KO ⊢
  generalize gB v = p2 at KO ⊢
  generalize gC v = p3 at KO ⊢
  generalize gD v = p4 at KO ⊢
  generalize gE v = p5 at KO ⊢
  clear hv
  clear hF
  go_enter Try.func23, Try.ntmps23
  go_upto_region 8 with (go_at_call 51; refine KO.out.mono ?_; rintro e w1 ⟨rb, rfl, hM1⟩)
  have hc6 := cell_of_row w1 rb 6 _ _ _ (hM1.get 0 rfl)
  have HM1 := Lib.hid hM1
  clear hM1
  go_upto_region 10 with fail
  have hM1 := HM1.out
  refine wp_region_lit ?_
  refine wl_new hM1 (f := fun b => .slice (some ⟨b, 0, none⟩) 1 1) (ob := .cells (vsT [kk_creator] ++ []).toArray 9 (0, 0)) (fun W => run_slice_of rfl (by simp [Act.eval]; try rfl) (bs_str kk_creator W)) rfl fun g W2 hM2 => ?_
  simp only [nm0, nm1, nm2, nm3]
  refine wl_pure (v := .slice (some ⟨g, 0, none⟩) 1 1) (fun W => rfl) rfl ?_
  simp only [nm0, nm1, nm2, nm3]
  refine wl_pure (v := .bool false) (fun W => rfl) rfl ?_
  simp only [nm0, nm1, nm2, nm3]
  refine wpList_nil ?_
  have HB := Lib.hid hM2.below
  have HT := Lib.hid (row_tx (ok_row [kk_creator] 1 rfl (by decide)) rfl (hM2.get 0 rfl))
  clear hM1 hM2
  go_wp2_with fail
  exact bodyPost_ret (results_tt rfl rfl rfl) rfl ⟨_, rfl, HT.out, HB.out⟩
set_option maxHeartbeats 2000000 in
set_option maxRecDepth 20000 in
theorem rcont_cre1 (w : World) (v : Int) (kind : ByteArray) (hv : verB v = true) (hF : gF v = true) (c0 : (kind.toList == [109, 46, 114, 111, 111, 109, 46, 109, 101, 109, 98, 101, 114]) = false) (c1 : (kind.toList == [109, 46, 114, 111, 111, 109, 46, 99, 114, 101, 97, 116, 101]) = true) (c2 : (kind.toList == [109, 46, 114, 111, 111, 109, 46, 106, 111, 105, 110, 95, 114, 117, 108, 101, 115]) = false) (c3 : (kind.toList == [109, 46, 114, 111, 111, 109, 46, 112, 111, 119, 101, 114, 95, 108, 101, 118, 101, 108, 115]) = false) (c4 : (kind.toList == [109, 46, 114, 111, 111, 109, 46, 97, 108, 105, 97, 115, 101, 115]) = false) (c5 : (kind.toList == [109, 46, 114, 111, 111, 109, 46, 104, 105, 115, 116, 111, 114, 121, 95, 118, 105, 115, 105, 98, 105, 108, 105, 116, 121]) = false) (c6 : (kind.toList == [109, 46, 114, 111, 111, 109, 46, 114, 101, 100, 97, 99, 116, 105, 111, 110]) = false) :
    Calls Try.prog 23 #[.int .i64 v, .string kind] w fun e w' => ∃ x, e = .returned (.tuple #[x, .bool true]) ∧ TxAt w' x [] ∧ Below w.heap.size w w' := by
  have HMIX := Lib.hid (show Try.prog.follows .mixedOrders = true by kernel_rfl)
  have KO := Lib.hid (rof_mem v w hv)
  rw [hF] at KO
  generalize gA v = p1 at KO ⊢
  generalize gB v = p2 at KO ⊢
  generalize gC v = p3 at KO ⊢
  generalize gD v = p4 at KO ⊢
  generalize gE v = p5 at KO ⊢
  clear hv
  clear hF
  go_enter Try.func23, Try.ntmps23
  go_upto_region 8 with (go_at_call 51; refine KO.out.mono ?_; rintro e w1 ⟨rb, rfl, hM1⟩)
  have hc6 := cell_of_row w1 rb 6 _ _ _ (hM1.get 0 rfl)
  have HB := Lib.hid hM1.below
  clear hM1
  go_wp2_with fail
  exact bodyPost_ret (results_tt rfl rfl rfl) rfl ⟨_, rfl, .inl ⟨rfl, rfl⟩, HB.out⟩
set_option maxHeartbeats 2000000 in
set_option maxRecDepth 20000 in
theorem rcont_none (w : World) (v : Int) (kind : ByteArray) (hv : verB v = true) (c0 : (kind.toList == [109, 46, 114, 111, 111, 109, 46, 109, 101, 109, 98, 101, 114]) = false) (c1 : (kind.toList == [109, 46, 114, 111, 111, 109, 46, 99, 114, 101, 97, 116, 101]) = false) (c2 : (kind.toList == [109, 46, 114, 111, 111, 109, 46, 106, 111, 105, 110, 95, 114, 117, 108, 101, 115]) = false) (c3 : (kind.toList == [109, 46, 114, 111, 111, 109, 46, 112, 111, 119, 101, 114, 95, 108, 101, 118, 101, 108, 115]) = false) (c4 : (kind.toList == [109, 46, 114, 111, 111, 109, 46, 97, 108, 105, 97, 115, 101, 115]) = false) (c5 : (kind.toList == [109, 46, 114, 111, 111, 109, 46, 104, 105, 115, 116, 111, 114, 121, 95, 118, 105, 115, 105, 98, 105, 108, 105, 116, 121]) = false) (c6 : (kind.toList == [109, 46, 114, 111, 111, 109, 46, 114, 101, 100, 97, 99, 116, 105, 111, 110]) = false) :
    Calls Try.prog 23 #[.int .i64 v, .string kind] w fun e w' => ∃ x, e = .returned (.tuple #[x, .bool false]) ∧ TxAt w' x [] ∧ Below w.heap.size w w' := by
  have HMIX := Lib.hid (show Try.prog.follows .mixedOrders = true by kernel_rfl)
  have KO := Lib.hid (rof_mem v w hv)
  generalize gA v = p1 at KO ⊢
  generalize gB v = p2 at KO ⊢
  generalize gC v = p3 at KO ⊢
  generalize gD v = p4 at KO ⊢
  generalize gE v = p5 at KO ⊢
  generalize gF v = p6 at KO ⊢
  clear hv
  go_enter Try.func23, Try.ntmps23
  go_wp2_with (go_at_call 51; refine KO.out.mono ?_; rintro e w1 ⟨rb, rfl, hM1⟩; have HB := Lib.hid hM1.below; clear hM1)
  exact bodyPost_ret (results_tt rfl rfl rfl) rfl ⟨_, rfl, .inl ⟨rfl, rfl⟩, HB.out⟩
set_option maxHeartbeats 2000000 in
set_option maxRecDepth 20000 in
theorem rcont_mem (w : World) (v : Int) (kind : ByteArray) (hv : verB v = true) (c0 : (kind.toList == [109, 46, 114, 111, 111, 109, 46, 109, 101, 109, 98, 101, 114]) = true) (c1 : (kind.toList == [109, 46, 114, 111, 111, 109, 46, 99, 114, 101, 97, 116, 101]) = false) (c2 : (kind.toList == [109, 46, 114, 111, 111, 109, 46, 106, 111, 105, 110, 95, 114, 117, 108, 101, 115]) = false) (c3 : (kind.toList == [109, 46, 114, 111, 111, 109, 46, 112, 111, 119, 101, 114, 95, 108, 101, 118, 101, 108, 115]) = false) (c4 : (kind.toList == [109, 46, 114, 111, 111, 109, 46, 97, 108, 105, 97, 115, 101, 115]) = false) (c5 : (kind.toList == [109, 46, 114, 111, 111, 109, 46, 104, 105, 115, 116, 111, 114, 121, 95, 118, 105, 115, 105, 98, 105, 108, 105, 116, 121]) = false) (c6 : (kind.toList == [109, 46, 114, 111, 111, 109, 46, 114, 101, 100, 97, 99, 116, 105, 111, 110]) = false) :
    Calls Try.prog 23 #[.int .i64 v, .string kind] w fun e w' => ∃ x, e = .returned (.tuple #[x, .bool false]) ∧ TxAt w' x (selT [kk_authd, kk_membership, kk_inv3] [gE v, true, gF v] 3) ∧ Below w.heap.size w w' := by
  have HMIX := Lib.hid (show Try.prog.follows .mixedOrders = true by kernel_rfl)
  have KO := Lib.hid (rof_mem v w hv)
  generalize gA v = p1 at KO ⊢
  generalize gB v = p2 at KO ⊢
  generalize gC v = p3 at KO ⊢
  generalize gD v = p4 at KO ⊢
  generalize gE v = p5 at KO ⊢
  generalize gF v = p6 at KO ⊢
  clear hv
  go_enter Try.func23, Try.ntmps23
  go_upto_region 5 with (go_at_call 51; refine KO.out.mono ?_; rintro e w1 ⟨rb, rfl, hM1⟩)
  go_upto_region 6 with fail
  have hMd := hM1.drew
  refine wp_region_noPanic (hold_begin (S := fun W => W.heap[rb]? = some (.cells #[.bool p1, .bool p1, .bool p2, .bool p3, .bool p4, .bool p5, .bool p6] 4 (0, 0))) (st := 8) HMIX.out ?_)
  change Hold _ _ _ _ _ _ 11 _ _ _
  generalize eV0 : w1.drew = V0 at hMd ⊢
  have hV0 := hMd
  clear hMd
  refine hw_pure 1 19 #[false, true, false, false, false, false, false, false, false, false, false] (by kernel_rfl) (v := .slice (some ⟨rb, 0, none⟩) 7 7) rfl rfl (by kernel_rfl) rfl (by kernel_rfl) (by kernel_rfl) rfl (fun W => rfl) (fun _ => hV0.at_ (rb, _) (by simp)) ?_
  simp only [nm0, nm1, nm2, nm3]
  refine hw_pure 2 20 #[false, true, true, false, false, false, false, false, false, false, false] (by kernel_rfl) (v := .pointer (some ⟨rb, 5, none⟩)) rfl rfl (by kernel_rfl) rfl (by kernel_rfl) (by kernel_rfl) rfl (fun W => run_index_of rfl rfl rfl (ix_bools rb 7 7 5 (by decide) W)) (fun _ => hV0.at_ (rb, _) (by simp)) ?_
  simp only [nm0, nm1, nm2, nm3]
  refine hw_take 3 21 [7, 8] #[false, true, true, true, false, false, false, false, false, false, false] (by kernel_rfl) (v := .bool p5) rfl rfl (by kernel_rfl) (by kernel_rfl) (by kernel_rfl) (by kernel_rfl) (by kernel_rfl) (by kernel_rfl) rfl (fun W hW => run_load_cell rfl rfl hW rfl cellBoolK) (hV0.at_ (rb, _) (by simp)) ?_
  simp only [nm0, nm1, nm2, nm3]
  refine hw_pure 4 22 #[false, true, true, true, true, false, false, false, false, false, false] (by kernel_rfl) (v := .slice (some ⟨rb, 0, none⟩) 7 7) rfl rfl (by kernel_rfl) rfl (by kernel_rfl) (by kernel_rfl) rfl (fun W => rfl) (fun _ => hV0.at_ (rb, _) (by simp)) ?_
  simp only [nm0, nm1, nm2, nm3]
  refine hw_pure 5 23 #[false, true, true, true, true, true, false, false, false, false, false] (by kernel_rfl) (v := .pointer (some ⟨rb, 6, none⟩)) rfl rfl (by kernel_rfl) rfl (by kernel_rfl) (by kernel_rfl) rfl (fun W => run_index_of rfl rfl rfl (ix_bools rb 7 7 6 (by decide) W)) (fun _ => hV0.at_ (rb, _) (by simp)) ?_
  simp only [nm0, nm1, nm2, nm3]
  refine hw_take 6 24 [7, 8] #[false, true, true, true, true, true, true, false, false, false, false] (by kernel_rfl) (v := .bool p6) rfl rfl (by kernel_rfl) (by kernel_rfl) (by kernel_rfl) (by kernel_rfl) (by kernel_rfl) (by kernel_rfl) rfl (fun W hW => run_load_cell rfl rfl hW rfl cellBoolK) (hV0.at_ (rb, _) (by simp)) ?_
  simp only [nm0, nm1, nm2, nm3]
  refine hold_next (rs := [0, 7]) (by kernel_rfl) (by simp) ?_
  intro i hi
  simp only [List.mem_cons, List.not_mem_nil, or_false] at hi
  rcases hi with rfl | rfl
  · skip
    refine hw_new (d := 18) (f := fun b => .slice (some ⟨b, 0, none⟩) 3 3) (ob := .cells (vsT [kk_authd, kk_membership, kk_inv3] ++ []).toArray 9 (0, 0)) rfl rfl rfl hV0 (fun W => run_slice_of rfl (by simp [Act.eval]; exact ⟨rfl, rfl, rfl⟩) (bsr_mem W)) #[true, true, true, true, true, true, true, false, false, false, false] (by kernel_rfl) fun g Y1 hY1 => ⟨(fun _ => hY1.at_ (rb, _) (by simp)), ?_⟩
    simp only [nm0, nm1, nm2, nm3]
    refine hold_next (rs := [7]) (by kernel_rfl) (by simp) ?_
    intro i hi
    simp only [List.mem_cons, List.not_mem_nil, or_false] at hi
    subst hi
    refine hw_new (d := 25) (f := fun b => .slice (some ⟨b, 0, none⟩) 3 3) (ob := .cells ([p5, true, p6].map Value.bool).toArray 4 (0, 0)) rfl rfl rfl hY1 (fun W => run_slice_of rfl (by simp [Act.eval]; try rfl) (bsb_3 p5 true p6 W)) #[true, true, true, true, true, true, true, true, false, false, false] (by kernel_rfl) fun h Y2 hY2 => ⟨(fun _ => hY2.at_ (rb, _) (by simp)), ?_⟩
    simp only [nm0, nm1, nm2, nm3]
    refine hold_next (rs := [8]) (by kernel_rfl) (by simp) ?_
    intro i hi
    simp only [List.mem_cons, List.not_mem_nil, or_false] at hi
    subst hi
    refine hw_call (d := 26) (args := #[.slice (some ⟨g, 0, none⟩) 3 3, .slice (some ⟨h, 0, none⟩) 3 3]) rfl rfl rfl (fun W => run_call_fn W (enters_of Try.func53 (by kernel_rfl) rfl) rfl (by simp [Act.eval]; try rfl)) (some_any Y2 g h 3 [kk_authd, kk_membership, kk_inv3] [p5, true, p6] (hY2.at_ (g, _) (by simp)) (hY2.at_ (h, _) (by simp)) rfl rfl (by decide)) #[true, true, true, true, true, true, true, true, true, false, false] (by kernel_rfl) ?_
    rintro e Y3 ⟨x3, rfl, hx3, hb3⟩
    have hY3 := hY2.calls hb3
    refine ⟨_, rfl, (fun h => by cases h), ?_⟩
    simp only [nm0, nm1, nm2, nm3]
    refine hw_pure 9 4 #[true, true, true, true, true, true, true, true, true, true, false] (by kernel_rfl) (v := x3) rfl rfl (by kernel_rfl) rfl (by kernel_rfl) (by kernel_rfl) rfl (fun W => rfl) (fun h => by cases h) ?_
    simp only [nm0, nm1, nm2, nm3]
    refine hw_pure 10 5 #[true, true, true, true, true, true, true, true, true, true, true] (by kernel_rfl) (v := .bool false) rfl rfl (by kernel_rfl) rfl (by kernel_rfl) (by kernel_rfl) rfl (fun W => rfl) (fun h => by cases h) ?_
    simp only [nm0, nm1, nm2, nm3]
    refine hold_done (by kernel_rfl) ?_ _
    refine NoPanic.normal ?_
    have HB := Lib.hid hY3.below
    have HT := Lib.hid hx3
    clear hx3
    go_wp2_with fail
    exact bodyPost_ret (results_tt rfl rfl rfl) rfl ⟨_, rfl, HT.out, HB.out⟩
  · skip
    refine hw_new (d := 25) (f := fun b => .slice (some ⟨b, 0, none⟩) 3 3) (ob := .cells ([p5, true, p6].map Value.bool).toArray 4 (0, 0)) rfl rfl rfl hV0 (fun W => run_slice_of rfl (by simp [Act.eval]; try rfl) (bsb_3 p5 true p6 W)) #[false, true, true, true, true, true, true, true, false, false, false] (by kernel_rfl) fun h Y4 hY4 => ⟨(fun _ => hY4.at_ (rb, _) (by simp)), ?_⟩
    simp only [nm0, nm1, nm2, nm3]
    refine hold_next (rs := [0]) (by kernel_rfl) (by simp) ?_
    intro i hi
    simp only [List.mem_cons, List.not_mem_nil, or_false] at hi
    subst hi
    refine hw_new (d := 18) (f := fun b => .slice (some ⟨b, 0, none⟩) 3 3) (ob := .cells (vsT [kk_authd, kk_membership, kk_inv3] ++ []).toArray 9 (0, 0)) rfl rfl rfl hY4 (fun W => run_slice_of rfl (by simp [Act.eval]; exact ⟨rfl, rfl, rfl⟩) (bsr_mem W)) #[true, true, true, true, true, true, true, true, false, false, false] (by kernel_rfl) fun g Y5 hY5 => ⟨(fun _ => hY5.at_ (rb, _) (by simp)), ?_⟩
    simp only [nm0, nm1, nm2, nm3]
    refine hold_next (rs := [8]) (by kernel_rfl) (by simp) ?_
    intro i hi
    simp only [List.mem_cons, List.not_mem_nil, or_false] at hi
    subst hi
    refine hw_call (d := 26) (args := #[.slice (some ⟨g, 0, none⟩) 3 3, .slice (some ⟨h, 0, none⟩) 3 3]) rfl rfl rfl (fun W => run_call_fn W (enters_of Try.func53 (by kernel_rfl) rfl) rfl (by simp [Act.eval]; try rfl)) (some_any Y5 g h 3 [kk_authd, kk_membership, kk_inv3] [p5, true, p6] (hY5.at_ (g, _) (by simp)) (hY5.at_ (h, _) (by simp)) rfl rfl (by decide)) #[true, true, true, true, true, true, true, true, true, false, false] (by kernel_rfl) ?_
    rintro e Y6 ⟨x6, rfl, hx6, hb6⟩
    have hY6 := hY5.calls hb6
    refine ⟨_, rfl, (fun h => by cases h), ?_⟩
    simp only [nm0, nm1, nm2, nm3]
    refine hw_pure 9 4 #[true, true, true, true, true, true, true, true, true, true, false] (by kernel_rfl) (v := x6) rfl rfl (by kernel_rfl) rfl (by kernel_rfl) (by kernel_rfl) rfl (fun W => rfl) (fun h => by cases h) ?_
    simp only [nm0, nm1, nm2, nm3]
    refine hw_pure 10 5 #[true, true, true, true, true, true, true, true, true, true, true] (by kernel_rfl) (v := .bool false) rfl rfl (by kernel_rfl) rfl (by kernel_rfl) (by kernel_rfl) rfl (fun W => rfl) (fun h => by cases h) ?_
    simp only [nm0, nm1, nm2, nm3]
    refine hold_done (by kernel_rfl) ?_ _
    refine NoPanic.normal ?_
    have HB := Lib.hid hY6.below
    have HT := Lib.hid hx6
    clear hx6
    go_wp2_with fail
    exact bodyPost_ret (results_tt rfl rfl rfl) rfl ⟨_, rfl, HT.out, HB.out⟩
end Go.Proofs.Ytbheiglbejokmaa
