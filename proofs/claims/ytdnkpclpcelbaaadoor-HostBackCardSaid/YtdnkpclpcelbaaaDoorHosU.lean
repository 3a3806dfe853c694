/- host (layer 27): HostBack. -/
import Derived.Test.YtdnkpclpcelbaaaDoorHosS
namespace Go.Proofs.YtdnkpclpcelbaaaDoor
set_option maxRecDepth 20000
set_option linter.unusedSimpArgs false
set_option linter.unusedVariables false
open Go.RowKit Go.Lib Go.Shelf Go.Sort
attribute [local go_sem] Oper.semAt_some
set_option maxRecDepth 100000 in
set_option maxHeartbeats 8000000 in
theorem hback_long (S : ByteArray) (P : Int) (q1 : (300 : Int) < (S.size : Int)) (m : Int) (w : World) (hm : w.cell? ⟨gMaxH, 0, none⟩ = some (.int .i64 m)) (hT : Tab w) :
    Calls Tryd.prog 4 #[.string S, .int .u16 P] w fun e w' => e = .returned (.bool true) ∧ Below w.heap.size w w' := by
  have lgm := blk_of_cellH hm
  simp only at lgm
  have HM := Lib.hid hm
  have HT := Lib.hid hT
  clear hm hT
  go_enter Tryd.func4, Tryd.ntmps4
  go_wp2_with fail
  refine (holives_any m w HM.out).mono ?_
  rintro e w1 ⟨rfl, hb⟩
  go_wp2_with fail
  go_ret
  exact ⟨rfl, hb⟩
set_option maxRecDepth 100000 in
set_option maxHeartbeats 8000000 in
theorem hback_err4 (S : ByteArray) (P : Int) (q1 : ¬ (300 : Int) < (S.size : Int)) (K1 : (∀ w m, w.cell? ⟨gMaxH, 0, none⟩ = some (.int .i64 m) → Calls Tryd.prog 8 #[.string S] w fun e w' => e = .returned (.tuple #[.string ⟨#[]⟩, .int .i64 0, .int .i64 4]) ∧ Below w.heap.size w w')) (m : Int) (w : World) (hm : w.cell? ⟨gMaxH, 0, none⟩ = some (.int .i64 m)) (hT : Tab w) :
    Calls Tryd.prog 4 #[.string S, .int .u16 P] w fun e w' => e = .returned (.bool true) ∧ Below w.heap.size w w' := by
  have lgm := blk_of_cellH hm
  simp only at lgm
  have HM := Lib.hid hm
  have HT := Lib.hid hT
  clear hm hT
  go_enter Tryd.func4, Tryd.ntmps4
  go_wp2_with fail
  refine (K1 w m HM.out).mono ?_
  rintro e w1 ⟨rfl, hb⟩
  go_upto_region 5 with fail
  refine sw_lit ?_
  refine sw_pure (v := .string ⟨#[]⟩) (fun W => rfl) rfl ?_
  simp only [nm0, nm1, nm2, nm3]
  refine sw_pure (v := .bool true) (fun W => run_bin_of rfl rfl rfl (by go_simp)) rfl ?_
  simp only [nm0, nm1, nm2, nm3]
  refine sw_pure (v := .bool true) (fun W => rfl) rfl ?_
  simp only [nm0, nm1, nm2, nm3]
  refine sw_pure (v := .int .i64 0) (fun W => rfl) rfl ?_
  simp only [nm0, nm1, nm2, nm3]
  refine sw_pure (v := .bool true) (fun W => run_bin_of rfl rfl rfl (by go_simp)) rfl ?_
  simp only [nm0, nm1, nm2, nm3]
  refine sw_pure (v := .bool true) (fun W => rfl) rfl ?_
  simp only [nm0, nm1, nm2, nm3]
  refine sw_pure (v := .bool true) (fun W => rfl) rfl ?_
  simp only [nm0, nm1, nm2, nm3]
  refine sw_callE (args := #[]) (fun W => run_call_fn W (enters_of Tryd.func7 (by kernel_rfl) rfl) rfl (by simp [Act.eval])) (holives_any m _ (((bcell (hb)).1 _ 0 lgm).trans HM.out)) rfl ?_
  rintro e w2 ⟨rfl, hc2⟩
  refine ⟨_, rfl, ?_⟩
  simp only [nm0, nm1, nm2, nm3]
  refine sw_pure (v := .bool true) (fun W => rfl) rfl ?_
  simp only [nm0, nm1, nm2, nm3]
  refine sw_pure (v := .bool true) (fun W => rfl) rfl ?_
  simp only [nm0, nm1, nm2, nm3]
  refine sw_nil ?_
  go_wp2_with fail
  go_ret
  exact ⟨rfl, gr_step (hb) hc2⟩
set_option maxRecDepth 100000 in
set_option maxHeartbeats 8000000 in
theorem hback_err25 (S : ByteArray) (P : Int) (q1 : ¬ (300 : Int) < (S.size : Int)) (K1 : (∀ w m, w.cell? ⟨gMaxH, 0, none⟩ = some (.int .i64 m) → Calls Tryd.prog 8 #[.string S] w fun e w' => e = .returned (.tuple #[.string ⟨#[]⟩, .int .i64 0, .int .i64 25]) ∧ Below w.heap.size w w')) (m : Int) (w : World) (hm : w.cell? ⟨gMaxH, 0, none⟩ = some (.int .i64 m)) (hT : Tab w) :
    Calls Tryd.prog 4 #[.string S, .int .u16 P] w fun e w' => e = .returned (.bool true) ∧ Below w.heap.size w w' := by
  have lgm := blk_of_cellH hm
  simp only at lgm
  have HM := Lib.hid hm
  have HT := Lib.hid hT
  clear hm hT
  go_enter Tryd.func4, Tryd.ntmps4
  go_wp2_with fail
  refine (K1 w m HM.out).mono ?_
  rintro e w1 ⟨rfl, hb⟩
  go_upto_region 5 with fail
  refine sw_lit ?_
  refine sw_pure (v := .string ⟨#[]⟩) (fun W => rfl) rfl ?_
  simp only [nm0, nm1, nm2, nm3]
  refine sw_pure (v := .bool true) (fun W => run_bin_of rfl rfl rfl (by go_simp)) rfl ?_
  simp only [nm0, nm1, nm2, nm3]
  refine sw_pure (v := .bool true) (fun W => rfl) rfl ?_
  simp only [nm0, nm1, nm2, nm3]
  refine sw_pure (v := .int .i64 0) (fun W => rfl) rfl ?_
  simp only [nm0, nm1, nm2, nm3]
  refine sw_pure (v := .bool true) (fun W => run_bin_of rfl rfl rfl (by go_simp)) rfl ?_
  simp only [nm0, nm1, nm2, nm3]
  refine sw_pure (v := .bool true) (fun W => rfl) rfl ?_
  simp only [nm0, nm1, nm2, nm3]
  refine sw_pure (v := .bool true) (fun W => rfl) rfl ?_
  simp only [nm0, nm1, nm2, nm3]
  refine sw_callE (args := #[]) (fun W => run_call_fn W (enters_of Tryd.func7 (by kernel_rfl) rfl) rfl (by simp [Act.eval])) (holives_any m _ (((bcell (hb)).1 _ 0 lgm).trans HM.out)) rfl ?_
  rintro e w2 ⟨rfl, hc2⟩
  refine ⟨_, rfl, ?_⟩
  simp only [nm0, nm1, nm2, nm3]
  refine sw_pure (v := .bool true) (fun W => rfl) rfl ?_
  simp only [nm0, nm1, nm2, nm3]
  refine sw_pure (v := .bool true) (fun W => rfl) rfl ?_
  simp only [nm0, nm1, nm2, nm3]
  refine sw_nil ?_
  go_wp2_with fail
  go_ret
  exact ⟨rfl, gr_step (hb) hc2⟩
set_option maxRecDepth 100000 in
set_option maxHeartbeats 8000000 in
theorem hback_nzl (S Y Z TT : ByteArray) (k : Int) (q1 : ¬ (300 : Int) < (S.size : Int)) (qk : ¬ k = 0) (qk2 : (k == 0) = false) (hY : ∀ (x y : Operand) (W : World), (do eqGuard .add 9 x y (.string S) (.string ⟨#[58]⟩); binOp .add 9 (.string S) (.string ⟨#[58]⟩) : Sem Value).run Tryd.prog W = .ok (.string Y) W) (hTT : ∀ (x y : Operand) (W : World), (do eqGuard .add 9 x y (.string Y) (.string Z); binOp .add 9 (.string Y) (.string Z) : Sem Value).run Tryd.prog W = .ok (.string TT) W) (KP : ∀ w, Tab w → Calls Tryd.prog 12 #[.int .i64 0] w fun e w' => e = .returned (.string Z) ∧ Below w.heap.size w w') (q6 : (230 : Int) < (TT.size : Int)) (K1 : (∀ w m, w.cell? ⟨gMaxH, 0, none⟩ = some (.int .i64 m) → Calls Tryd.prog 8 #[.string S] w fun e w' => e = .returned (.tuple #[.string S, .int .i64 0, .int .i64 0]) ∧ Below w.heap.size w w')) (K2 : (∀ w m, w.cell? ⟨gMaxH, 0, none⟩ = some (.int .i64 m) → Calls Tryd.prog 8 #[.string TT] w fun e w' => e = .returned (.tuple #[.string ⟨#[]⟩, .int .i64 0, .int .i64 4]) ∧ Below w.heap.size w w')) (K3 : ∀ w m, w.cell? ⟨gMaxH, 0, none⟩ = some (.int .i64 m) → Calls Tryd.prog 10 #[.string S] w fun e w' => e = .returned (.int .i64 k) ∧ Below w.heap.size w w') (m : Int) (w : World) (hm : w.cell? ⟨gMaxH, 0, none⟩ = some (.int .i64 m)) (hT : Tab w) :
    Calls Tryd.prog 4 #[.string S, .int .u16 0] w fun e w' => e = .returned (.bool true) ∧ Below w.heap.size w w' := by
  have lgm := blk_of_cellH hm
  simp only at lgm
  have HM := Lib.hid hm
  have HT := Lib.hid hT
  clear hm hT
  replace K2 := Lib.hid K2
  replace K3 := Lib.hid (fun w hm => K3 w m hm)
  replace KP := Lib.hid KP
  replace hY := Lib.hid hY
  replace hTT := Lib.hid hTT
  go_enter Tryd.func4, Tryd.ntmps4
  go_wp2_with fail
  refine (K1 w m HM.out).mono ?_
  rintro e w1 ⟨rfl, hb⟩
  go_upto_region 6 with fail
  refine sw_lit ?_
  refine sw_pure (v := .string S) (fun W => rfl) rfl ?_
  simp only [nm0, nm1, nm2, nm3]
  refine sw_callE (args := #[.string S]) (fun W => run_call_fn W (enters_of Tryd.func10 (by kernel_rfl) rfl) rfl (by simp [Act.eval])) (K3.out _ (((bcell (hb)).1 _ 0 lgm).trans HM.out)) rfl ?_
  rintro e w2 ⟨rfl, hc2⟩
  refine ⟨_, rfl, ?_⟩
  simp only [nm0, nm1, nm2, nm3]
  refine sw_pure (v := .bool false) (fun W => run_bin_of rfl rfl rfl (by go_simp)) rfl ?_
  simp only [nm0, nm1, nm2, nm3]
  refine sw_pure (v := .bool false) (fun W => rfl) rfl ?_
  simp only [nm0, nm1, nm2, nm3]
  refine sw_pure (v := .int .i64 0) (fun W => rfl) rfl ?_
  simp only [nm0, nm1, nm2, nm3]
  refine sw_pure (v := .bool true) (fun W => run_bin_of rfl rfl rfl (by go_simp)) rfl ?_
  simp only [nm0, nm1, nm2, nm3]
  refine sw_pure (v := .bool true) (fun W => rfl) rfl ?_
  simp only [nm0, nm1, nm2, nm3]
  refine sw_pure (v := .string S) (fun W => rfl) rfl ?_
  simp only [nm0, nm1, nm2, nm3]
  refine sw_pure (v := .string S) (fun W => rfl) rfl ?_
  simp only [nm0, nm1, nm2, nm3]
  refine sw_pure (v := .bool false) (fun W => run_bin_of rfl rfl rfl (by go_simp)) rfl ?_
  simp only [nm0, nm1, nm2, nm3]
  refine sw_pure (v := .bool false) (fun W => rfl) rfl ?_
  simp only [nm0, nm1, nm2, nm3]
  refine sw_pure (v := .bool false) (fun W => rfl) rfl ?_
  simp only [nm0, nm1, nm2, nm3]
  refine sw_pure (v := .bool false) (fun W => rfl) rfl ?_
  simp only [nm0, nm1, nm2, nm3]
  refine sw_pure (v := .int .i64 0) (fun W => rfl) rfl ?_
  simp only [nm0, nm1, nm2, nm3]
  refine sw_pure (v := .bool false) (fun W => run_bin_of rfl rfl rfl (by go_simp)) rfl ?_
  simp only [nm0, nm1, nm2, nm3]
  refine sw_pure (v := .bool false) (fun W => rfl) rfl ?_
  simp only [nm0, nm1, nm2, nm3]
  refine sw_skip rfl ?_
  simp only [nm0, nm1, nm2, nm3]
  refine sw_skip rfl ?_
  simp only [nm0, nm1, nm2, nm3]
  refine sw_skip rfl ?_
  simp only [nm0, nm1, nm2, nm3]
  refine sw_skip rfl ?_
  simp only [nm0, nm1, nm2, nm3]
  refine sw_skip rfl ?_
  simp only [nm0, nm1, nm2, nm3]
  refine sw_skip rfl ?_
  simp only [nm0, nm1, nm2, nm3]
  refine sw_skip rfl ?_
  simp only [nm0, nm1, nm2, nm3]
  refine sw_pure (v := .bool false) (fun W => rfl) rfl ?_
  simp only [nm0, nm1, nm2, nm3]
  refine sw_pure (v := .bool false) (fun W => rfl) rfl ?_
  simp only [nm0, nm1, nm2, nm3]
  refine sw_nil ?_
  go_upto_region 8 with fail
  refine sw_lit ?_
  refine sw_pure (v := .string S) (fun W => rfl) rfl ?_
  simp only [nm0, nm1, nm2, nm3]
  refine sw_pure (v := .string Y) (fun W => run_bin_of rfl rfl rfl (hY.out _ _ W)) rfl ?_
  simp only [nm0, nm1, nm2, nm3]
  refine sw_pure (v := .int .u16 0) (fun W => rfl) rfl ?_
  simp only [nm0, nm1, nm2, nm3]
  refine sw_pure (v := .int .i64 0) (fun W => by first | (go_simp; done) | (go_simp; rfl)) rfl ?_
  simp only [nm0, nm1, nm2, nm3]
  refine sw_callE (args := #[.int .i64 0]) (fun W => run_call_fn W (enters_of Tryd.func12 (by kernel_rfl) rfl) rfl (by simp [Act.eval])) (KP.out _ (tab_below HT.out (gr_step (hb) hc2))) rfl ?_
  rintro e w3 ⟨rfl, hc3⟩
  refine ⟨_, rfl, ?_⟩
  simp only [nm0, nm1, nm2, nm3]
  refine sw_pure (v := .string TT) (fun W => run_bin_of rfl rfl rfl (hTT.out _ _ W)) rfl ?_
  simp only [nm0, nm1, nm2, nm3]
  refine sw_pure (v := .string TT) (fun W => rfl) rfl ?_
  simp only [nm0, nm1, nm2, nm3]
  refine sw_nil ?_
  go_wp2_with fail
  refine (K2.out _ m (((bcell (gr_step (gr_step (hb) hc2) hc3)).1 _ 0 lgm).trans HM.out)).mono ?_
  rintro e w4 ⟨rfl, hc4⟩
  go_upto_region 11 with fail
  refine sw_lit ?_
  refine sw_pure (v := .string TT) (fun W => rfl) rfl ?_
  simp only [nm0, nm1, nm2, nm3]
  refine sw_pure (v := .int .i64 (TT.size : Int)) (fun W => by go_simp) rfl ?_
  simp only [nm0, nm1, nm2, nm3]
  refine sw_pure (v := .bool true) (fun W => run_bin_of rfl rfl rfl (by go_simp)) rfl ?_
  simp only [nm0, nm1, nm2, nm3]
  refine sw_pure (v := .bool true) (fun W => rfl) rfl ?_
  simp only [nm0, nm1, nm2, nm3]
  refine sw_pure (v := .int .i64 4) (fun W => rfl) rfl ?_
  simp only [nm0, nm1, nm2, nm3]
  refine sw_pure (v := .bool true) (fun W => run_bin_of rfl rfl rfl (by go_simp)) rfl ?_
  simp only [nm0, nm1, nm2, nm3]
  refine sw_pure (v := .bool true) (fun W => rfl) rfl ?_
  simp only [nm0, nm1, nm2, nm3]
  refine sw_pure (v := .bool true) (fun W => rfl) rfl ?_
  simp only [nm0, nm1, nm2, nm3]
  refine sw_skip rfl ?_
  simp only [nm0, nm1, nm2, nm3]
  refine sw_skip rfl ?_
  simp only [nm0, nm1, nm2, nm3]
  refine sw_pure (v := .bool true) (fun W => rfl) rfl ?_
  simp only [nm0, nm1, nm2, nm3]
  refine sw_pure (v := .bool true) (fun W => rfl) rfl ?_
  simp only [nm0, nm1, nm2, nm3]
  refine sw_callE (args := #[]) (fun W => run_call_fn W (enters_of Tryd.func7 (by kernel_rfl) rfl) rfl (by simp [Act.eval])) (holives_any m _ (((bcell (gr_step (gr_step (gr_step (hb) hc2) hc3) hc4)).1 _ 0 lgm).trans HM.out)) rfl ?_
  rintro e w5 ⟨rfl, hc5⟩
  refine ⟨_, rfl, ?_⟩
  simp only [nm0, nm1, nm2, nm3]
  refine sw_pure (v := .bool true) (fun W => rfl) rfl ?_
  simp only [nm0, nm1, nm2, nm3]
  refine sw_pure (v := .bool true) (fun W => rfl) rfl ?_
  simp only [nm0, nm1, nm2, nm3]
  refine sw_nil ?_
  go_wp2_with fail
  go_ret
  exact ⟨rfl, gr_step (gr_step (gr_step (gr_step (hb) hc2) hc3) hc4) hc5⟩
set_option maxRecDepth 100000 in
set_option maxHeartbeats 8000000 in
theorem hback_nzo (S Y Z TT : ByteArray) (k : Int) (q1 : ¬ (300 : Int) < (S.size : Int)) (qk : ¬ k = 0) (qk2 : (k == 0) = false) (hY : ∀ (x y : Operand) (W : World), (do eqGuard .add 9 x y (.string S) (.string ⟨#[58]⟩); binOp .add 9 (.string S) (.string ⟨#[58]⟩) : Sem Value).run Tryd.prog W = .ok (.string Y) W) (hTT : ∀ (x y : Operand) (W : World), (do eqGuard .add 9 x y (.string Y) (.string Z); binOp .add 9 (.string Y) (.string Z) : Sem Value).run Tryd.prog W = .ok (.string TT) W) (KP : ∀ w, Tab w → Calls Tryd.prog 12 #[.int .i64 0] w fun e w' => e = .returned (.string Z) ∧ Below w.heap.size w w') (q6 : ¬ (230 : Int) < (TT.size : Int)) (K1 : (∀ w m, w.cell? ⟨gMaxH, 0, none⟩ = some (.int .i64 m) → Calls Tryd.prog 8 #[.string S] w fun e w' => e = .returned (.tuple #[.string S, .int .i64 0, .int .i64 0]) ∧ Below w.heap.size w w')) (K2 : (∀ w m, w.cell? ⟨gMaxH, 0, none⟩ = some (.int .i64 m) → Calls Tryd.prog 8 #[.string TT] w fun e w' => e = .returned (.tuple #[.string ⟨#[]⟩, .int .i64 0, .int .i64 25]) ∧ Below w.heap.size w w')) (K3 : ∀ w m, w.cell? ⟨gMaxH, 0, none⟩ = some (.int .i64 m) → Calls Tryd.prog 10 #[.string S] w fun e w' => e = .returned (.int .i64 k) ∧ Below w.heap.size w w') (m : Int) (w : World) (hm : w.cell? ⟨gMaxH, 0, none⟩ = some (.int .i64 m)) (hT : Tab w) :
    Calls Tryd.prog 4 #[.string S, .int .u16 0] w fun e w' => e = .returned (.bool true) ∧ Below w.heap.size w w' := by
  have lgm := blk_of_cellH hm
  simp only at lgm
  have HM := Lib.hid hm
  have HT := Lib.hid hT
  clear hm hT
  replace K2 := Lib.hid K2
  replace K3 := Lib.hid (fun w hm => K3 w m hm)
  replace KP := Lib.hid KP
  replace hY := Lib.hid hY
  replace hTT := Lib.hid hTT
  go_enter Tryd.func4, Tryd.ntmps4
  go_wp2_with fail
  refine (K1 w m HM.out).mono ?_
  rintro e w1 ⟨rfl, hb⟩
  go_upto_region 6 with fail
  refine sw_lit ?_
  refine sw_pure (v := .string S) (fun W => rfl) rfl ?_
  simp only [nm0, nm1, nm2, nm3]
  refine sw_callE (args := #[.string S]) (fun W => run_call_fn W (enters_of Tryd.func10 (by kernel_rfl) rfl) rfl (by simp [Act.eval])) (K3.out _ (((bcell (hb)).1 _ 0 lgm).trans HM.out)) rfl ?_
  rintro e w2 ⟨rfl, hc2⟩
  refine ⟨_, rfl, ?_⟩
  simp only [nm0, nm1, nm2, nm3]
  refine sw_pure (v := .bool false) (fun W => run_bin_of rfl rfl rfl (by go_simp)) rfl ?_
  simp only [nm0, nm1, nm2, nm3]
  refine sw_pure (v := .bool false) (fun W => rfl) rfl ?_
  simp only [nm0, nm1, nm2, nm3]
  refine sw_pure (v := .int .i64 0) (fun W => rfl) rfl ?_
  simp only [nm0, nm1, nm2, nm3]
  refine sw_pure (v := .bool true) (fun W => run_bin_of rfl rfl rfl (by go_simp)) rfl ?_
  simp only [nm0, nm1, nm2, nm3]
  refine sw_pure (v := .bool true) (fun W => rfl) rfl ?_
  simp only [nm0, nm1, nm2, nm3]
  refine sw_pure (v := .string S) (fun W => rfl) rfl ?_
  simp only [nm0, nm1, nm2, nm3]
  refine sw_pure (v := .string S) (fun W => rfl) rfl ?_
  simp only [nm0, nm1, nm2, nm3]
  refine sw_pure (v := .bool false) (fun W => run_bin_of rfl rfl rfl (by go_simp)) rfl ?_
  simp only [nm0, nm1, nm2, nm3]
  refine sw_pure (v := .bool false) (fun W => rfl) rfl ?_
  simp only [nm0, nm1, nm2, nm3]
  refine sw_pure (v := .bool false) (fun W => rfl) rfl ?_
  simp only [nm0, nm1, nm2, nm3]
  refine sw_pure (v := .bool false) (fun W => rfl) rfl ?_
  simp only [nm0, nm1, nm2, nm3]
  refine sw_pure (v := .int .i64 0) (fun W => rfl) rfl ?_
  simp only [nm0, nm1, nm2, nm3]
  refine sw_pure (v := .bool false) (fun W => run_bin_of rfl rfl rfl (by go_simp)) rfl ?_
  simp only [nm0, nm1, nm2, nm3]
  refine sw_pure (v := .bool false) (fun W => rfl) rfl ?_
  simp only [nm0, nm1, nm2, nm3]
  refine sw_skip rfl ?_
  simp only [nm0, nm1, nm2, nm3]
  refine sw_skip rfl ?_
  simp only [nm0, nm1, nm2, nm3]
  refine sw_skip rfl ?_
  simp only [nm0, nm1, nm2, nm3]
  refine sw_skip rfl ?_
  simp only [nm0, nm1, nm2, nm3]
  refine sw_skip rfl ?_
  simp only [nm0, nm1, nm2, nm3]
  refine sw_skip rfl ?_
  simp only [nm0, nm1, nm2, nm3]
  refine sw_skip rfl ?_
  simp only [nm0, nm1, nm2, nm3]
  refine sw_pure (v := .bool false) (fun W => rfl) rfl ?_
  simp only [nm0, nm1, nm2, nm3]
  refine sw_pure (v := .bool false) (fun W => rfl) rfl ?_
  simp only [nm0, nm1, nm2, nm3]
  refine sw_nil ?_
  go_upto_region 8 with fail
  refine sw_lit ?_
  refine sw_pure (v := .string S) (fun W => rfl) rfl ?_
  simp only [nm0, nm1, nm2, nm3]
  refine sw_pure (v := .string Y) (fun W => run_bin_of rfl rfl rfl (hY.out _ _ W)) rfl ?_
  simp only [nm0, nm1, nm2, nm3]
  refine sw_pure (v := .int .u16 0) (fun W => rfl) rfl ?_
  simp only [nm0, nm1, nm2, nm3]
  refine sw_pure (v := .int .i64 0) (fun W => by first | (go_simp; done) | (go_simp; rfl)) rfl ?_
  simp only [nm0, nm1, nm2, nm3]
  refine sw_callE (args := #[.int .i64 0]) (fun W => run_call_fn W (enters_of Tryd.func12 (by kernel_rfl) rfl) rfl (by simp [Act.eval])) (KP.out _ (tab_below HT.out (gr_step (hb) hc2))) rfl ?_
  rintro e w3 ⟨rfl, hc3⟩
  refine ⟨_, rfl, ?_⟩
  simp only [nm0, nm1, nm2, nm3]
  refine sw_pure (v := .string TT) (fun W => run_bin_of rfl rfl rfl (hTT.out _ _ W)) rfl ?_
  simp only [nm0, nm1, nm2, nm3]
  refine sw_pure (v := .string TT) (fun W => rfl) rfl ?_
  simp only [nm0, nm1, nm2, nm3]
  refine sw_nil ?_
  go_wp2_with fail
  refine (K2.out _ m (((bcell (gr_step (gr_step (hb) hc2) hc3)).1 _ 0 lgm).trans HM.out)).mono ?_
  rintro e w4 ⟨rfl, hc4⟩
  go_upto_region 11 with fail
  refine sw_lit ?_
  refine sw_pure (v := .string TT) (fun W => rfl) rfl ?_
  simp only [nm0, nm1, nm2, nm3]
  refine sw_pure (v := .int .i64 (TT.size : Int)) (fun W => by go_simp) rfl ?_
  simp only [nm0, nm1, nm2, nm3]
  refine sw_pure (v := .bool false) (fun W => run_bin_of rfl rfl rfl (by go_simp)) rfl ?_
  simp only [nm0, nm1, nm2, nm3]
  refine sw_pure (v := .bool false) (fun W => rfl) rfl ?_
  simp only [nm0, nm1, nm2, nm3]
  refine sw_skip rfl ?_
  simp only [nm0, nm1, nm2, nm3]
  refine sw_skip rfl ?_
  simp only [nm0, nm1, nm2, nm3]
  refine sw_pure (v := .bool false) (fun W => rfl) rfl ?_
  simp only [nm0, nm1, nm2, nm3]
  refine sw_pure (v := .bool false) (fun W => rfl) rfl ?_
  simp only [nm0, nm1, nm2, nm3]
  refine sw_pure (v := .int .i64 25) (fun W => rfl) rfl ?_
  simp only [nm0, nm1, nm2, nm3]
  refine sw_pure (v := .bool true) (fun W => run_bin_of rfl rfl rfl (by go_simp)) rfl ?_
  simp only [nm0, nm1, nm2, nm3]
  refine sw_pure (v := .bool true) (fun W => rfl) rfl ?_
  simp only [nm0, nm1, nm2, nm3]
  refine sw_pure (v := .bool true) (fun W => rfl) rfl ?_
  simp only [nm0, nm1, nm2, nm3]
  refine sw_callE (args := #[]) (fun W => run_call_fn W (enters_of Tryd.func7 (by kernel_rfl) rfl) rfl (by simp [Act.eval])) (holives_any m _ (((bcell (gr_step (gr_step (gr_step (hb) hc2) hc3) hc4)).1 _ 0 lgm).trans HM.out)) rfl ?_
  rintro e w5 ⟨rfl, hc5⟩
  refine ⟨_, rfl, ?_⟩
  simp only [nm0, nm1, nm2, nm3]
  refine sw_pure (v := .bool true) (fun W => rfl) rfl ?_
  simp only [nm0, nm1, nm2, nm3]
  refine sw_pure (v := .bool true) (fun W => rfl) rfl ?_
  simp only [nm0, nm1, nm2, nm3]
  refine sw_nil ?_
  go_wp2_with fail
  go_ret
  exact ⟨rfl, gr_step (gr_step (gr_step (gr_step (hb) hc2) hc3) hc4) hc5⟩
set_option maxRecDepth 100000 in
set_option maxHeartbeats 8000000 in
theorem hback_nsl (S Y Z TT : ByteArray) (P : Int) (k : Int) (q1 : ¬ (300 : Int) < (S.size : Int)) (qk : ¬ k = 0) (qk2 : (k == 0) = false) (hp1 : 1 ≤ P) (hp2 : P ≤ 65535) (qp : (P == 0) = false) (qp2 : ¬ P = 0) (qp3 : IntKind.i64.wrap P = P) (hY : ∀ (x y : Operand) (W : World), (do eqGuard .add 9 x y (.string S) (.string ⟨#[58]⟩); binOp .add 9 (.string S) (.string ⟨#[58]⟩) : Sem Value).run Tryd.prog W = .ok (.string Y) W) (hTT : ∀ (x y : Operand) (W : World), (do eqGuard .add 9 x y (.string Y) (.string Z); binOp .add 9 (.string Y) (.string Z) : Sem Value).run Tryd.prog W = .ok (.string TT) W) (KP : ∀ w, Tab w → Calls Tryd.prog 12 #[.int .i64 P] w fun e w' => e = .returned (.string Z) ∧ Below w.heap.size w w') (q6 : (230 : Int) < (TT.size : Int)) (K1 : (∀ w m, w.cell? ⟨gMaxH, 0, none⟩ = some (.int .i64 m) → Calls Tryd.prog 8 #[.string S] w fun e w' => e = .returned (.tuple #[.string S, .int .i64 0, .int .i64 0]) ∧ Below w.heap.size w w')) (K2 : (∀ w m, w.cell? ⟨gMaxH, 0, none⟩ = some (.int .i64 m) → Calls Tryd.prog 8 #[.string TT] w fun e w' => e = .returned (.tuple #[.string ⟨#[]⟩, .int .i64 0, .int .i64 4]) ∧ Below w.heap.size w w')) (K3 : ∀ w m, w.cell? ⟨gMaxH, 0, none⟩ = some (.int .i64 m) → Calls Tryd.prog 10 #[.string S] w fun e w' => e = .returned (.int .i64 k) ∧ Below w.heap.size w w') (m : Int) (w : World) (hm : w.cell? ⟨gMaxH, 0, none⟩ = some (.int .i64 m)) (hT : Tab w) :
    Calls Tryd.prog 4 #[.string S, .int .u16 P] w fun e w' => e = .returned (.bool true) ∧ Below w.heap.size w w' := by
  have lgm := blk_of_cellH hm
  simp only at lgm
  have HM := Lib.hid hm
  have HT := Lib.hid hT
  clear hm hT
  replace K2 := Lib.hid K2
  replace K3 := Lib.hid (fun w hm => K3 w m hm)
  replace KP := Lib.hid KP
  replace hY := Lib.hid hY
  replace hTT := Lib.hid hTT
  go_enter Tryd.func4, Tryd.ntmps4
  go_wp2_with fail
  refine (K1 w m HM.out).mono ?_
  rintro e w1 ⟨rfl, hb⟩
  go_upto_region 6 with fail
  refine sw_lit ?_
  refine sw_pure (v := .string S) (fun W => rfl) rfl ?_
  simp only [nm0, nm1, nm2, nm3]
  refine sw_callE (args := #[.string S]) (fun W => run_call_fn W (enters_of Tryd.func10 (by kernel_rfl) rfl) rfl (by simp [Act.eval])) (K3.out _ (((bcell (hb)).1 _ 0 lgm).trans HM.out)) rfl ?_
  rintro e w2 ⟨rfl, hc2⟩
  refine ⟨_, rfl, ?_⟩
  simp only [nm0, nm1, nm2, nm3]
  refine sw_pure (v := .bool false) (fun W => run_bin_of rfl rfl rfl (by go_simp)) rfl ?_
  simp only [nm0, nm1, nm2, nm3]
  refine sw_pure (v := .bool false) (fun W => rfl) rfl ?_
  simp only [nm0, nm1, nm2, nm3]
  refine sw_pure (v := .int .i64 0) (fun W => rfl) rfl ?_
  simp only [nm0, nm1, nm2, nm3]
  refine sw_pure (v := .bool true) (fun W => run_bin_of rfl rfl rfl (by go_simp)) rfl ?_
  simp only [nm0, nm1, nm2, nm3]
  refine sw_pure (v := .bool true) (fun W => rfl) rfl ?_
  simp only [nm0, nm1, nm2, nm3]
  refine sw_pure (v := .string S) (fun W => rfl) rfl ?_
  simp only [nm0, nm1, nm2, nm3]
  refine sw_pure (v := .string S) (fun W => rfl) rfl ?_
  simp only [nm0, nm1, nm2, nm3]
  refine sw_pure (v := .bool false) (fun W => run_bin_of rfl rfl rfl (by go_simp)) rfl ?_
  simp only [nm0, nm1, nm2, nm3]
  refine sw_pure (v := .bool false) (fun W => rfl) rfl ?_
  simp only [nm0, nm1, nm2, nm3]
  refine sw_pure (v := .bool false) (fun W => rfl) rfl ?_
  simp only [nm0, nm1, nm2, nm3]
  refine sw_pure (v := .bool false) (fun W => rfl) rfl ?_
  simp only [nm0, nm1, nm2, nm3]
  refine sw_pure (v := .int .i64 0) (fun W => rfl) rfl ?_
  simp only [nm0, nm1, nm2, nm3]
  refine sw_pure (v := .bool false) (fun W => run_bin_of rfl rfl rfl (by go_simp)) rfl ?_
  simp only [nm0, nm1, nm2, nm3]
  refine sw_pure (v := .bool false) (fun W => rfl) rfl ?_
  simp only [nm0, nm1, nm2, nm3]
  refine sw_skip rfl ?_
  simp only [nm0, nm1, nm2, nm3]
  refine sw_skip rfl ?_
  simp only [nm0, nm1, nm2, nm3]
  refine sw_skip rfl ?_
  simp only [nm0, nm1, nm2, nm3]
  refine sw_skip rfl ?_
  simp only [nm0, nm1, nm2, nm3]
  refine sw_skip rfl ?_
  simp only [nm0, nm1, nm2, nm3]
  refine sw_skip rfl ?_
  simp only [nm0, nm1, nm2, nm3]
  refine sw_skip rfl ?_
  simp only [nm0, nm1, nm2, nm3]
  refine sw_pure (v := .bool false) (fun W => rfl) rfl ?_
  simp only [nm0, nm1, nm2, nm3]
  refine sw_pure (v := .bool false) (fun W => rfl) rfl ?_
  simp only [nm0, nm1, nm2, nm3]
  refine sw_nil ?_
  go_upto_region 8 with fail
  refine sw_lit ?_
  refine sw_pure (v := .string S) (fun W => rfl) rfl ?_
  simp only [nm0, nm1, nm2, nm3]
  refine sw_pure (v := .string Y) (fun W => run_bin_of rfl rfl rfl (hY.out _ _ W)) rfl ?_
  simp only [nm0, nm1, nm2, nm3]
  refine sw_pure (v := .int .u16 P) (fun W => rfl) rfl ?_
  simp only [nm0, nm1, nm2, nm3]
  refine sw_pure (v := .int .i64 P) (fun W => by first | (go_simp; done) | (go_simp; rfl)) rfl ?_
  simp only [nm0, nm1, nm2, nm3]
  refine sw_callE (args := #[.int .i64 P]) (fun W => run_call_fn W (enters_of Tryd.func12 (by kernel_rfl) rfl) rfl (by simp [Act.eval])) (KP.out _ (tab_below HT.out (gr_step (hb) hc2))) rfl ?_
  rintro e w3 ⟨rfl, hc3⟩
  refine ⟨_, rfl, ?_⟩
  simp only [nm0, nm1, nm2, nm3]
  refine sw_pure (v := .string TT) (fun W => run_bin_of rfl rfl rfl (hTT.out _ _ W)) rfl ?_
  simp only [nm0, nm1, nm2, nm3]
  refine sw_pure (v := .string TT) (fun W => rfl) rfl ?_
  simp only [nm0, nm1, nm2, nm3]
  refine sw_nil ?_
  go_wp2_with fail
  refine (K2.out _ m (((bcell (gr_step (gr_step (hb) hc2) hc3)).1 _ 0 lgm).trans HM.out)).mono ?_
  rintro e w4 ⟨rfl, hc4⟩
  go_upto_region 12 with fail
  refine sw_lit ?_
  refine sw_pure (v := .string TT) (fun W => rfl) rfl ?_
  simp only [nm0, nm1, nm2, nm3]
  refine sw_pure (v := .int .i64 (TT.size : Int)) (fun W => by go_simp) rfl ?_
  simp only [nm0, nm1, nm2, nm3]
  refine sw_pure (v := .bool true) (fun W => run_bin_of rfl rfl rfl (by go_simp)) rfl ?_
  simp only [nm0, nm1, nm2, nm3]
  refine sw_pure (v := .bool true) (fun W => rfl) rfl ?_
  simp only [nm0, nm1, nm2, nm3]
  refine sw_pure (v := .int .i64 4) (fun W => rfl) rfl ?_
  simp only [nm0, nm1, nm2, nm3]
  refine sw_pure (v := .bool true) (fun W => run_bin_of rfl rfl rfl (by go_simp)) rfl ?_
  simp only [nm0, nm1, nm2, nm3]
  refine sw_pure (v := .bool true) (fun W => rfl) rfl ?_
  simp only [nm0, nm1, nm2, nm3]
  refine sw_pure (v := .bool true) (fun W => rfl) rfl ?_
  simp only [nm0, nm1, nm2, nm3]
  refine sw_skip rfl ?_
  simp only [nm0, nm1, nm2, nm3]
  refine sw_skip rfl ?_
  simp only [nm0, nm1, nm2, nm3]
  refine sw_skip rfl ?_
  simp only [nm0, nm1, nm2, nm3]
  refine sw_skip rfl ?_
  simp only [nm0, nm1, nm2, nm3]
  refine sw_skip rfl ?_
  simp only [nm0, nm1, nm2, nm3]
  refine sw_skip rfl ?_
  simp only [nm0, nm1, nm2, nm3]
  refine sw_skip rfl ?_
  simp only [nm0, nm1, nm2, nm3]
  refine sw_skip rfl ?_
  simp only [nm0, nm1, nm2, nm3]
  refine sw_skip rfl ?_
  simp only [nm0, nm1, nm2, nm3]
  refine sw_skip rfl ?_
  simp only [nm0, nm1, nm2, nm3]
  refine sw_skip rfl ?_
  simp only [nm0, nm1, nm2, nm3]
  refine sw_skip rfl ?_
  simp only [nm0, nm1, nm2, nm3]
  refine sw_skip rfl ?_
  simp only [nm0, nm1, nm2, nm3]
  refine sw_pure (v := .bool true) (fun W => rfl) rfl ?_
  simp only [nm0, nm1, nm2, nm3]
  refine sw_pure (v := .bool true) (fun W => rfl) rfl ?_
  simp only [nm0, nm1, nm2, nm3]
  refine sw_callE (args := #[]) (fun W => run_call_fn W (enters_of Tryd.func7 (by kernel_rfl) rfl) rfl (by simp [Act.eval])) (holives_any m _ (((bcell (gr_step (gr_step (gr_step (hb) hc2) hc3) hc4)).1 _ 0 lgm).trans HM.out)) rfl ?_
  rintro e w5 ⟨rfl, hc5⟩
  refine ⟨_, rfl, ?_⟩
  simp only [nm0, nm1, nm2, nm3]
  refine sw_pure (v := .bool true) (fun W => rfl) rfl ?_
  simp only [nm0, nm1, nm2, nm3]
  refine sw_pure (v := .bool true) (fun W => rfl) rfl ?_
  simp only [nm0, nm1, nm2, nm3]
  refine sw_nil ?_
  go_wp2_with fail
  go_ret
  exact ⟨rfl, gr_step (gr_step (gr_step (gr_step (hb) hc2) hc3) hc4) hc5⟩
set_option maxRecDepth 100000 in
set_option maxHeartbeats 8000000 in
theorem hback_nso (S Y Z TT : ByteArray) (P : Int) (k : Int) (q1 : ¬ (300 : Int) < (S.size : Int)) (qk : ¬ k = 0) (qk2 : (k == 0) = false) (hp1 : 1 ≤ P) (hp2 : P ≤ 65535) (qp : (P == 0) = false) (qp2 : ¬ P = 0) (qp3 : IntKind.i64.wrap P = P) (hY : ∀ (x y : Operand) (W : World), (do eqGuard .add 9 x y (.string S) (.string ⟨#[58]⟩); binOp .add 9 (.string S) (.string ⟨#[58]⟩) : Sem Value).run Tryd.prog W = .ok (.string Y) W) (hTT : ∀ (x y : Operand) (W : World), (do eqGuard .add 9 x y (.string Y) (.string Z); binOp .add 9 (.string Y) (.string Z) : Sem Value).run Tryd.prog W = .ok (.string TT) W) (KP : ∀ w, Tab w → Calls Tryd.prog 12 #[.int .i64 P] w fun e w' => e = .returned (.string Z) ∧ Below w.heap.size w w') (q6 : ¬ (230 : Int) < (TT.size : Int)) (K1 : (∀ w m, w.cell? ⟨gMaxH, 0, none⟩ = some (.int .i64 m) → Calls Tryd.prog 8 #[.string S] w fun e w' => e = .returned (.tuple #[.string S, .int .i64 0, .int .i64 0]) ∧ Below w.heap.size w w')) (K2 : (∀ w m, w.cell? ⟨gMaxH, 0, none⟩ = some (.int .i64 m) → Calls Tryd.prog 8 #[.string TT] w fun e w' => e = .returned (.tuple #[.string S, .int .i64 P, .int .i64 0]) ∧ Below w.heap.size w w')) (K3 : ∀ w m, w.cell? ⟨gMaxH, 0, none⟩ = some (.int .i64 m) → Calls Tryd.prog 10 #[.string S] w fun e w' => e = .returned (.int .i64 k) ∧ Below w.heap.size w w') (m : Int) (w : World) (hm : w.cell? ⟨gMaxH, 0, none⟩ = some (.int .i64 m)) (hT : Tab w) :
    Calls Tryd.prog 4 #[.string S, .int .u16 P] w fun e w' => e = .returned (.bool true) ∧ Below w.heap.size w w' := by
  have lgm := blk_of_cellH hm
  simp only at lgm
  have HM := Lib.hid hm
  have HT := Lib.hid hT
  clear hm hT
  replace K2 := Lib.hid K2
  replace K3 := Lib.hid (fun w hm => K3 w m hm)
  replace KP := Lib.hid KP
  replace hY := Lib.hid hY
  replace hTT := Lib.hid hTT
  go_enter Tryd.func4, Tryd.ntmps4
  go_wp2_with fail
  refine (K1 w m HM.out).mono ?_
  rintro e w1 ⟨rfl, hb⟩
  go_upto_region 6 with fail
  refine sw_lit ?_
  refine sw_pure (v := .string S) (fun W => rfl) rfl ?_
  simp only [nm0, nm1, nm2, nm3]
  refine sw_callE (args := #[.string S]) (fun W => run_call_fn W (enters_of Tryd.func10 (by kernel_rfl) rfl) rfl (by simp [Act.eval])) (K3.out _ (((bcell (hb)).1 _ 0 lgm).trans HM.out)) rfl ?_
  rintro e w2 ⟨rfl, hc2⟩
  refine ⟨_, rfl, ?_⟩
  simp only [nm0, nm1, nm2, nm3]
  refine sw_pure (v := .bool false) (fun W => run_bin_of rfl rfl rfl (by go_simp)) rfl ?_
  simp only [nm0, nm1, nm2, nm3]
  refine sw_pure (v := .bool false) (fun W => rfl) rfl ?_
  simp only [nm0, nm1, nm2, nm3]
  refine sw_pure (v := .int .i64 0) (fun W => rfl) rfl ?_
  simp only [nm0, nm1, nm2, nm3]
  refine sw_pure (v := .bool true) (fun W => run_bin_of rfl rfl rfl (by go_simp)) rfl ?_
  simp only [nm0, nm1, nm2, nm3]
  refine sw_pure (v := .bool true) (fun W => rfl) rfl ?_
  simp only [nm0, nm1, nm2, nm3]
  refine sw_pure (v := .string S) (fun W => rfl) rfl ?_
  simp only [nm0, nm1, nm2, nm3]
  refine sw_pure (v := .string S) (fun W => rfl) rfl ?_
  simp only [nm0, nm1, nm2, nm3]
  refine sw_pure (v := .bool false) (fun W => run_bin_of rfl rfl rfl (by go_simp)) rfl ?_
  simp only [nm0, nm1, nm2, nm3]
  refine sw_pure (v := .bool false) (fun W => rfl) rfl ?_
  simp only [nm0, nm1, nm2, nm3]
  refine sw_pure (v := .bool false) (fun W => rfl) rfl ?_
  simp only [nm0, nm1, nm2, nm3]
  refine sw_pure (v := .bool false) (fun W => rfl) rfl ?_
  simp only [nm0, nm1, nm2, nm3]
  refine sw_pure (v := .int .i64 0) (fun W => rfl) rfl ?_
  simp only [nm0, nm1, nm2, nm3]
  refine sw_pure (v := .bool false) (fun W => run_bin_of rfl rfl rfl (by go_simp)) rfl ?_
  simp only [nm0, nm1, nm2, nm3]
  refine sw_pure (v := .bool false) (fun W => rfl) rfl ?_
  simp only [nm0, nm1, nm2, nm3]
  refine sw_skip rfl ?_
  simp only [nm0, nm1, nm2, nm3]
  refine sw_skip rfl ?_
  simp only [nm0, nm1, nm2, nm3]
  refine sw_skip rfl ?_
  simp only [nm0, nm1, nm2, nm3]
  refine sw_skip rfl ?_
  simp only [nm0, nm1, nm2, nm3]
  refine sw_skip rfl ?_
  simp only [nm0, nm1, nm2, nm3]
  refine sw_skip rfl ?_
  simp only [nm0, nm1, nm2, nm3]
  refine sw_skip rfl ?_
  simp only [nm0, nm1, nm2, nm3]
  refine sw_pure (v := .bool false) (fun W => rfl) rfl ?_
  simp only [nm0, nm1, nm2, nm3]
  refine sw_pure (v := .bool false) (fun W => rfl) rfl ?_
  simp only [nm0, nm1, nm2, nm3]
  refine sw_nil ?_
  go_upto_region 8 with fail
  refine sw_lit ?_
  refine sw_pure (v := .string S) (fun W => rfl) rfl ?_
  simp only [nm0, nm1, nm2, nm3]
  refine sw_pure (v := .string Y) (fun W => run_bin_of rfl rfl rfl (hY.out _ _ W)) rfl ?_
  simp only [nm0, nm1, nm2, nm3]
  refine sw_pure (v := .int .u16 P) (fun W => rfl) rfl ?_
  simp only [nm0, nm1, nm2, nm3]
  refine sw_pure (v := .int .i64 P) (fun W => by first | (go_simp; done) | (go_simp; rfl)) rfl ?_
  simp only [nm0, nm1, nm2, nm3]
  refine sw_callE (args := #[.int .i64 P]) (fun W => run_call_fn W (enters_of Tryd.func12 (by kernel_rfl) rfl) rfl (by simp [Act.eval])) (KP.out _ (tab_below HT.out (gr_step (hb) hc2))) rfl ?_
  rintro e w3 ⟨rfl, hc3⟩
  refine ⟨_, rfl, ?_⟩
  simp only [nm0, nm1, nm2, nm3]
  refine sw_pure (v := .string TT) (fun W => run_bin_of rfl rfl rfl (hTT.out _ _ W)) rfl ?_
  simp only [nm0, nm1, nm2, nm3]
  refine sw_pure (v := .string TT) (fun W => rfl) rfl ?_
  simp only [nm0, nm1, nm2, nm3]
  refine sw_nil ?_
  go_wp2_with fail
  refine (K2.out _ m (((bcell (gr_step (gr_step (hb) hc2) hc3)).1 _ 0 lgm).trans HM.out)).mono ?_
  rintro e w4 ⟨rfl, hc4⟩
  go_upto_region 12 with fail
  refine sw_lit ?_
  refine sw_pure (v := .string TT) (fun W => rfl) rfl ?_
  simp only [nm0, nm1, nm2, nm3]
  refine sw_pure (v := .int .i64 (TT.size : Int)) (fun W => by go_simp) rfl ?_
  simp only [nm0, nm1, nm2, nm3]
  refine sw_pure (v := .bool false) (fun W => run_bin_of rfl rfl rfl (by go_simp)) rfl ?_
  simp only [nm0, nm1, nm2, nm3]
  refine sw_pure (v := .bool false) (fun W => rfl) rfl ?_
  simp only [nm0, nm1, nm2, nm3]
  refine sw_skip rfl ?_
  simp only [nm0, nm1, nm2, nm3]
  refine sw_skip rfl ?_
  simp only [nm0, nm1, nm2, nm3]
  refine sw_pure (v := .bool false) (fun W => rfl) rfl ?_
  simp only [nm0, nm1, nm2, nm3]
  refine sw_pure (v := .bool false) (fun W => rfl) rfl ?_
  simp only [nm0, nm1, nm2, nm3]
  refine sw_pure (v := .int .i64 0) (fun W => rfl) rfl ?_
  simp only [nm0, nm1, nm2, nm3]
  refine sw_pure (v := .bool true) (fun W => run_bin_of rfl rfl rfl (by go_simp)) rfl ?_
  simp only [nm0, nm1, nm2, nm3]
  refine sw_pure (v := .bool true) (fun W => rfl) rfl ?_
  simp only [nm0, nm1, nm2, nm3]
  refine sw_pure (v := .string S) (fun W => rfl) rfl ?_
  simp only [nm0, nm1, nm2, nm3]
  refine sw_pure (v := .string S) (fun W => rfl) rfl ?_
  simp only [nm0, nm1, nm2, nm3]
  refine sw_pure (v := .bool true) (fun W => run_bin_of rfl rfl rfl (by go_simp)) rfl ?_
  simp only [nm0, nm1, nm2, nm3]
  refine sw_pure (v := .bool true) (fun W => rfl) rfl ?_
  simp only [nm0, nm1, nm2, nm3]
  refine sw_pure (v := .bool true) (fun W => rfl) rfl ?_
  simp only [nm0, nm1, nm2, nm3]
  refine sw_pure (v := .int .i64 P) (fun W => rfl) rfl ?_
  simp only [nm0, nm1, nm2, nm3]
  refine sw_pure (v := .int .u16 P) (fun W => rfl) rfl ?_
  simp only [nm0, nm1, nm2, nm3]
  refine sw_pure (v := .int .i64 P) (fun W => by first | (go_simp; done) | (go_simp; rfl)) rfl ?_
  simp only [nm0, nm1, nm2, nm3]
  refine sw_pure (v := .bool true) (fun W => run_bin_of rfl rfl rfl (by go_simp)) rfl ?_
  simp only [nm0, nm1, nm2, nm3]
  refine sw_pure (v := .bool true) (fun W => rfl) rfl ?_
  simp only [nm0, nm1, nm2, nm3]
  refine sw_pure (v := .bool true) (fun W => rfl) rfl ?_
  simp only [nm0, nm1, nm2, nm3]
  refine sw_pure (v := .bool true) (fun W => rfl) rfl ?_
  simp only [nm0, nm1, nm2, nm3]
  refine sw_callE (args := #[]) (fun W => run_call_fn W (enters_of Tryd.func7 (by kernel_rfl) rfl) rfl (by simp [Act.eval])) (holives_any m _ (((bcell (gr_step (gr_step (gr_step (hb) hc2) hc3) hc4)).1 _ 0 lgm).trans HM.out)) rfl ?_
  rintro e w5 ⟨rfl, hc5⟩
  refine ⟨_, rfl, ?_⟩
  simp only [nm0, nm1, nm2, nm3]
  refine sw_pure (v := .bool true) (fun W => rfl) rfl ?_
  simp only [nm0, nm1, nm2, nm3]
  refine sw_pure (v := .bool true) (fun W => rfl) rfl ?_
  simp only [nm0, nm1, nm2, nm3]
  refine sw_nil ?_
  go_wp2_with fail
  go_ret
  exact ⟨rfl, gr_step (gr_step (gr_step (gr_step (hb) hc2) hc3) hc4) hc5⟩
set_option maxRecDepth 100000 in
set_option maxHeartbeats 8000000 in
theorem hback_pzl (S X YZ ZN Y Z TT : ByteArray) (N : Int) (k : Int) (q1 : ¬ (300 : Int) < (S.size : Int)) (qk : ¬ k = 0) (qk2 : (k == 0) = false) (hn1 : 1 ≤ N) (hn2 : N ≤ 65535) (qn : (N == 0) = false) (qn2 : ¬ N = 0) (qn3 : 0 < N) (hYZ : ∀ (x y : Operand) (W : World), (do eqGuard .add 9 x y (.string X) (.string ⟨#[58]⟩); binOp .add 9 (.string X) (.string ⟨#[58]⟩) : Sem Value).run Tryd.prog W = .ok (.string YZ) W) (hZN : ∀ (x y : Operand) (W : World), (do eqGuard .add 9 x y (.string YZ) (.string ZN); binOp .add 9 (.string YZ) (.string ZN) : Sem Value).run Tryd.prog W = .ok (.string S) W) (KN : ∀ w, Tab w → Calls Tryd.prog 12 #[.int .i64 N] w fun e w' => e = .returned (.string ZN) ∧ Below w.heap.size w w') (hY : ∀ (x y : Operand) (W : World), (do eqGuard .add 9 x y (.string X) (.string ⟨#[58]⟩); binOp .add 9 (.string X) (.string ⟨#[58]⟩) : Sem Value).run Tryd.prog W = .ok (.string Y) W) (hTT : ∀ (x y : Operand) (W : World), (do eqGuard .add 9 x y (.string Y) (.string Z); binOp .add 9 (.string Y) (.string Z) : Sem Value).run Tryd.prog W = .ok (.string TT) W) (KP : ∀ w, Tab w → Calls Tryd.prog 12 #[.int .i64 0] w fun e w' => e = .returned (.string Z) ∧ Below w.heap.size w w') (q6 : (230 : Int) < (TT.size : Int)) (K1 : (∀ w m, w.cell? ⟨gMaxH, 0, none⟩ = some (.int .i64 m) → Calls Tryd.prog 8 #[.string S] w fun e w' => e = .returned (.tuple #[.string X, .int .i64 N, .int .i64 0]) ∧ Below w.heap.size w w')) (K2 : (∀ w m, w.cell? ⟨gMaxH, 0, none⟩ = some (.int .i64 m) → Calls Tryd.prog 8 #[.string TT] w fun e w' => e = .returned (.tuple #[.string ⟨#[]⟩, .int .i64 0, .int .i64 4]) ∧ Below w.heap.size w w')) (K3 : ∀ w m, w.cell? ⟨gMaxH, 0, none⟩ = some (.int .i64 m) → Calls Tryd.prog 10 #[.string X] w fun e w' => e = .returned (.int .i64 k) ∧ Below w.heap.size w w') (m : Int) (w : World) (hm : w.cell? ⟨gMaxH, 0, none⟩ = some (.int .i64 m)) (hT : Tab w) :
    Calls Tryd.prog 4 #[.string S, .int .u16 0] w fun e w' => e = .returned (.bool true) ∧ Below w.heap.size w w' := by
  have lgm := blk_of_cellH hm
  simp only at lgm
  have HM := Lib.hid hm
  have HT := Lib.hid hT
  clear hm hT
  replace K2 := Lib.hid K2
  replace K3 := Lib.hid (fun w hm => K3 w m hm)
  replace KP := Lib.hid KP
  replace hY := Lib.hid hY
  replace hTT := Lib.hid hTT
  replace KN := Lib.hid KN
  replace hYZ := Lib.hid hYZ
  replace hZN := Lib.hid hZN
  go_enter Tryd.func4, Tryd.ntmps4
  go_wp2_with fail
  refine (K1 w m HM.out).mono ?_
  rintro e w1 ⟨rfl, hb⟩
  go_upto_region 6 with fail
  refine sw_lit ?_
  refine sw_pure (v := .string X) (fun W => rfl) rfl ?_
  simp only [nm0, nm1, nm2, nm3]
  refine sw_callE (args := #[.string X]) (fun W => run_call_fn W (enters_of Tryd.func10 (by kernel_rfl) rfl) rfl (by simp [Act.eval])) (K3.out _ (((bcell (hb)).1 _ 0 lgm).trans HM.out)) rfl ?_
  rintro e w2 ⟨rfl, hc2⟩
  refine ⟨_, rfl, ?_⟩
  simp only [nm0, nm1, nm2, nm3]
  refine sw_pure (v := .bool false) (fun W => run_bin_of rfl rfl rfl (by go_simp)) rfl ?_
  simp only [nm0, nm1, nm2, nm3]
  refine sw_pure (v := .bool false) (fun W => rfl) rfl ?_
  simp only [nm0, nm1, nm2, nm3]
  refine sw_pure (v := .int .i64 N) (fun W => rfl) rfl ?_
  simp only [nm0, nm1, nm2, nm3]
  refine sw_pure (v := .bool false) (fun W => run_bin_of rfl rfl rfl (by go_simp)) rfl ?_
  simp only [nm0, nm1, nm2, nm3]
  refine sw_pure (v := .bool false) (fun W => rfl) rfl ?_
  simp only [nm0, nm1, nm2, nm3]
  refine sw_skip rfl ?_
  simp only [nm0, nm1, nm2, nm3]
  refine sw_skip rfl ?_
  simp only [nm0, nm1, nm2, nm3]
  refine sw_skip rfl ?_
  simp only [nm0, nm1, nm2, nm3]
  refine sw_pure (v := .bool false) (fun W => rfl) rfl ?_
  simp only [nm0, nm1, nm2, nm3]
  refine sw_pure (v := .bool false) (fun W => rfl) rfl ?_
  simp only [nm0, nm1, nm2, nm3]
  refine sw_pure (v := .bool false) (fun W => rfl) rfl ?_
  simp only [nm0, nm1, nm2, nm3]
  refine sw_pure (v := .int .i64 N) (fun W => rfl) rfl ?_
  simp only [nm0, nm1, nm2, nm3]
  refine sw_pure (v := .bool true) (fun W => run_bin_of rfl rfl rfl (by go_simp)) rfl ?_
  simp only [nm0, nm1, nm2, nm3]
  refine sw_pure (v := .bool true) (fun W => rfl) rfl ?_
  simp only [nm0, nm1, nm2, nm3]
  refine sw_pure (v := .string S) (fun W => rfl) rfl ?_
  simp only [nm0, nm1, nm2, nm3]
  refine sw_pure (v := .string X) (fun W => rfl) rfl ?_
  simp only [nm0, nm1, nm2, nm3]
  refine sw_pure (v := .string YZ) (fun W => run_bin_of rfl rfl rfl (hYZ.out _ _ W)) rfl ?_
  simp only [nm0, nm1, nm2, nm3]
  refine sw_pure (v := .int .i64 N) (fun W => rfl) rfl ?_
  simp only [nm0, nm1, nm2, nm3]
  refine sw_callE (args := #[.int .i64 N]) (fun W => run_call_fn W (enters_of Tryd.func12 (by kernel_rfl) rfl) rfl (by simp [Act.eval])) (KN.out _ (tab_below HT.out (gr_step (hb) hc2))) rfl ?_
  rintro e w3 ⟨rfl, hc3⟩
  refine ⟨_, rfl, ?_⟩
  simp only [nm0, nm1, nm2, nm3]
  refine sw_pure (v := .string S) (fun W => run_bin_of rfl rfl rfl (hZN.out _ _ W)) rfl ?_
  simp only [nm0, nm1, nm2, nm3]
  refine sw_pure (v := .bool false) (fun W => run_bin_of rfl rfl rfl (by go_simp)) rfl ?_
  simp only [nm0, nm1, nm2, nm3]
  refine sw_pure (v := .bool false) (fun W => rfl) rfl ?_
  simp only [nm0, nm1, nm2, nm3]
  refine sw_pure (v := .bool false) (fun W => rfl) rfl ?_
  simp only [nm0, nm1, nm2, nm3]
  refine sw_nil ?_
  go_upto_region 8 with fail
  refine sw_lit ?_
  refine sw_pure (v := .string X) (fun W => rfl) rfl ?_
  simp only [nm0, nm1, nm2, nm3]
  refine sw_pure (v := .string Y) (fun W => run_bin_of rfl rfl rfl (hY.out _ _ W)) rfl ?_
  simp only [nm0, nm1, nm2, nm3]
  refine sw_pure (v := .int .u16 0) (fun W => rfl) rfl ?_
  simp only [nm0, nm1, nm2, nm3]
  refine sw_pure (v := .int .i64 0) (fun W => by first | (go_simp; done) | (go_simp; rfl)) rfl ?_
  simp only [nm0, nm1, nm2, nm3]
  refine sw_callE (args := #[.int .i64 0]) (fun W => run_call_fn W (enters_of Tryd.func12 (by kernel_rfl) rfl) rfl (by simp [Act.eval])) (KP.out _ (tab_below HT.out (gr_step (gr_step (hb) hc2) hc3))) rfl ?_
  rintro e w4 ⟨rfl, hc4⟩
  refine ⟨_, rfl, ?_⟩
  simp only [nm0, nm1, nm2, nm3]
  refine sw_pure (v := .string TT) (fun W => run_bin_of rfl rfl rfl (hTT.out _ _ W)) rfl ?_
  simp only [nm0, nm1, nm2, nm3]
  refine sw_pure (v := .string TT) (fun W => rfl) rfl ?_
  simp only [nm0, nm1, nm2, nm3]
  refine sw_nil ?_
  go_wp2_with fail
  refine (K2.out _ m (((bcell (gr_step (gr_step (gr_step (hb) hc2) hc3) hc4)).1 _ 0 lgm).trans HM.out)).mono ?_
  rintro e w5 ⟨rfl, hc5⟩
  go_upto_region 11 with fail
  refine sw_lit ?_
  refine sw_pure (v := .string TT) (fun W => rfl) rfl ?_
  simp only [nm0, nm1, nm2, nm3]
  refine sw_pure (v := .int .i64 (TT.size : Int)) (fun W => by go_simp) rfl ?_
  simp only [nm0, nm1, nm2, nm3]
  refine sw_pure (v := .bool true) (fun W => run_bin_of rfl rfl rfl (by go_simp)) rfl ?_
  simp only [nm0, nm1, nm2, nm3]
  refine sw_pure (v := .bool true) (fun W => rfl) rfl ?_
  simp only [nm0, nm1, nm2, nm3]
  refine sw_pure (v := .int .i64 4) (fun W => rfl) rfl ?_
  simp only [nm0, nm1, nm2, nm3]
  refine sw_pure (v := .bool true) (fun W => run_bin_of rfl rfl rfl (by go_simp)) rfl ?_
  simp only [nm0, nm1, nm2, nm3]
  refine sw_pure (v := .bool true) (fun W => rfl) rfl ?_
  simp only [nm0, nm1, nm2, nm3]
  refine sw_pure (v := .bool true) (fun W => rfl) rfl ?_
  simp only [nm0, nm1, nm2, nm3]
  refine sw_skip rfl ?_
  simp only [nm0, nm1, nm2, nm3]
  refine sw_skip rfl ?_
  simp only [nm0, nm1, nm2, nm3]
  refine sw_pure (v := .bool true) (fun W => rfl) rfl ?_
  simp only [nm0, nm1, nm2, nm3]
  refine sw_pure (v := .bool true) (fun W => rfl) rfl ?_
  simp only [nm0, nm1, nm2, nm3]
  refine sw_callE (args := #[]) (fun W => run_call_fn W (enters_of Tryd.func7 (by kernel_rfl) rfl) rfl (by simp [Act.eval])) (holives_any m _ (((bcell (gr_step (gr_step (gr_step (gr_step (hb) hc2) hc3) hc4) hc5)).1 _ 0 lgm).trans HM.out)) rfl ?_
  rintro e w6 ⟨rfl, hc6⟩
  refine ⟨_, rfl, ?_⟩
  simp only [nm0, nm1, nm2, nm3]
  refine sw_pure (v := .bool true) (fun W => rfl) rfl ?_
  simp only [nm0, nm1, nm2, nm3]
  refine sw_pure (v := .bool true) (fun W => rfl) rfl ?_
  simp only [nm0, nm1, nm2, nm3]
  refine sw_nil ?_
  go_wp2_with fail
  go_ret
  exact ⟨rfl, gr_step (gr_step (gr_step (gr_step (gr_step (hb) hc2) hc3) hc4) hc5) hc6⟩
set_option maxRecDepth 100000 in
set_option maxHeartbeats 8000000 in
theorem hback_pzo (S X YZ ZN Y Z TT : ByteArray) (N : Int) (k : Int) (q1 : ¬ (300 : Int) < (S.size : Int)) (qk : ¬ k = 0) (qk2 : (k == 0) = false) (hn1 : 1 ≤ N) (hn2 : N ≤ 65535) (qn : (N == 0) = false) (qn2 : ¬ N = 0) (qn3 : 0 < N) (hYZ : ∀ (x y : Operand) (W : World), (do eqGuard .add 9 x y (.string X) (.string ⟨#[58]⟩); binOp .add 9 (.string X) (.string ⟨#[58]⟩) : Sem Value).run Tryd.prog W = .ok (.string YZ) W) (hZN : ∀ (x y : Operand) (W : World), (do eqGuard .add 9 x y (.string YZ) (.string ZN); binOp .add 9 (.string YZ) (.string ZN) : Sem Value).run Tryd.prog W = .ok (.string S) W) (KN : ∀ w, Tab w → Calls Tryd.prog 12 #[.int .i64 N] w fun e w' => e = .returned (.string ZN) ∧ Below w.heap.size w w') (hY : ∀ (x y : Operand) (W : World), (do eqGuard .add 9 x y (.string X) (.string ⟨#[58]⟩); binOp .add 9 (.string X) (.string ⟨#[58]⟩) : Sem Value).run Tryd.prog W = .ok (.string Y) W) (hTT : ∀ (x y : Operand) (W : World), (do eqGuard .add 9 x y (.string Y) (.string Z); binOp .add 9 (.string Y) (.string Z) : Sem Value).run Tryd.prog W = .ok (.string TT) W) (KP : ∀ w, Tab w → Calls Tryd.prog 12 #[.int .i64 0] w fun e w' => e = .returned (.string Z) ∧ Below w.heap.size w w') (q6 : ¬ (230 : Int) < (TT.size : Int)) (K1 : (∀ w m, w.cell? ⟨gMaxH, 0, none⟩ = some (.int .i64 m) → Calls Tryd.prog 8 #[.string S] w fun e w' => e = .returned (.tuple #[.string X, .int .i64 N, .int .i64 0]) ∧ Below w.heap.size w w')) (K2 : (∀ w m, w.cell? ⟨gMaxH, 0, none⟩ = some (.int .i64 m) → Calls Tryd.prog 8 #[.string TT] w fun e w' => e = .returned (.tuple #[.string ⟨#[]⟩, .int .i64 0, .int .i64 25]) ∧ Below w.heap.size w w')) (K3 : ∀ w m, w.cell? ⟨gMaxH, 0, none⟩ = some (.int .i64 m) → Calls Tryd.prog 10 #[.string X] w fun e w' => e = .returned (.int .i64 k) ∧ Below w.heap.size w w') (m : Int) (w : World) (hm : w.cell? ⟨gMaxH, 0, none⟩ = some (.int .i64 m)) (hT : Tab w) :
    Calls Tryd.prog 4 #[.string S, .int .u16 0] w fun e w' => e = .returned (.bool true) ∧ Below w.heap.size w w' := by
  have lgm := blk_of_cellH hm
  simp only at lgm
  have HM := Lib.hid hm
  have HT := Lib.hid hT
  clear hm hT
  replace K2 := Lib.hid K2
  replace K3 := Lib.hid (fun w hm => K3 w m hm)
  replace KP := Lib.hid KP
  replace hY := Lib.hid hY
  replace hTT := Lib.hid hTT
  replace KN := Lib.hid KN
  replace hYZ := Lib.hid hYZ
  replace hZN := Lib.hid hZN
  go_enter Tryd.func4, Tryd.ntmps4
  go_wp2_with fail
  refine (K1 w m HM.out).mono ?_
  rintro e w1 ⟨rfl, hb⟩
  go_upto_region 6 with fail
  refine sw_lit ?_
  refine sw_pure (v := .string X) (fun W => rfl) rfl ?_
  simp only [nm0, nm1, nm2, nm3]
  refine sw_callE (args := #[.string X]) (fun W => run_call_fn W (enters_of Tryd.func10 (by kernel_rfl) rfl) rfl (by simp [Act.eval])) (K3.out _ (((bcell (hb)).1 _ 0 lgm).trans HM.out)) rfl ?_
  rintro e w2 ⟨rfl, hc2⟩
  refine ⟨_, rfl, ?_⟩
  simp only [nm0, nm1, nm2, nm3]
  refine sw_pure (v := .bool false) (fun W => run_bin_of rfl rfl rfl (by go_simp)) rfl ?_
  simp only [nm0, nm1, nm2, nm3]
  refine sw_pure (v := .bool false) (fun W => rfl) rfl ?_
  simp only [nm0, nm1, nm2, nm3]
  refine sw_pure (v := .int .i64 N) (fun W => rfl) rfl ?_
  simp only [nm0, nm1, nm2, nm3]
  refine sw_pure (v := .bool false) (fun W => run_bin_of rfl rfl rfl (by go_simp)) rfl ?_
  simp only [nm0, nm1, nm2, nm3]
  refine sw_pure (v := .bool false) (fun W => rfl) rfl ?_
  simp only [nm0, nm1, nm2, nm3]
  refine sw_skip rfl ?_
  simp only [nm0, nm1, nm2, nm3]
  refine sw_skip rfl ?_
  simp only [nm0, nm1, nm2, nm3]
  refine sw_skip rfl ?_
  simp only [nm0, nm1, nm2, nm3]
  refine sw_pure (v := .bool false) (fun W => rfl) rfl ?_
  simp only [nm0, nm1, nm2, nm3]
  refine sw_pure (v := .bool false) (fun W => rfl) rfl ?_
  simp only [nm0, nm1, nm2, nm3]
  refine sw_pure (v := .bool false) (fun W => rfl) rfl ?_
  simp only [nm0, nm1, nm2, nm3]
  refine sw_pure (v := .int .i64 N) (fun W => rfl) rfl ?_
  simp only [nm0, nm1, nm2, nm3]
  refine sw_pure (v := .bool true) (fun W => run_bin_of rfl rfl rfl (by go_simp)) rfl ?_
  simp only [nm0, nm1, nm2, nm3]
  refine sw_pure (v := .bool true) (fun W => rfl) rfl ?_
  simp only [nm0, nm1, nm2, nm3]
  refine sw_pure (v := .string S) (fun W => rfl) rfl ?_
  simp only [nm0, nm1, nm2, nm3]
  refine sw_pure (v := .string X) (fun W => rfl) rfl ?_
  simp only [nm0, nm1, nm2, nm3]
  refine sw_pure (v := .string YZ) (fun W => run_bin_of rfl rfl rfl (hYZ.out _ _ W)) rfl ?_
  simp only [nm0, nm1, nm2, nm3]
  refine sw_pure (v := .int .i64 N) (fun W => rfl) rfl ?_
  simp only [nm0, nm1, nm2, nm3]
  refine sw_callE (args := #[.int .i64 N]) (fun W => run_call_fn W (enters_of Tryd.func12 (by kernel_rfl) rfl) rfl (by simp [Act.eval])) (KN.out _ (tab_below HT.out (gr_step (hb) hc2))) rfl ?_
  rintro e w3 ⟨rfl, hc3⟩
  refine ⟨_, rfl, ?_⟩
  simp only [nm0, nm1, nm2, nm3]
  refine sw_pure (v := .string S) (fun W => run_bin_of rfl rfl rfl (hZN.out _ _ W)) rfl ?_
  simp only [nm0, nm1, nm2, nm3]
  refine sw_pure (v := .bool false) (fun W => run_bin_of rfl rfl rfl (by go_simp)) rfl ?_
  simp only [nm0, nm1, nm2, nm3]
  refine sw_pure (v := .bool false) (fun W => rfl) rfl ?_
  simp only [nm0, nm1, nm2, nm3]
  refine sw_pure (v := .bool false) (fun W => rfl) rfl ?_
  simp only [nm0, nm1, nm2, nm3]
  refine sw_nil ?_
  go_upto_region 8 with fail
  refine sw_lit ?_
  refine sw_pure (v := .string X) (fun W => rfl) rfl ?_
  simp only [nm0, nm1, nm2, nm3]
  refine sw_pure (v := .string Y) (fun W => run_bin_of rfl rfl rfl (hY.out _ _ W)) rfl ?_
  simp only [nm0, nm1, nm2, nm3]
  refine sw_pure (v := .int .u16 0) (fun W => rfl) rfl ?_
  simp only [nm0, nm1, nm2, nm3]
  refine sw_pure (v := .int .i64 0) (fun W => by first | (go_simp; done) | (go_simp; rfl)) rfl ?_
  simp only [nm0, nm1, nm2, nm3]
  refine sw_callE (args := #[.int .i64 0]) (fun W => run_call_fn W (enters_of Tryd.func12 (by kernel_rfl) rfl) rfl (by simp [Act.eval])) (KP.out _ (tab_below HT.out (gr_step (gr_step (hb) hc2) hc3))) rfl ?_
  rintro e w4 ⟨rfl, hc4⟩
  refine ⟨_, rfl, ?_⟩
  simp only [nm0, nm1, nm2, nm3]
  refine sw_pure (v := .string TT) (fun W => run_bin_of rfl rfl rfl (hTT.out _ _ W)) rfl ?_
  simp only [nm0, nm1, nm2, nm3]
  refine sw_pure (v := .string TT) (fun W => rfl) rfl ?_
  simp only [nm0, nm1, nm2, nm3]
  refine sw_nil ?_
  go_wp2_with fail
  refine (K2.out _ m (((bcell (gr_step (gr_step (gr_step (hb) hc2) hc3) hc4)).1 _ 0 lgm).trans HM.out)).mono ?_
  rintro e w5 ⟨rfl, hc5⟩
  go_upto_region 11 with fail
  refine sw_lit ?_
  refine sw_pure (v := .string TT) (fun W => rfl) rfl ?_
  simp only [nm0, nm1, nm2, nm3]
  refine sw_pure (v := .int .i64 (TT.size : Int)) (fun W => by go_simp) rfl ?_
  simp only [nm0, nm1, nm2, nm3]
  refine sw_pure (v := .bool false) (fun W => run_bin_of rfl rfl rfl (by go_simp)) rfl ?_
  simp only [nm0, nm1, nm2, nm3]
  refine sw_pure (v := .bool false) (fun W => rfl) rfl ?_
  simp only [nm0, nm1, nm2, nm3]
  refine sw_skip rfl ?_
  simp only [nm0, nm1, nm2, nm3]
  refine sw_skip rfl ?_
  simp only [nm0, nm1, nm2, nm3]
  refine sw_pure (v := .bool false) (fun W => rfl) rfl ?_
  simp only [nm0, nm1, nm2, nm3]
  refine sw_pure (v := .bool false) (fun W => rfl) rfl ?_
  simp only [nm0, nm1, nm2, nm3]
  refine sw_pure (v := .int .i64 25) (fun W => rfl) rfl ?_
  simp only [nm0, nm1, nm2, nm3]
  refine sw_pure (v := .bool true) (fun W => run_bin_of rfl rfl rfl (by go_simp)) rfl ?_
  simp only [nm0, nm1, nm2, nm3]
  refine sw_pure (v := .bool true) (fun W => rfl) rfl ?_
  simp only [nm0, nm1, nm2, nm3]
  refine sw_pure (v := .bool true) (fun W => rfl) rfl ?_
  simp only [nm0, nm1, nm2, nm3]
  refine sw_callE (args := #[]) (fun W => run_call_fn W (enters_of Tryd.func7 (by kernel_rfl) rfl) rfl (by simp [Act.eval])) (holives_any m _ (((bcell (gr_step (gr_step (gr_step (gr_step (hb) hc2) hc3) hc4) hc5)).1 _ 0 lgm).trans HM.out)) rfl ?_
  rintro e w6 ⟨rfl, hc6⟩
  refine ⟨_, rfl, ?_⟩
  simp only [nm0, nm1, nm2, nm3]
  refine sw_pure (v := .bool true) (fun W => rfl) rfl ?_
  simp only [nm0, nm1, nm2, nm3]
  refine sw_pure (v := .bool true) (fun W => rfl) rfl ?_
  simp only [nm0, nm1, nm2, nm3]
  refine sw_nil ?_
  go_wp2_with fail
  go_ret
  exact ⟨rfl, gr_step (gr_step (gr_step (gr_step (gr_step (hb) hc2) hc3) hc4) hc5) hc6⟩
set_option maxRecDepth 100000 in
set_option maxHeartbeats 8000000 in
theorem hback_psl (S X YZ ZN Y Z TT : ByteArray) (N : Int) (P : Int) (k : Int) (q1 : ¬ (300 : Int) < (S.size : Int)) (qk : ¬ k = 0) (qk2 : (k == 0) = false) (hn1 : 1 ≤ N) (hn2 : N ≤ 65535) (qn : (N == 0) = false) (qn2 : ¬ N = 0) (qn3 : 0 < N) (hYZ : ∀ (x y : Operand) (W : World), (do eqGuard .add 9 x y (.string X) (.string ⟨#[58]⟩); binOp .add 9 (.string X) (.string ⟨#[58]⟩) : Sem Value).run Tryd.prog W = .ok (.string YZ) W) (hZN : ∀ (x y : Operand) (W : World), (do eqGuard .add 9 x y (.string YZ) (.string ZN); binOp .add 9 (.string YZ) (.string ZN) : Sem Value).run Tryd.prog W = .ok (.string S) W) (KN : ∀ w, Tab w → Calls Tryd.prog 12 #[.int .i64 N] w fun e w' => e = .returned (.string ZN) ∧ Below w.heap.size w w') (hp1 : 1 ≤ P) (hp2 : P ≤ 65535) (qp : (P == 0) = false) (qp2 : ¬ P = 0) (qp3 : IntKind.i64.wrap P = P) (hY : ∀ (x y : Operand) (W : World), (do eqGuard .add 9 x y (.string X) (.string ⟨#[58]⟩); binOp .add 9 (.string X) (.string ⟨#[58]⟩) : Sem Value).run Tryd.prog W = .ok (.string Y) W) (hTT : ∀ (x y : Operand) (W : World), (do eqGuard .add 9 x y (.string Y) (.string Z); binOp .add 9 (.string Y) (.string Z) : Sem Value).run Tryd.prog W = .ok (.string TT) W) (KP : ∀ w, Tab w → Calls Tryd.prog 12 #[.int .i64 P] w fun e w' => e = .returned (.string Z) ∧ Below w.heap.size w w') (q6 : (230 : Int) < (TT.size : Int)) (K1 : (∀ w m, w.cell? ⟨gMaxH, 0, none⟩ = some (.int .i64 m) → Calls Tryd.prog 8 #[.string S] w fun e w' => e = .returned (.tuple #[.string X, .int .i64 N, .int .i64 0]) ∧ Below w.heap.size w w')) (K2 : (∀ w m, w.cell? ⟨gMaxH, 0, none⟩ = some (.int .i64 m) → Calls Tryd.prog 8 #[.string TT] w fun e w' => e = .returned (.tuple #[.string ⟨#[]⟩, .int .i64 0, .int .i64 4]) ∧ Below w.heap.size w w')) (K3 : ∀ w m, w.cell? ⟨gMaxH, 0, none⟩ = some (.int .i64 m) → Calls Tryd.prog 10 #[.string X] w fun e w' => e = .returned (.int .i64 k) ∧ Below w.heap.size w w') (m : Int) (w : World) (hm : w.cell? ⟨gMaxH, 0, none⟩ = some (.int .i64 m)) (hT : Tab w) :
    Calls Tryd.prog 4 #[.string S, .int .u16 P] w fun e w' => e = .returned (.bool true) ∧ Below w.heap.size w w' := by
  have lgm := blk_of_cellH hm
  simp only at lgm
  have HM := Lib.hid hm
  have HT := Lib.hid hT
  clear hm hT
  replace K2 := Lib.hid K2
  replace K3 := Lib.hid (fun w hm => K3 w m hm)
  replace KP := Lib.hid KP
  replace hY := Lib.hid hY
  replace hTT := Lib.hid hTT
  replace KN := Lib.hid KN
  replace hYZ := Lib.hid hYZ
  replace hZN := Lib.hid hZN
  go_enter Tryd.func4, Tryd.ntmps4
  go_wp2_with fail
  refine (K1 w m HM.out).mono ?_
  rintro e w1 ⟨rfl, hb⟩
  go_upto_region 6 with fail
  refine sw_lit ?_
  refine sw_pure (v := .string X) (fun W => rfl) rfl ?_
  simp only [nm0, nm1, nm2, nm3]
  refine sw_callE (args := #[.string X]) (fun W => run_call_fn W (enters_of Tryd.func10 (by kernel_rfl) rfl) rfl (by simp [Act.eval])) (K3.out _ (((bcell (hb)).1 _ 0 lgm).trans HM.out)) rfl ?_
  rintro e w2 ⟨rfl, hc2⟩
  refine ⟨_, rfl, ?_⟩
  simp only [nm0, nm1, nm2, nm3]
  refine sw_pure (v := .bool false) (fun W => run_bin_of rfl rfl rfl (by go_simp)) rfl ?_
  simp only [nm0, nm1, nm2, nm3]
  refine sw_pure (v := .bool false) (fun W => rfl) rfl ?_
  simp only [nm0, nm1, nm2, nm3]
  refine sw_pure (v := .int .i64 N) (fun W => rfl) rfl ?_
  simp only [nm0, nm1, nm2, nm3]
  refine sw_pure (v := .bool false) (fun W => run_bin_of rfl rfl rfl (by go_simp)) rfl ?_
  simp only [nm0, nm1, nm2, nm3]
  refine sw_pure (v := .bool false) (fun W => rfl) rfl ?_
  simp only [nm0, nm1, nm2, nm3]
  refine sw_skip rfl ?_
  simp only [nm0, nm1, nm2, nm3]
  refine sw_skip rfl ?_
  simp only [nm0, nm1, nm2, nm3]
  refine sw_skip rfl ?_
  simp only [nm0, nm1, nm2, nm3]
  refine sw_pure (v := .bool false) (fun W => rfl) rfl ?_
  simp only [nm0, nm1, nm2, nm3]
  refine sw_pure (v := .bool false) (fun W => rfl) rfl ?_
  simp only [nm0, nm1, nm2, nm3]
  refine sw_pure (v := .bool false) (fun W => rfl) rfl ?_
  simp only [nm0, nm1, nm2, nm3]
  refine sw_pure (v := .int .i64 N) (fun W => rfl) rfl ?_
  simp only [nm0, nm1, nm2, nm3]
  refine sw_pure (v := .bool true) (fun W => run_bin_of rfl rfl rfl (by go_simp)) rfl ?_
  simp only [nm0, nm1, nm2, nm3]
  refine sw_pure (v := .bool true) (fun W => rfl) rfl ?_
  simp only [nm0, nm1, nm2, nm3]
  refine sw_pure (v := .string S) (fun W => rfl) rfl ?_
  simp only [nm0, nm1, nm2, nm3]
  refine sw_pure (v := .string X) (fun W => rfl) rfl ?_
  simp only [nm0, nm1, nm2, nm3]
  refine sw_pure (v := .string YZ) (fun W => run_bin_of rfl rfl rfl (hYZ.out _ _ W)) rfl ?_
  simp only [nm0, nm1, nm2, nm3]
  refine sw_pure (v := .int .i64 N) (fun W => rfl) rfl ?_
  simp only [nm0, nm1, nm2, nm3]
  refine sw_callE (args := #[.int .i64 N]) (fun W => run_call_fn W (enters_of Tryd.func12 (by kernel_rfl) rfl) rfl (by simp [Act.eval])) (KN.out _ (tab_below HT.out (gr_step (hb) hc2))) rfl ?_
  rintro e w3 ⟨rfl, hc3⟩
  refine ⟨_, rfl, ?_⟩
  simp only [nm0, nm1, nm2, nm3]
  refine sw_pure (v := .string S) (fun W => run_bin_of rfl rfl rfl (hZN.out _ _ W)) rfl ?_
  simp only [nm0, nm1, nm2, nm3]
  refine sw_pure (v := .bool false) (fun W => run_bin_of rfl rfl rfl (by go_simp)) rfl ?_
  simp only [nm0, nm1, nm2, nm3]
  refine sw_pure (v := .bool false) (fun W => rfl) rfl ?_
  simp only [nm0, nm1, nm2, nm3]
  refine sw_pure (v := .bool false) (fun W => rfl) rfl ?_
  simp only [nm0, nm1, nm2, nm3]
  refine sw_nil ?_
  go_upto_region 8 with fail
  refine sw_lit ?_
  refine sw_pure (v := .string X) (fun W => rfl) rfl ?_
  simp only [nm0, nm1, nm2, nm3]
  refine sw_pure (v := .string Y) (fun W => run_bin_of rfl rfl rfl (hY.out _ _ W)) rfl ?_
  simp only [nm0, nm1, nm2, nm3]
  refine sw_pure (v := .int .u16 P) (fun W => rfl) rfl ?_
  simp only [nm0, nm1, nm2, nm3]
  refine sw_pure (v := .int .i64 P) (fun W => by first | (go_simp; done) | (go_simp; rfl)) rfl ?_
  simp only [nm0, nm1, nm2, nm3]
  refine sw_callE (args := #[.int .i64 P]) (fun W => run_call_fn W (enters_of Tryd.func12 (by kernel_rfl) rfl) rfl (by simp [Act.eval])) (KP.out _ (tab_below HT.out (gr_step (gr_step (hb) hc2) hc3))) rfl ?_
  rintro e w4 ⟨rfl, hc4⟩
  refine ⟨_, rfl, ?_⟩
  simp only [nm0, nm1, nm2, nm3]
  refine sw_pure (v := .string TT) (fun W => run_bin_of rfl rfl rfl (hTT.out _ _ W)) rfl ?_
  simp only [nm0, nm1, nm2, nm3]
  refine sw_pure (v := .string TT) (fun W => rfl) rfl ?_
  simp only [nm0, nm1, nm2, nm3]
  refine sw_nil ?_
  go_wp2_with fail
  refine (K2.out _ m (((bcell (gr_step (gr_step (gr_step (hb) hc2) hc3) hc4)).1 _ 0 lgm).trans HM.out)).mono ?_
  rintro e w5 ⟨rfl, hc5⟩
  go_upto_region 12 with fail
  refine sw_lit ?_
  refine sw_pure (v := .string TT) (fun W => rfl) rfl ?_
  simp only [nm0, nm1, nm2, nm3]
  refine sw_pure (v := .int .i64 (TT.size : Int)) (fun W => by go_simp) rfl ?_
  simp only [nm0, nm1, nm2, nm3]
  refine sw_pure (v := .bool true) (fun W => run_bin_of rfl rfl rfl (by go_simp)) rfl ?_
  simp only [nm0, nm1, nm2, nm3]
  refine sw_pure (v := .bool true) (fun W => rfl) rfl ?_
  simp only [nm0, nm1, nm2, nm3]
  refine sw_pure (v := .int .i64 4) (fun W => rfl) rfl ?_
  simp only [nm0, nm1, nm2, nm3]
  refine sw_pure (v := .bool true) (fun W => run_bin_of rfl rfl rfl (by go_simp)) rfl ?_
  simp only [nm0, nm1, nm2, nm3]
  refine sw_pure (v := .bool true) (fun W => rfl) rfl ?_
  simp only [nm0, nm1, nm2, nm3]
  refine sw_pure (v := .bool true) (fun W => rfl) rfl ?_
  simp only [nm0, nm1, nm2, nm3]
  refine sw_skip rfl ?_
  simp only [nm0, nm1, nm2, nm3]
  refine sw_skip rfl ?_
  simp only [nm0, nm1, nm2, nm3]
  refine sw_skip rfl ?_
  simp only [nm0, nm1, nm2, nm3]
  refine sw_skip rfl ?_
  simp only [nm0, nm1, nm2, nm3]
  refine sw_skip rfl ?_
  simp only [nm0, nm1, nm2, nm3]
  refine sw_skip rfl ?_
  simp only [nm0, nm1, nm2, nm3]
  refine sw_skip rfl ?_
  simp only [nm0, nm1, nm2, nm3]
  refine sw_skip rfl ?_
  simp only [nm0, nm1, nm2, nm3]
  refine sw_skip rfl ?_
  simp only [nm0, nm1, nm2, nm3]
  refine sw_skip rfl ?_
  simp only [nm0, nm1, nm2, nm3]
  refine sw_skip rfl ?_
  simp only [nm0, nm1, nm2, nm3]
  refine sw_skip rfl ?_
  simp only [nm0, nm1, nm2, nm3]
  refine sw_skip rfl ?_
  simp only [nm0, nm1, nm2, nm3]
  refine sw_pure (v := .bool true) (fun W => rfl) rfl ?_
  simp only [nm0, nm1, nm2, nm3]
  refine sw_pure (v := .bool true) (fun W => rfl) rfl ?_
  simp only [nm0, nm1, nm2, nm3]
  refine sw_callE (args := #[]) (fun W => run_call_fn W (enters_of Tryd.func7 (by kernel_rfl) rfl) rfl (by simp [Act.eval])) (holives_any m _ (((bcell (gr_step (gr_step (gr_step (gr_step (hb) hc2) hc3) hc4) hc5)).1 _ 0 lgm).trans HM.out)) rfl ?_
  rintro e w6 ⟨rfl, hc6⟩
  refine ⟨_, rfl, ?_⟩
  simp only [nm0, nm1, nm2, nm3]
  refine sw_pure (v := .bool true) (fun W => rfl) rfl ?_
  simp only [nm0, nm1, nm2, nm3]
  refine sw_pure (v := .bool true) (fun W => rfl) rfl ?_
  simp only [nm0, nm1, nm2, nm3]
  refine sw_nil ?_
  go_wp2_with fail
  go_ret
  exact ⟨rfl, gr_step (gr_step (gr_step (gr_step (gr_step (hb) hc2) hc3) hc4) hc5) hc6⟩
set_option maxRecDepth 100000 in
set_option maxHeartbeats 8000000 in
theorem hback_pso (S X YZ ZN Y Z TT : ByteArray) (N : Int) (P : Int) (k : Int) (q1 : ¬ (300 : Int) < (S.size : Int)) (qk : ¬ k = 0) (qk2 : (k == 0) = false) (hn1 : 1 ≤ N) (hn2 : N ≤ 65535) (qn : (N == 0) = false) (qn2 : ¬ N = 0) (qn3 : 0 < N) (hYZ : ∀ (x y : Operand) (W : World), (do eqGuard .add 9 x y (.string X) (.string ⟨#[58]⟩); binOp .add 9 (.string X) (.string ⟨#[58]⟩) : Sem Value).run Tryd.prog W = .ok (.string YZ) W) (hZN : ∀ (x y : Operand) (W : World), (do eqGuard .add 9 x y (.string YZ) (.string ZN); binOp .add 9 (.string YZ) (.string ZN) : Sem Value).run Tryd.prog W = .ok (.string S) W) (KN : ∀ w, Tab w → Calls Tryd.prog 12 #[.int .i64 N] w fun e w' => e = .returned (.string ZN) ∧ Below w.heap.size w w') (hp1 : 1 ≤ P) (hp2 : P ≤ 65535) (qp : (P == 0) = false) (qp2 : ¬ P = 0) (qp3 : IntKind.i64.wrap P = P) (hY : ∀ (x y : Operand) (W : World), (do eqGuard .add 9 x y (.string X) (.string ⟨#[58]⟩); binOp .add 9 (.string X) (.string ⟨#[58]⟩) : Sem Value).run Tryd.prog W = .ok (.string Y) W) (hTT : ∀ (x y : Operand) (W : World), (do eqGuard .add 9 x y (.string Y) (.string Z); binOp .add 9 (.string Y) (.string Z) : Sem Value).run Tryd.prog W = .ok (.string TT) W) (KP : ∀ w, Tab w → Calls Tryd.prog 12 #[.int .i64 P] w fun e w' => e = .returned (.string Z) ∧ Below w.heap.size w w') (q6 : ¬ (230 : Int) < (TT.size : Int)) (K1 : (∀ w m, w.cell? ⟨gMaxH, 0, none⟩ = some (.int .i64 m) → Calls Tryd.prog 8 #[.string S] w fun e w' => e = .returned (.tuple #[.string X, .int .i64 N, .int .i64 0]) ∧ Below w.heap.size w w')) (K2 : (∀ w m, w.cell? ⟨gMaxH, 0, none⟩ = some (.int .i64 m) → Calls Tryd.prog 8 #[.string TT] w fun e w' => e = .returned (.tuple #[.string X, .int .i64 P, .int .i64 0]) ∧ Below w.heap.size w w')) (K3 : ∀ w m, w.cell? ⟨gMaxH, 0, none⟩ = some (.int .i64 m) → Calls Tryd.prog 10 #[.string X] w fun e w' => e = .returned (.int .i64 k) ∧ Below w.heap.size w w') (m : Int) (w : World) (hm : w.cell? ⟨gMaxH, 0, none⟩ = some (.int .i64 m)) (hT : Tab w) :
    Calls Tryd.prog 4 #[.string S, .int .u16 P] w fun e w' => e = .returned (.bool true) ∧ Below w.heap.size w w' := by
  have lgm := blk_of_cellH hm
  simp only at lgm
  have HM := Lib.hid hm
  have HT := Lib.hid hT
  clear hm hT
  replace K2 := Lib.hid K2
  replace K3 := Lib.hid (fun w hm => K3 w m hm)
  replace KP := Lib.hid KP
  replace hY := Lib.hid hY
  replace hTT := Lib.hid hTT
  replace KN := Lib.hid KN
  replace hYZ := Lib.hid hYZ
  replace hZN := Lib.hid hZN
  go_enter Tryd.func4, Tryd.ntmps4
  go_wp2_with fail
  refine (K1 w m HM.out).mono ?_
  rintro e w1 ⟨rfl, hb⟩
  go_upto_region 6 with fail
  refine sw_lit ?_
  refine sw_pure (v := .string X) (fun W => rfl) rfl ?_
  simp only [nm0, nm1, nm2, nm3]
  refine sw_callE (args := #[.string X]) (fun W => run_call_fn W (enters_of Tryd.func10 (by kernel_rfl) rfl) rfl (by simp [Act.eval])) (K3.out _ (((bcell (hb)).1 _ 0 lgm).trans HM.out)) rfl ?_
  rintro e w2 ⟨rfl, hc2⟩
  refine ⟨_, rfl, ?_⟩
  simp only [nm0, nm1, nm2, nm3]
  refine sw_pure (v := .bool false) (fun W => run_bin_of rfl rfl rfl (by go_simp)) rfl ?_
  simp only [nm0, nm1, nm2, nm3]
  refine sw_pure (v := .bool false) (fun W => rfl) rfl ?_
  simp only [nm0, nm1, nm2, nm3]
  refine sw_pure (v := .int .i64 N) (fun W => rfl) rfl ?_
  simp only [nm0, nm1, nm2, nm3]
  refine sw_pure (v := .bool false) (fun W => run_bin_of rfl rfl rfl (by go_simp)) rfl ?_
  simp only [nm0, nm1, nm2, nm3]
  refine sw_pure (v := .bool false) (fun W => rfl) rfl ?_
  simp only [nm0, nm1, nm2, nm3]
  refine sw_skip rfl ?_
  simp only [nm0, nm1, nm2, nm3]
  refine sw_skip rfl ?_
  simp only [nm0, nm1, nm2, nm3]
  refine sw_skip rfl ?_
  simp only [nm0, nm1, nm2, nm3]
  refine sw_pure (v := .bool false) (fun W => rfl) rfl ?_
  simp only [nm0, nm1, nm2, nm3]
  refine sw_pure (v := .bool false) (fun W => rfl) rfl ?_
  simp only [nm0, nm1, nm2, nm3]
  refine sw_pure (v := .bool false) (fun W => rfl) rfl ?_
  simp only [nm0, nm1, nm2, nm3]
  refine sw_pure (v := .int .i64 N) (fun W => rfl) rfl ?_
  simp only [nm0, nm1, nm2, nm3]
  refine sw_pure (v := .bool true) (fun W => run_bin_of rfl rfl rfl (by go_simp)) rfl ?_
  simp only [nm0, nm1, nm2, nm3]
  refine sw_pure (v := .bool true) (fun W => rfl) rfl ?_
  simp only [nm0, nm1, nm2, nm3]
  refine sw_pure (v := .string S) (fun W => rfl) rfl ?_
  simp only [nm0, nm1, nm2, nm3]
  refine sw_pure (v := .string X) (fun W => rfl) rfl ?_
  simp only [nm0, nm1, nm2, nm3]
  refine sw_pure (v := .string YZ) (fun W => run_bin_of rfl rfl rfl (hYZ.out _ _ W)) rfl ?_
  simp only [nm0, nm1, nm2, nm3]
  refine sw_pure (v := .int .i64 N) (fun W => rfl) rfl ?_
  simp only [nm0, nm1, nm2, nm3]
  refine sw_callE (args := #[.int .i64 N]) (fun W => run_call_fn W (enters_of Tryd.func12 (by kernel_rfl) rfl) rfl (by simp [Act.eval])) (KN.out _ (tab_below HT.out (gr_step (hb) hc2))) rfl ?_
  rintro e w3 ⟨rfl, hc3⟩
  refine ⟨_, rfl, ?_⟩
  simp only [nm0, nm1, nm2, nm3]
  refine sw_pure (v := .string S) (fun W => run_bin_of rfl rfl rfl (hZN.out _ _ W)) rfl ?_
  simp only [nm0, nm1, nm2, nm3]
  refine sw_pure (v := .bool false) (fun W => run_bin_of rfl rfl rfl (by go_simp)) rfl ?_
  simp only [nm0, nm1, nm2, nm3]
  refine sw_pure (v := .bool false) (fun W => rfl) rfl ?_
  simp only [nm0, nm1, nm2, nm3]
  refine sw_pure (v := .bool false) (fun W => rfl) rfl ?_
  simp only [nm0, nm1, nm2, nm3]
  refine sw_nil ?_
  go_upto_region 8 with fail
  refine sw_lit ?_
  refine sw_pure (v := .string X) (fun W => rfl) rfl ?_
  simp only [nm0, nm1, nm2, nm3]
  refine sw_pure (v := .string Y) (fun W => run_bin_of rfl rfl rfl (hY.out _ _ W)) rfl ?_
  simp only [nm0, nm1, nm2, nm3]
  refine sw_pure (v := .int .u16 P) (fun W => rfl) rfl ?_
  simp only [nm0, nm1, nm2, nm3]
  refine sw_pure (v := .int .i64 P) (fun W => by first | (go_simp; done) | (go_simp; rfl)) rfl ?_
  simp only [nm0, nm1, nm2, nm3]
  refine sw_callE (args := #[.int .i64 P]) (fun W => run_call_fn W (enters_of Tryd.func12 (by kernel_rfl) rfl) rfl (by simp [Act.eval])) (KP.out _ (tab_below HT.out (gr_step (gr_step (hb) hc2) hc3))) rfl ?_
  rintro e w4 ⟨rfl, hc4⟩
  refine ⟨_, rfl, ?_⟩
  simp only [nm0, nm1, nm2, nm3]
  refine sw_pure (v := .string TT) (fun W => run_bin_of rfl rfl rfl (hTT.out _ _ W)) rfl ?_
  simp only [nm0, nm1, nm2, nm3]
  refine sw_pure (v := .string TT) (fun W => rfl) rfl ?_
  simp only [nm0, nm1, nm2, nm3]
  refine sw_nil ?_
  go_wp2_with fail
  refine (K2.out _ m (((bcell (gr_step (gr_step (gr_step (hb) hc2) hc3) hc4)).1 _ 0 lgm).trans HM.out)).mono ?_
  rintro e w5 ⟨rfl, hc5⟩
  go_upto_region 12 with fail
  refine sw_lit ?_
  refine sw_pure (v := .string TT) (fun W => rfl) rfl ?_
  simp only [nm0, nm1, nm2, nm3]
  refine sw_pure (v := .int .i64 (TT.size : Int)) (fun W => by go_simp) rfl ?_
  simp only [nm0, nm1, nm2, nm3]
  refine sw_pure (v := .bool false) (fun W => run_bin_of rfl rfl rfl (by go_simp)) rfl ?_
  simp only [nm0, nm1, nm2, nm3]
  refine sw_pure (v := .bool false) (fun W => rfl) rfl ?_
  simp only [nm0, nm1, nm2, nm3]
  refine sw_skip rfl ?_
  simp only [nm0, nm1, nm2, nm3]
  refine sw_skip rfl ?_
  simp only [nm0, nm1, nm2, nm3]
  refine sw_pure (v := .bool false) (fun W => rfl) rfl ?_
  simp only [nm0, nm1, nm2, nm3]
  refine sw_pure (v := .bool false) (fun W => rfl) rfl ?_
  simp only [nm0, nm1, nm2, nm3]
  refine sw_pure (v := .int .i64 0) (fun W => rfl) rfl ?_
  simp only [nm0, nm1, nm2, nm3]
  refine sw_pure (v := .bool true) (fun W => run_bin_of rfl rfl rfl (by go_simp)) rfl ?_
  simp only [nm0, nm1, nm2, nm3]
  refine sw_pure (v := .bool true) (fun W => rfl) rfl ?_
  simp only [nm0, nm1, nm2, nm3]
  refine sw_pure (v := .string X) (fun W => rfl) rfl ?_
  simp only [nm0, nm1, nm2, nm3]
  refine sw_pure (v := .string X) (fun W => rfl) rfl ?_
  simp only [nm0, nm1, nm2, nm3]
  refine sw_pure (v := .bool true) (fun W => run_bin_of rfl rfl rfl (by go_simp)) rfl ?_
  simp only [nm0, nm1, nm2, nm3]
  refine sw_pure (v := .bool true) (fun W => rfl) rfl ?_
  simp only [nm0, nm1, nm2, nm3]
  refine sw_pure (v := .bool true) (fun W => rfl) rfl ?_
  simp only [nm0, nm1, nm2, nm3]
  refine sw_pure (v := .int .i64 P) (fun W => rfl) rfl ?_
  simp only [nm0, nm1, nm2, nm3]
  refine sw_pure (v := .int .u16 P) (fun W => rfl) rfl ?_
  simp only [nm0, nm1, nm2, nm3]
  refine sw_pure (v := .int .i64 P) (fun W => by first | (go_simp; done) | (go_simp; rfl)) rfl ?_
  simp only [nm0, nm1, nm2, nm3]
  refine sw_pure (v := .bool true) (fun W => run_bin_of rfl rfl rfl (by go_simp)) rfl ?_
  simp only [nm0, nm1, nm2, nm3]
  refine sw_pure (v := .bool true) (fun W => rfl) rfl ?_
  simp only [nm0, nm1, nm2, nm3]
  refine sw_pure (v := .bool true) (fun W => rfl) rfl ?_
  simp only [nm0, nm1, nm2, nm3]
  refine sw_pure (v := .bool true) (fun W => rfl) rfl ?_
  simp only [nm0, nm1, nm2, nm3]
  refine sw_callE (args := #[]) (fun W => run_call_fn W (enters_of Tryd.func7 (by kernel_rfl) rfl) rfl (by simp [Act.eval])) (holives_any m _ (((bcell (gr_step (gr_step (gr_step (gr_step (hb) hc2) hc3) hc4) hc5)).1 _ 0 lgm).trans HM.out)) rfl ?_
  rintro e w6 ⟨rfl, hc6⟩
  refine ⟨_, rfl, ?_⟩
  simp only [nm0, nm1, nm2, nm3]
  refine sw_pure (v := .bool true) (fun W => rfl) rfl ?_
  simp only [nm0, nm1, nm2, nm3]
  refine sw_pure (v := .bool true) (fun W => rfl) rfl ?_
  simp only [nm0, nm1, nm2, nm3]
  refine sw_nil ?_
  go_wp2_with fail
  go_ret
  exact ⟨rfl, gr_step (gr_step (gr_step (gr_step (gr_step (hb) hc2) hc3) hc4) hc5) hc6⟩
end Go.Proofs.YtdnkpclpcelbaaaDoor
