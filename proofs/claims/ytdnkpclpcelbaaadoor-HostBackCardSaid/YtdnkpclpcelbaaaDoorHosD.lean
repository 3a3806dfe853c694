/- host (layer 27): the bytes of a label (written by ho_gen_d.py). -/
import Derived.Test.YtdnkpclpcelbaaaDoorHosC
namespace Go.Proofs.YtdnkpclpcelbaaaDoor
set_option maxRecDepth 20000
set_option linter.unusedSimpArgs false
set_option linter.unusedVariables false
open Go.RowKit Go.Lib Go.Shelf
attribute [local go_sem] Oper.semAt_some
section
variable {P : Program} {w : World} {ops : Array Oper} {Q : Exit → Act → World → Prop} {o : Oper} {rest : List Oper} {A : Act}
theorem lw_val {v : Value} (h : (execOp A.eval o).run P w = .ok (.value v) w) (hgd : Region.wanted o (yielded ops A.tmps) = true) (hr : wpList P ops Q rest (A.put o.dst v) w) : wpList P ops Q (o :: rest) A w := by
  refine wpList_step fun K hK => ?_
  rw [if_pos hgd]
  unfold Oper.wp
  rw [h]
  exact hK _ _ hr
theorem lw_skip (hw : Region.wanted o (yielded ops A.tmps) = false) (hr : wpList P ops Q rest (A.put o.dst undef) w) : wpList P ops Q (o :: rest) A w := by
  refine wpList_step fun K hK => ?_
  rw [if_neg (by rw [hw]; simp)]
  exact hK _ _ hr
end
theorem cellF : CellTy Tryd.prog 61 := ⟨⟨_, Tryd.underlying61, rfl⟩, by kernel_rfl⟩
theorem blk_cell {w : World} {p i : Nat} {cs : Array Value} {T : TypeId} {v : Value} (h : w.heap[p]? = some (.cells cs T (0, 0))) (hv : cs[i]? = some v) : w.cell? ⟨p, i, none⟩ = some v := by rw [Lib.cell_of_heap h]; exact hv
abbrev fnDig : Value := .func (.func 62) #[] #[]
set_option maxHeartbeats 4000000 in
theorem labf_low (c : Nat) (b : Nat) (w : World) (h1 : 97 ≤ c) (h2 : c ≤ 122) :
    Calls Tryd.prog 63 #[.int .u8 (c : Int), .pointer (some ⟨b, 0, none⟩)] w fun e w' => e = .returned (.bool true) ∧ w = w' := by
  have q1 : (97 : Int) ≤ c := by omega
  have q2 : (c : Int) ≤ 122 := by omega
  go_enter Tryd.func63, Tryd.ntmps63
  go_wp2_with fail
  go_ret
  exact ⟨rfl, rfl⟩
set_option maxHeartbeats 4000000 in
theorem labf_up (c : Nat) (b : Nat) (w : World) (h1 : 65 ≤ c) (h2 : c ≤ 90) :
    Calls Tryd.prog 63 #[.int .u8 (c : Int), .pointer (some ⟨b, 0, none⟩)] w fun e w' => e = .returned (.bool true) ∧ w = w' := by
  have q0 : ¬ (97 : Int) ≤ c := by omega
  have q1 : (65 : Int) ≤ c := by omega
  have q2 : (c : Int) ≤ 90 := by omega
  go_enter Tryd.func63, Tryd.ntmps63
  go_wp2_with fail
  go_ret
  exact ⟨rfl, rfl⟩
set_option maxHeartbeats 4000000 in
theorem labf_a (c b : Nat) (w : World) (hb : w.heap[b]? = some (.cells #[fnDig] 61 (0, 0))) (h : c < 65) (y : Bool) (hy : isD c = y) (z : Bool) (hz : ((c : Int) == 45) = z) :
    Calls Tryd.prog 63 #[.int .u8 (c : Int), .pointer (some ⟨b, 0, none⟩)] w fun e w' => e = .returned (.bool (y || z)) ∧ w = w' := by
  have q1 : decide ((97 : Int) ≤ c) = false := by simp; omega
  have q3 : decide ((65 : Int) ≤ c) = false := by simp; omega
  have KD := wDig_any c w
  rw [hy] at KD
  go_enter Tryd.func63, Tryd.ntmps63
  go_upto_region 1 with fail
  refine wp_region_lit ?_
  refine wl_pure (v := .int .u8 (c : Int)) (fun W => rfl) rfl ?_
  simp only [nm0, nm1, nm2, nm3]
  refine wl_pure (v := .bool false) (fun W => by first | rfl | (rw [← q1]; rfl)) rfl ?_
  simp only [nm0, nm1, nm2, nm3]
  refine wl_pure (v := .bool false) (fun W => rfl) rfl ?_
  simp only [nm0, nm1, nm2, nm3]
  refine lw_skip rfl ?_
  simp only [nm0, nm1, nm2, nm3]
  refine lw_skip rfl ?_
  simp only [nm0, nm1, nm2, nm3]
  refine wl_pure (v := .bool false) (fun W => rfl) rfl ?_
  simp only [nm0, nm1, nm2, nm3]
  refine wl_pure (v := .bool false) (fun W => rfl) rfl ?_
  simp only [nm0, nm1, nm2, nm3]
  refine wl_pure (v := .int .u8 (c : Int)) (fun W => rfl) rfl ?_
  simp only [nm0, nm1, nm2, nm3]
  refine wl_pure (v := .bool false) (fun W => by first | rfl | (rw [← q3]; rfl)) rfl ?_
  simp only [nm0, nm1, nm2, nm3]
  refine wl_pure (v := .bool false) (fun W => rfl) rfl ?_
  simp only [nm0, nm1, nm2, nm3]
  refine lw_skip rfl ?_
  simp only [nm0, nm1, nm2, nm3]
  refine lw_skip rfl ?_
  simp only [nm0, nm1, nm2, nm3]
  refine wl_pure (v := .bool false) (fun W => rfl) rfl ?_
  simp only [nm0, nm1, nm2, nm3]
  refine wl_pure (v := .bool false) (fun W => rfl) rfl ?_
  simp only [nm0, nm1, nm2, nm3]
  refine wl_pure (v := .bool false) (fun W => rfl) rfl ?_
  simp only [nm0, nm1, nm2, nm3]
  refine lw_val (v := fnDig) (run_load_cell rfl rfl hb rfl cellF) rfl ?_
  simp only [nm0, nm1, nm2, nm3]
  refine wl_pure (v := .int .u8 (c : Int)) (fun W => rfl) rfl ?_
  simp only [nm0, nm1, nm2, nm3]
  refine wl_callE (args := #[.int .u8 (c : Int)]) (fun W => run_call_dyn W (enters_of Tryd.func62 (by kernel_rfl) rfl) rfl rfl (by simp [Act.eval]; rfl) rfl) KD rfl ?_
  rintro e w' ⟨rfl, rfl⟩
  refine ⟨_, rfl, ?_⟩
  simp only [nm0, nm1, nm2, nm3]
  refine wl_pure (v := .bool y) (fun W => rfl) rfl ?_
  simp only [nm0, nm1, nm2, nm3]
  refine wl_pure (v := .bool y) (fun W => rfl) rfl ?_
  simp only [nm0, nm1, nm2, nm3]
  cases y
  · skip
    refine wl_pure (v := .int .u8 (c : Int)) (fun W => rfl) rfl ?_
    simp only [nm0, nm1, nm2, nm3]
    refine wl_pure (v := .bool z) (fun W => by rw [← hz]; rfl) rfl ?_
    simp only [nm0, nm1, nm2, nm3]
    refine wl_pure (v := .bool z) (fun W => rfl) rfl ?_
    simp only [nm0, nm1, nm2, nm3]
    refine wl_pure (v := .bool z) (fun W => rfl) rfl ?_
    simp only [nm0, nm1, nm2, nm3]
    refine wpList_nil ?_
    go_wp2_with fail
    go_ret
    exact ⟨rfl, rfl⟩
  · skip
    refine lw_skip rfl ?_
    simp only [nm0, nm1, nm2, nm3]
    refine lw_skip rfl ?_
    simp only [nm0, nm1, nm2, nm3]
    refine wl_pure (v := .bool true) (fun W => rfl) rfl ?_
    simp only [nm0, nm1, nm2, nm3]
    refine wl_pure (v := .bool true) (fun W => rfl) rfl ?_
    simp only [nm0, nm1, nm2, nm3]
    refine wpList_nil ?_
    go_wp2_with fail
    go_ret
    exact ⟨rfl, rfl⟩
set_option maxHeartbeats 4000000 in
theorem labf_m (c b : Nat) (w : World) (hb : w.heap[b]? = some (.cells #[fnDig] 61 (0, 0))) (h : 90 < c) (h2 : c < 97) (y : Bool) (hy : isD c = y) (z : Bool) (hz : ((c : Int) == 45) = z) :
    Calls Tryd.prog 63 #[.int .u8 (c : Int), .pointer (some ⟨b, 0, none⟩)] w fun e w' => e = .returned (.bool (y || z)) ∧ w = w' := by
  have q1 : decide ((97 : Int) ≤ c) = false := by simp; omega
  have q3 : decide ((65 : Int) ≤ c) = true := by simp; omega
  have q4 : decide ((c : Int) ≤ 90) = false := by simp; omega
  have KD := wDig_any c w
  rw [hy] at KD
  go_enter Tryd.func63, Tryd.ntmps63
  go_upto_region 1 with fail
  refine wp_region_lit ?_
  refine wl_pure (v := .int .u8 (c : Int)) (fun W => rfl) rfl ?_
  simp only [nm0, nm1, nm2, nm3]
  refine wl_pure (v := .bool false) (fun W => by first | rfl | (rw [← q1]; rfl)) rfl ?_
  simp only [nm0, nm1, nm2, nm3]
  refine wl_pure (v := .bool false) (fun W => rfl) rfl ?_
  simp only [nm0, nm1, nm2, nm3]
  refine lw_skip rfl ?_
  simp only [nm0, nm1, nm2, nm3]
  refine lw_skip rfl ?_
  simp only [nm0, nm1, nm2, nm3]
  refine wl_pure (v := .bool false) (fun W => rfl) rfl ?_
  simp only [nm0, nm1, nm2, nm3]
  refine wl_pure (v := .bool false) (fun W => rfl) rfl ?_
  simp only [nm0, nm1, nm2, nm3]
  refine wl_pure (v := .int .u8 (c : Int)) (fun W => rfl) rfl ?_
  simp only [nm0, nm1, nm2, nm3]
  refine wl_pure (v := .bool true) (fun W => by first | rfl | (rw [← q3]; rfl)) rfl ?_
  simp only [nm0, nm1, nm2, nm3]
  refine wl_pure (v := .bool true) (fun W => rfl) rfl ?_
  simp only [nm0, nm1, nm2, nm3]
  refine wl_pure (v := .int .u8 (c : Int)) (fun W => rfl) rfl ?_
  simp only [nm0, nm1, nm2, nm3]
  refine wl_pure (v := .bool false) (fun W => by first | rfl | (rw [← q4]; rfl)) rfl ?_
  simp only [nm0, nm1, nm2, nm3]
  refine wl_pure (v := .bool false) (fun W => rfl) rfl ?_
  simp only [nm0, nm1, nm2, nm3]
  refine wl_pure (v := .bool false) (fun W => rfl) rfl ?_
  simp only [nm0, nm1, nm2, nm3]
  refine wl_pure (v := .bool false) (fun W => rfl) rfl ?_
  simp only [nm0, nm1, nm2, nm3]
  refine lw_val (v := fnDig) (run_load_cell rfl rfl hb rfl cellF) rfl ?_
  simp only [nm0, nm1, nm2, nm3]
  refine wl_pure (v := .int .u8 (c : Int)) (fun W => rfl) rfl ?_
  simp only [nm0, nm1, nm2, nm3]
  refine wl_callE (args := #[.int .u8 (c : Int)]) (fun W => run_call_dyn W (enters_of Tryd.func62 (by kernel_rfl) rfl) rfl rfl (by simp [Act.eval]; rfl) rfl) KD rfl ?_
  rintro e w' ⟨rfl, rfl⟩
  refine ⟨_, rfl, ?_⟩
  simp only [nm0, nm1, nm2, nm3]
  refine wl_pure (v := .bool y) (fun W => rfl) rfl ?_
  simp only [nm0, nm1, nm2, nm3]
  refine wl_pure (v := .bool y) (fun W => rfl) rfl ?_
  simp only [nm0, nm1, nm2, nm3]
  cases y
  · skip
    refine wl_pure (v := .int .u8 (c : Int)) (fun W => rfl) rfl ?_
    simp only [nm0, nm1, nm2, nm3]
    refine wl_pure (v := .bool z) (fun W => by rw [← hz]; rfl) rfl ?_
    simp only [nm0, nm1, nm2, nm3]
    refine wl_pure (v := .bool z) (fun W => rfl) rfl ?_
    simp only [nm0, nm1, nm2, nm3]
    refine wl_pure (v := .bool z) (fun W => rfl) rfl ?_
    simp only [nm0, nm1, nm2, nm3]
    refine wpList_nil ?_
    go_wp2_with fail
    go_ret
    exact ⟨rfl, rfl⟩
  · skip
    refine lw_skip rfl ?_
    simp only [nm0, nm1, nm2, nm3]
    refine lw_skip rfl ?_
    simp only [nm0, nm1, nm2, nm3]
    refine wl_pure (v := .bool true) (fun W => rfl) rfl ?_
    simp only [nm0, nm1, nm2, nm3]
    refine wl_pure (v := .bool true) (fun W => rfl) rfl ?_
    simp only [nm0, nm1, nm2, nm3]
    refine wpList_nil ?_
    go_wp2_with fail
    go_ret
    exact ⟨rfl, rfl⟩
set_option maxHeartbeats 4000000 in
theorem labf_d (c b : Nat) (w : World) (hb : w.heap[b]? = some (.cells #[fnDig] 61 (0, 0))) (h : 122 < c) (y : Bool) (hy : isD c = y) (z : Bool) (hz : ((c : Int) == 45) = z) :
    Calls Tryd.prog 63 #[.int .u8 (c : Int), .pointer (some ⟨b, 0, none⟩)] w fun e w' => e = .returned (.bool (y || z)) ∧ w = w' := by
  have q1 : decide ((97 : Int) ≤ c) = true := by simp; omega
  have q2 : decide ((c : Int) ≤ 122) = false := by simp; omega
  have q3 : decide ((65 : Int) ≤ c) = true := by simp; omega
  have q4 : decide ((c : Int) ≤ 90) = false := by simp; omega
  have KD := wDig_any c w
  rw [hy] at KD
  go_enter Tryd.func63, Tryd.ntmps63
  go_upto_region 1 with fail
  refine wp_region_lit ?_
  refine wl_pure (v := .int .u8 (c : Int)) (fun W => rfl) rfl ?_
  simp only [nm0, nm1, nm2, nm3]
  refine wl_pure (v := .bool true) (fun W => by first | rfl | (rw [← q1]; rfl)) rfl ?_
  simp only [nm0, nm1, nm2, nm3]
  refine wl_pure (v := .bool true) (fun W => rfl) rfl ?_
  simp only [nm0, nm1, nm2, nm3]
  refine wl_pure (v := .int .u8 (c : Int)) (fun W => rfl) rfl ?_
  simp only [nm0, nm1, nm2, nm3]
  refine wl_pure (v := .bool false) (fun W => by first | rfl | (rw [← q2]; rfl)) rfl ?_
  simp only [nm0, nm1, nm2, nm3]
  refine wl_pure (v := .bool false) (fun W => rfl) rfl ?_
  simp only [nm0, nm1, nm2, nm3]
  refine wl_pure (v := .bool false) (fun W => rfl) rfl ?_
  simp only [nm0, nm1, nm2, nm3]
  refine wl_pure (v := .int .u8 (c : Int)) (fun W => rfl) rfl ?_
  simp only [nm0, nm1, nm2, nm3]
  refine wl_pure (v := .bool true) (fun W => by first | rfl | (rw [← q3]; rfl)) rfl ?_
  simp only [nm0, nm1, nm2, nm3]
  refine wl_pure (v := .bool true) (fun W => rfl) rfl ?_
  simp only [nm0, nm1, nm2, nm3]
  refine wl_pure (v := .int .u8 (c : Int)) (fun W => rfl) rfl ?_
  simp only [nm0, nm1, nm2, nm3]
  refine wl_pure (v := .bool false) (fun W => by first | rfl | (rw [← q4]; rfl)) rfl ?_
  simp only [nm0, nm1, nm2, nm3]
  refine wl_pure (v := .bool false) (fun W => rfl) rfl ?_
  simp only [nm0, nm1, nm2, nm3]
  refine wl_pure (v := .bool false) (fun W => rfl) rfl ?_
  simp only [nm0, nm1, nm2, nm3]
  refine wl_pure (v := .bool false) (fun W => rfl) rfl ?_
  simp only [nm0, nm1, nm2, nm3]
  refine lw_val (v := fnDig) (run_load_cell rfl rfl hb rfl cellF) rfl ?_
  simp only [nm0, nm1, nm2, nm3]
  refine wl_pure (v := .int .u8 (c : Int)) (fun W => rfl) rfl ?_
  simp only [nm0, nm1, nm2, nm3]
  refine wl_callE (args := #[.int .u8 (c : Int)]) (fun W => run_call_dyn W (enters_of Tryd.func62 (by kernel_rfl) rfl) rfl rfl (by simp [Act.eval]; rfl) rfl) KD rfl ?_
  rintro e w' ⟨rfl, rfl⟩
  refine ⟨_, rfl, ?_⟩
  simp only [nm0, nm1, nm2, nm3]
  refine wl_pure (v := .bool y) (fun W => rfl) rfl ?_
  simp only [nm0, nm1, nm2, nm3]
  refine wl_pure (v := .bool y) (fun W => rfl) rfl ?_
  simp only [nm0, nm1, nm2, nm3]
  cases y
  · skip
    refine wl_pure (v := .int .u8 (c : Int)) (fun W => rfl) rfl ?_
    simp only [nm0, nm1, nm2, nm3]
    refine wl_pure (v := .bool z) (fun W => by rw [← hz]; rfl) rfl ?_
    simp only [nm0, nm1, nm2, nm3]
    refine wl_pure (v := .bool z) (fun W => rfl) rfl ?_
    simp only [nm0, nm1, nm2, nm3]
    refine wl_pure (v := .bool z) (fun W => rfl) rfl ?_
    simp only [nm0, nm1, nm2, nm3]
    refine wpList_nil ?_
    go_wp2_with fail
    go_ret
    exact ⟨rfl, rfl⟩
  · skip
    refine lw_skip rfl ?_
    simp only [nm0, nm1, nm2, nm3]
    refine lw_skip rfl ?_
    simp only [nm0, nm1, nm2, nm3]
    refine wl_pure (v := .bool true) (fun W => rfl) rfl ?_
    simp only [nm0, nm1, nm2, nm3]
    refine wl_pure (v := .bool true) (fun W => rfl) rfl ?_
    simp only [nm0, nm1, nm2, nm3]
    refine wpList_nil ?_
    go_wp2_with fail
    go_ret
    exact ⟨rfl, rfl⟩
theorem labf_any (c b : Nat) (w : World) (hb : w.heap[b]? = some (.cells #[fnDig] 61 (0, 0))) :
    Calls Tryd.prog 63 #[.int .u8 (c : Int), .pointer (some ⟨b, 0, none⟩)] w fun e w' => e = .returned (.bool (lab c)) ∧ w = w' := by
  have hz : ((c : Int) == 45) = (c == 45) := Bool.eq_iff_iff.2 (by rw [beq_iff_eq, beq_iff_eq]; omega)
  by_cases h1 : 97 ≤ c
  · by_cases h2 : c ≤ 122
    · rw [show lab c = true by simp [lab, h1, h2]]; exact labf_low c b w h1 h2
    · rw [show lab c = (isD c || c == 45) by simp [lab, h1, h2, show ¬ c ≤ 90 by omega]]; exact labf_d c b w hb (by omega) _ rfl _ hz
  · by_cases h3 : 65 ≤ c
    · by_cases h4 : c ≤ 90
      · rw [show lab c = true by simp [lab, h3, h4]]; exact labf_up c b w h3 h4
      · rw [show lab c = (isD c || c == 45) by simp [lab, h1, h4]]; exact labf_m c b w hb (by omega) (by omega) _ rfl _ hz
    · rw [show lab c = (isD c || c == 45) by simp [lab, h1, h3]]; exact labf_a c b w hb (by omega) _ rfl _ hz
end Go.Proofs.YtdnkpclpcelbaaaDoor
