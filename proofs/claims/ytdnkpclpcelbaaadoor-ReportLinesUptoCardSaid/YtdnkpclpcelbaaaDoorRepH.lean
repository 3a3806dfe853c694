/- the law's examples (layer 49). -/
import Derived.Test.YtdnkpclpcelbaaaDoorRepE
namespace Go.Proofs.YtdnkpclpcelbaaaDoor
set_option maxRecDepth 20000
set_option linter.unusedSimpArgs false
set_option linter.unusedVariables false
open Go.RowKit Go.Lib Go.Sort
attribute [local go_sem] Oper.semAt_some
theorem ex_verd : (⟨(lineL (verdW [] false 0)).toArray⟩ : ByteArray) = ⟨#[101, 118, 101, 110, 116, 32, 45, 32, 111, 107, 10]⟩ := by decide +kernel
theorem ex_line : (⟨(lineL [[97], [], [98]]).toArray⟩ : ByteArray) = ⟨#[97, 32, 45, 32, 98, 10]⟩ := by decide +kernel
set_option maxRecDepth 100000 in
set_option maxHeartbeats 4000000 in
theorem replives_any (w : World) (hT : Tab w) :
    Calls Tryd.prog 23 #[] w fun e w' => e = .returned (.bool true) ∧ Below w.heap.size w w' := by
  have KV : Calls Tryd.prog 26 #[.agg #[.string ⟨#[]⟩, .bool false, .int .i64 0]] w fun e w' => e = .returned (.string ⟨#[101, 118, 101, 110, 116, 32, 45, 32, 111, 107, 10]⟩) ∧ Below w.heap.size w w' := by
    have := verdict_any [] false 0 w (by decide) (by decide) (by decide) hT
    rw [ex_verd] at this
    exact this
  have KL : ∀ b W, W.heap[b]? = some (.cells #[.string ⟨#[97]⟩, .string ⟨#[]⟩, .string ⟨#[98]⟩] StT (0, 0)) → Calls Tryd.prog 24 #[.slice (some ⟨b, 0, none⟩) 3 3] W fun e w' => e = .returned (.string ⟨#[97, 32, 45, 32, 98, 10]⟩) ∧ Below W.heap.size W w' := fun b W h => by
    rw [← ex_line]
    exact line_any _ [[97], [], [98]] W (TxS.row (L := [[97], [], [98]]) h) (by decide) (fun i => verd_few (I := []) (by decide) i (by decide))
  have KV := Lib.hid KV
  have KL := Lib.hid KL
  go_enter Tryd.func23, Tryd.ntmps23
  go_upto_region 1 with fail
  have hM := Mem.start w
  refine wp_region_lit ?_
  refine wl_pure (v := .agg #[.string ⟨#[]⟩, .bool false, .int .i64 0]) (fun W => run_build_of (ps := #[]) rfl (by simp) (by go_simp)) rfl ?_; simp only [nm0, nm1, nm2, nm3]
  refine wl_call hM (v := .string ⟨#[101, 118, 101, 110, 116, 32, 45, 32, 111, 107, 10]⟩) (fun W => run_call_fn W (enters_of Tryd.func26 (by kernel_rfl) rfl) rfl (by simp [Act.eval, Act.put])) KV.out rfl fun W3 hM3 => ?_
  simp only [nm0, nm1, nm2, nm3]
  refine wl_pure (v := .bool true) (fun W => run_bin_of rfl rfl rfl (by go_simp)) rfl ?_; simp only [nm0, nm1, nm2, nm3]
  refine wl_pure (v := .bool true) (fun _ => rfl) rfl ?_; simp only [nm0, nm1, nm2, nm3]
  refine wl_new hM3 (f := fun b => .slice (some ⟨b, 0, none⟩) 3 3) (ob := .cells #[.string ⟨#[97]⟩, .string ⟨#[]⟩, .string ⟨#[98]⟩] StT (0, 0)) (fun W => run_slice_of rfl (by simp [Act.eval]) (bs_St3 _ _ _ W)) rfl fun b W4 hM4 => ?_
  simp only [nm0, nm1, nm2, nm3]
  refine wl_call hM4.tail (v := .string ⟨#[97, 32, 45, 32, 98, 10]⟩) (fun W => run_call_fn W (enters_of Tryd.func24 (by kernel_rfl) rfl) rfl (by simp [Act.eval, Act.put])) (KL.out b W4 (hM4.get 0 rfl)) rfl fun W5 hM5 => ?_
  simp only [nm0, nm1, nm2, nm3]
  refine wl_pure (v := .bool true) (fun W => run_bin_of rfl rfl rfl (by go_simp)) rfl ?_; simp only [nm0, nm1, nm2, nm3]
  refine wl_pure (v := .bool true) (fun _ => rfl) rfl ?_; simp only [nm0, nm1, nm2, nm3]
  refine wl_pure (v := .bool true) (fun _ => rfl) rfl ?_; simp only [nm0, nm1, nm2, nm3]
  refine wpList_nil ?_
  go_wp2_with fail
  go_ret
  exact ⟨rfl, hM5.below⟩
end Go.Proofs.YtdnkpclpcelbaaaDoor
