/- host (layer 27): the examples, and HostTells. -/
import Derived.Test.YtdnkpclpcelbaaaDoorHosR
namespace Go.Proofs.YtdnkpclpcelbaaaDoor
set_option maxRecDepth 20000
set_option linter.unusedSimpArgs false
set_option linter.unusedVariables false
open Go.RowKit Go.Lib Go.Shelf Go.Sort
attribute [local go_sem] Oper.semAt_some
theorem pv1 : partsV [97, 46, 98, 58, 56, 48] = ([97, 46, 98], 80, 0) := by decide +kernel
theorem pv2 : partsV [49, 46, 50, 46, 51] = ([], 0, 25) := by decide +kernel
theorem kv1 : kindI [91, 58, 58, 49, 93] = 3 := by decide +kernel
theorem kv2 : kindI [91, 49, 58, 58, 50, 58, 58, 51, 93] = 0 := by decide +kernel
theorem kv3 : kindI [97, 45, 46, 98] = 0 := by decide +kernel
theorem hx1 (m : Int) (w : World) (hm : w.cell? ⟨gMaxH, 0, none⟩ = some (.int .i64 m)) :
    Calls Tryd.prog 8 #[.string ⟨#[97, 46, 98, 58, 56, 48]⟩] w fun e w' => e = .returned (.tuple #[.string ⟨#[97, 46, 98]⟩, .int .i64 80, .int .i64 0]) ∧ Below w.heap.size w w' := by
  have h := hparts_any [97, 46, 98, 58, 56, 48] (by decide) m w hm
  rw [pv1] at h
  exact h
theorem hx2 (m : Int) (w : World) (hm : w.cell? ⟨gMaxH, 0, none⟩ = some (.int .i64 m)) :
    Calls Tryd.prog 8 #[.string ⟨#[49, 46, 50, 46, 51]⟩] w fun e w' => e = .returned (.tuple #[.string ⟨#[]⟩, .int .i64 0, .int .i64 25]) ∧ Below w.heap.size w w' := by
  have h := hparts_any [49, 46, 50, 46, 51] (by decide) m w hm
  rw [pv2] at h
  exact h
theorem hx3 (m : Int) (w : World) (hm : w.cell? ⟨gMaxH, 0, none⟩ = some (.int .i64 m)) :
    Calls Tryd.prog 10 #[.string ⟨#[91, 58, 58, 49, 93]⟩] w fun e w' => e = .returned (.int .i64 3) ∧ Below w.heap.size w w' := by
  have h := kind_any [91, 58, 58, 49, 93] (by decide) m w hm
  rw [kv1] at h
  exact h
theorem hx4 (m : Int) (w : World) (hm : w.cell? ⟨gMaxH, 0, none⟩ = some (.int .i64 m)) :
    Calls Tryd.prog 10 #[.string ⟨#[91, 49, 58, 58, 50, 58, 58, 51, 93]⟩] w fun e w' => e = .returned (.int .i64 0) ∧ Below w.heap.size w w' := by
  have h := kind_any [91, 49, 58, 58, 50, 58, 58, 51, 93] (by decide) m w hm
  rw [kv2] at h
  exact h
theorem hx5 (m : Int) (w : World) (hm : w.cell? ⟨gMaxH, 0, none⟩ = some (.int .i64 m)) :
    Calls Tryd.prog 10 #[.string ⟨#[97, 45, 46, 98]⟩] w fun e w' => e = .returned (.int .i64 0) ∧ Below w.heap.size w w' := by
  have h := kind_any [97, 45, 46, 98] (by decide) m w hm
  rw [kv3] at h
  exact h
set_option maxRecDepth 100000 in
set_option maxHeartbeats 4000000 in
theorem holives_any (m : Int) (w : World) (hm : w.cell? ⟨gMaxH, 0, none⟩ = some (.int .i64 m)) :
    Calls Tryd.prog 7 #[] w fun e w' => e = .returned (.bool true) ∧ Below w.heap.size w w' := by
  have K1 := Lib.hid (hx1 m w hm)
  have K2 := Lib.hid (fun w hm => hx2 m w hm)
  have lgm := blk_of_cellH hm
  simp only at lgm
  have HM := Lib.hid hm
  clear hm
  go_enter Tryd.func7, Tryd.ntmps7
  go_wp2_with fail
  refine K1.out.mono ?_
  rintro e w1 ⟨rfl, hb⟩
  go_wp2_with fail
  refine (K2.out w1 (((bcell (hb)).1 _ 0 lgm).trans HM.out)).mono ?_
  rintro e w2 ⟨rfl, hb2⟩
  go_upto_region 3 with fail
  refine sw_lit ?_
  refine sw_pure (v := .string ⟨#[97, 46, 98]⟩) (fun W => rfl) rfl ?_
  simp only [nm0, nm1, nm2, nm3]
  refine sw_pure (v := .bool true) (fun W => run_bin_of rfl rfl rfl (by first | rfl | go_simp)) rfl ?_
  simp only [nm0, nm1, nm2, nm3]
  refine sw_pure (v := .bool true) (fun W => rfl) rfl ?_
  simp only [nm0, nm1, nm2, nm3]
  refine sw_pure (v := .int .i64 80) (fun W => rfl) rfl ?_
  simp only [nm0, nm1, nm2, nm3]
  refine sw_pure (v := .bool true) (fun W => run_bin_of rfl rfl rfl (by first | rfl | go_simp)) rfl ?_
  simp only [nm0, nm1, nm2, nm3]
  refine sw_pure (v := .bool true) (fun W => rfl) rfl ?_
  simp only [nm0, nm1, nm2, nm3]
  refine sw_pure (v := .bool true) (fun W => rfl) rfl ?_
  simp only [nm0, nm1, nm2, nm3]
  refine sw_pure (v := .int .i64 0) (fun W => rfl) rfl ?_
  simp only [nm0, nm1, nm2, nm3]
  refine sw_pure (v := .bool true) (fun W => run_bin_of rfl rfl rfl (by first | rfl | go_simp)) rfl ?_
  simp only [nm0, nm1, nm2, nm3]
  refine sw_pure (v := .bool true) (fun W => rfl) rfl ?_
  simp only [nm0, nm1, nm2, nm3]
  refine sw_pure (v := .bool true) (fun W => rfl) rfl ?_
  simp only [nm0, nm1, nm2, nm3]
  refine sw_pure (v := .int .i64 25) (fun W => rfl) rfl ?_
  simp only [nm0, nm1, nm2, nm3]
  refine sw_pure (v := .bool true) (fun W => run_bin_of rfl rfl rfl (by first | rfl | go_simp)) rfl ?_
  simp only [nm0, nm1, nm2, nm3]
  refine sw_pure (v := .bool true) (fun W => rfl) rfl ?_
  simp only [nm0, nm1, nm2, nm3]
  refine sw_pure (v := .bool true) (fun W => rfl) rfl ?_
  simp only [nm0, nm1, nm2, nm3]
  refine sw_callE (args := #[.string ⟨#[91, 58, 58, 49, 93]⟩]) (fun W => run_call_fn W (enters_of Tryd.func10 (by kernel_rfl) rfl) rfl (by simp [Act.eval])) (hx3 m _ (((bcell (gr_step hb hb2)).1 _ 0 lgm).trans HM.out)) rfl ?_
  rintro e w3 ⟨rfl, hb3⟩
  refine ⟨_, rfl, ?_⟩
  simp only [nm0, nm1, nm2, nm3]
  refine sw_pure (v := .bool true) (fun W => run_bin_of rfl rfl rfl (by first | rfl | go_simp)) rfl ?_
  simp only [nm0, nm1, nm2, nm3]
  refine sw_pure (v := .bool true) (fun W => rfl) rfl ?_
  simp only [nm0, nm1, nm2, nm3]
  refine sw_pure (v := .bool true) (fun W => rfl) rfl ?_
  simp only [nm0, nm1, nm2, nm3]
  refine sw_callE (args := #[.string ⟨#[91, 49, 58, 58, 50, 58, 58, 51, 93]⟩]) (fun W => run_call_fn W (enters_of Tryd.func10 (by kernel_rfl) rfl) rfl (by simp [Act.eval])) (hx4 m _ (((bcell (gr_step (gr_step hb hb2) hb3)).1 _ 0 lgm).trans HM.out)) rfl ?_
  rintro e w4 ⟨rfl, hb4⟩
  refine ⟨_, rfl, ?_⟩
  simp only [nm0, nm1, nm2, nm3]
  refine sw_pure (v := .bool true) (fun W => run_bin_of rfl rfl rfl (by first | rfl | go_simp)) rfl ?_
  simp only [nm0, nm1, nm2, nm3]
  refine sw_pure (v := .bool true) (fun W => rfl) rfl ?_
  simp only [nm0, nm1, nm2, nm3]
  refine sw_pure (v := .bool true) (fun W => rfl) rfl ?_
  simp only [nm0, nm1, nm2, nm3]
  refine sw_callE (args := #[.string ⟨#[97, 45, 46, 98]⟩]) (fun W => run_call_fn W (enters_of Tryd.func10 (by kernel_rfl) rfl) rfl (by simp [Act.eval])) (hx5 m _ (((bcell (gr_step (gr_step (gr_step hb hb2) hb3) hb4)).1 _ 0 lgm).trans HM.out)) rfl ?_
  rintro e w5 ⟨rfl, hb5⟩
  refine ⟨_, rfl, ?_⟩
  simp only [nm0, nm1, nm2, nm3]
  refine sw_pure (v := .bool true) (fun W => run_bin_of rfl rfl rfl (by first | rfl | go_simp)) rfl ?_
  simp only [nm0, nm1, nm2, nm3]
  refine sw_pure (v := .bool true) (fun W => rfl) rfl ?_
  simp only [nm0, nm1, nm2, nm3]
  refine sw_pure (v := .bool true) (fun W => rfl) rfl ?_
  simp only [nm0, nm1, nm2, nm3]
  refine sw_nil ?_
  go_wp2_with fail
  go_ret
  exact ⟨rfl, gr_step (gr_step (gr_step (gr_step hb hb2) hb3) hb4) hb5⟩
theorem retHP_mk {l : List UInt8} {X : ByteArray} {pn pe : Int} (h : partsV l = (X.data.toList, pn, pe)) : retHP (partsV l) = .returned (.tuple #[.string X, .int .i64 pn, .int .i64 pe]) := by
  rw [h]
set_option maxRecDepth 100000 in
set_option maxHeartbeats 4000000 in
theorem hostTells_w (S : ByteArray) (m : Int) (w : World) (hm : w.cell? ⟨gMaxH, 0, none⟩ = some (.int .i64 m)) :
    Calls Tryd.prog 3 #[.string S] w fun e w' => e = .returned (.bool true) ∧ Below w.heap.size w w' := by
  by_cases c1 : 300 < S.size
  · have q1 : (300 : Int) < (S.size : Int) := by omega
    go_enter Tryd.func3, Tryd.ntmps3
    go_wp2_with fail
    refine (holives_any m w hm).mono ?_
    rintro e w1 ⟨rfl, hb⟩
    go_wp2_with fail
    go_ret
    exact ⟨rfl, hb⟩
  have q1 : ¬ (300 : Int) < (S.size : Int) := by omega
  obtain ⟨l, el⟩ : ∃ l : List UInt8, S = ⟨l.toArray⟩ := ⟨S.data.toList, rfl⟩
  have hl : l.length ≤ 300 := by
    have := ba_size l
    rw [el] at c1
    omega
  have K1 := Lib.hid (hparts_any l (by omega) m w hm)
  have K2 := Lib.hid (fun w => rhparts_any l (by omega) w)
  have K3 := Lib.hid (fun w hm => kind_any l (by omega) m w hm)
  have K4 := Lib.hid (fun w => rkind_any l (by omega) w)
  obtain ⟨X, pn, pe, ep⟩ : ∃ (X : ByteArray) (pn pe : Int), partsV l = (X.data.toList, pn, pe) := ⟨⟨(partsV l).1.toArray⟩, (partsV l).2.1, (partsV l).2.2, rfl⟩
  rw [retHP_mk ep] at K1 K2
  rw [← el] at K1 K2 K3 K4
  generalize kindI l = k at K3 K4
  have lgm := blk_of_cellH hm
  simp only at lgm
  have HM := Lib.hid hm
  clear hm el hl ep c1
  clear l
  go_enter Tryd.func3, Tryd.ntmps3
  go_wp2_with fail
  refine K1.out.mono ?_
  rintro e w1 ⟨rfl, hb⟩
  go_wp2_with fail
  refine (K2.out w1).mono ?_
  rintro e w2 ⟨rfl, hb2⟩
  go_upto_region 5 with fail
  refine sw_lit ?_
  refine sw_pure (v := .string S) (fun W => rfl) rfl ?_
  simp only [nm0, nm1, nm2, nm3]
  refine sw_callE (args := #[.string S]) (fun W => run_call_fn W (enters_of Tryd.func10 (by kernel_rfl) rfl) rfl (by simp [Act.eval])) (K3.out _ (((bcell (gr_step hb hb2)).1 _ 0 lgm).trans HM.out)) rfl ?_
  rintro e w3 ⟨rfl, hb3⟩
  refine ⟨_, rfl, ?_⟩
  simp only [nm0, nm1, nm2, nm3]
  refine sw_pure (v := .string S) (fun W => rfl) rfl ?_
  simp only [nm0, nm1, nm2, nm3]
  refine sw_callE (args := #[.string S]) (fun W => run_call_fn W (enters_of Tryd.func11 (by kernel_rfl) rfl) rfl (by simp [Act.eval])) (K4.out _) rfl ?_
  rintro e w4 ⟨rfl, hb4⟩
  refine ⟨_, rfl, ?_⟩
  simp only [nm0, nm1, nm2, nm3]
  refine sw_pure (v := .bool true) (fun W => run_bin_of rfl rfl rfl (by go_simp)) rfl ?_
  simp only [nm0, nm1, nm2, nm3]
  refine sw_pure (v := .bool true) (fun W => rfl) rfl ?_
  simp only [nm0, nm1, nm2, nm3]
  refine sw_pure (v := .string X) (fun W => rfl) rfl ?_
  simp only [nm0, nm1, nm2, nm3]
  refine sw_pure (v := .string X) (fun W => rfl) rfl ?_
  simp only [nm0, nm1, nm2, nm3]
  refine sw_pure (v := .bool true) (fun W => run_bin_of rfl rfl rfl (by go_simp)) rfl ?_
  simp only [nm0, nm1, nm2, nm3]
  refine sw_pure (v := .bool true) (fun W => rfl) rfl ?_
  simp only [nm0, nm1, nm2, nm3]
  refine sw_pure (v := .bool true) (fun W => rfl) rfl ?_
  simp only [nm0, nm1, nm2, nm3]
  refine sw_pure (v := .int .i64 pn) (fun W => rfl) rfl ?_
  simp only [nm0, nm1, nm2, nm3]
  refine sw_pure (v := .int .i64 pn) (fun W => rfl) rfl ?_
  simp only [nm0, nm1, nm2, nm3]
  refine sw_pure (v := .bool true) (fun W => run_bin_of rfl rfl rfl (by go_simp)) rfl ?_
  simp only [nm0, nm1, nm2, nm3]
  refine sw_pure (v := .bool true) (fun W => rfl) rfl ?_
  simp only [nm0, nm1, nm2, nm3]
  refine sw_pure (v := .bool true) (fun W => rfl) rfl ?_
  simp only [nm0, nm1, nm2, nm3]
  refine sw_pure (v := .int .i64 pe) (fun W => rfl) rfl ?_
  simp only [nm0, nm1, nm2, nm3]
  refine sw_pure (v := .int .i64 pe) (fun W => rfl) rfl ?_
  simp only [nm0, nm1, nm2, nm3]
  refine sw_pure (v := .bool true) (fun W => run_bin_of rfl rfl rfl (by go_simp)) rfl ?_
  simp only [nm0, nm1, nm2, nm3]
  refine sw_pure (v := .bool true) (fun W => rfl) rfl ?_
  simp only [nm0, nm1, nm2, nm3]
  refine sw_pure (v := .bool true) (fun W => rfl) rfl ?_
  simp only [nm0, nm1, nm2, nm3]
  refine sw_callE (args := #[]) (fun W => run_call_fn W (enters_of Tryd.func7 (by kernel_rfl) rfl) rfl (by simp [Act.eval])) (holives_any m _ (((bcell (gr_step (gr_step (gr_step hb hb2) hb3) hb4)).1 _ 0 lgm).trans HM.out)) rfl ?_
  rintro e w5 ⟨rfl, hb5⟩
  refine ⟨_, rfl, ?_⟩
  simp only [nm0, nm1, nm2, nm3]
  refine sw_pure (v := .bool true) (fun W => rfl) rfl ?_
  simp only [nm0, nm1, nm2, nm3]
  refine sw_pure (v := .bool true) (fun W => rfl) rfl ?_
  simp only [nm0, nm1, nm2, nm3]
  refine sw_nil ?_
  go_wp2_with fail
  go_ret
  exact ⟨rfl, gr_step (gr_step (gr_step (gr_step hb hb2) hb3) hb4) hb5⟩
theorem max_of_host {W : World} (h : W.ShapedOpen Tryd.prog) : ∃ m, W.cell? ⟨gMaxH, 0, none⟩ = some (.int .i64 m) := Tryd.laysM146.s1_3 W h
theorem hostTells_walk (S : ByteArray) (w : World) (_ : S.size ≤ maxLen) (hS : w.ShapedOpen Tryd.prog) :
    Calls Tryd.prog 3 #[.string S] w fun e w' => e = .returned (.bool true) ∧ Below w.heap.size w w' := by
  obtain ⟨m, hm⟩ := max_of_host hS
  exact hostTells_w S m w hm
end Go.Proofs.YtdnkpclpcelbaaaDoor
