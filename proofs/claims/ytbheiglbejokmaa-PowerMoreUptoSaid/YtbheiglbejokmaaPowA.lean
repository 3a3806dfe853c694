/- power.ask's function (layer 57), over a node that came in. -/
import Derived.Test.YtbheiglbejokmaaFldA
namespace Go.Proofs.Ytbheiglbejokmaa
set_option maxRecDepth 20000
set_option linter.unusedSimpArgs false
set_option linter.unusedVariables false
open Go.RowKit Go.Sort Go.Lib Go.Shelf
attribute [local go_sem] Oper.semAt_some
theorem fl_N (b : Nat) (W : World) : (Instr.fieldAt 25 (.pointer (some ⟨b, 0, none⟩)) 1).run Try.prog W = .ok (.pointer (some ⟨b, 1, none⟩)) W := by kernel_rfl
theorem cellJ : CellTy Try.prog 2 := ⟨⟨_, Try.underlying2, rfl⟩, by kernel_rfl⟩
theorem rowTold : RowTy Try.prog 95 2 := ⟨.inl ⟨_, Try.underlying95⟩, by kernel_rfl⟩
theorem bd_told0 (W : World) : (Instr.build 95 #[]).run Try.prog W = .ok (.agg #[.bool false, .int .i64 0]) W := by kernel_rfl
theorem bd_told (z : Int) (W : World) : (Instr.build 95 #[(0, .bool true), (1, .int .i64 z)]).run Try.prog W = .ok (.agg #[.bool true, .int .i64 z]) W := by kernel_rfl
theorem results_c {P : Program} {w : World} {fn : Func} {tmps : Array Value} {v1 : Value} {a1 t1 b1 : Nat} (h : fn.results = #[.cell a1 t1]) (h1 : tmps.getD a1 undef = .pointer (some ⟨b1, 0, none⟩)) (l1 : (loadVar t1 ⟨b1, 0, none⟩).run P w = .ok v1 w) : (results fn tmps).run P w = .ok v1 w := by
  have g1 : tmps[a1]?.getD undef = .pointer (some ⟨b1, 0, none⟩) := by simpa using h1
  simp [results, h, g1, asAddr, l1]
set_option maxRecDepth 100000 in
set_option maxHeartbeats 4000000 in
theorem ask1_any (w : World) (cs : List Value) (N : Nd) (h : IsNd w cs N) (g : Nat) (hg : w.heap[g]? = some (.cells cs.toArray 25 (0, 0))) (name : ByteArray) :
    Calls Try.prog 69 #[.string name, .pointer (some ⟨g, 0, none⟩)] w fun e w' => e = .returned (.agg #[.bool (decide ((N.get name).kind = 3)), .int .i64 (if (N.get name).kind = 3 then (N.get name).num else 0)]) ∧ Below w.heap.size w w' := by
  have KG := Lib.hid (fun W hW => tget_any W cs N (h.keep hW) name)
  have g5 := isNd_len h
  have hgl := (Array.getElem?_eq_some_iff.1 hg).1
  obtain ⟨ca, eca⟩ : ∃ z, z = cs.toArray := ⟨_, rfl⟩
  obtain ⟨M, eM⟩ : ∃ M, M = N.get name := ⟨_, rfl⟩
  obtain ⟨ok, eok⟩ : ∃ b, b = N.has name := ⟨_, rfl⟩
  rw [← eM, ← eok, ← eca] at KG
  rw [← eca] at g5 hg
  rw [← eM]
  obtain ⟨kd, ekd⟩ : ∃ z, z = M.kind := ⟨_, rfl⟩
  obtain ⟨nu, enu⟩ : ∃ z, z = M.num := ⟨_, rfl⟩
  obtain ⟨rs, ers⟩ : ∃ z, z = (if M.kind = 3 then M.num else 0) := ⟨_, rfl⟩
  obtain ⟨rk, erk⟩ : ∃ z, z = decide (M.kind = 3) := ⟨_, rfl⟩
  rw [← ers, ← erk]
  rw [← ekd] at ers erk
  rw [← enu] at ers
  have EK := Lib.hid ekd
  have EN := Lib.hid enu
  have ER := Lib.hid (And.intro ers erk)
  clear eM eok ekd enu ers erk h eca
  go_enter Try.func69, Try.ntmps69
  go_upto_region 1 with fail
  have hM0 := (Mem.start w).new1 (.cells #[.bool false, .int .i64 0] 95 (0, 0))
  have hg1 := (hM0.below.block g hgl).trans hg
  refine wp_region_lit ?_
  refine wl_val (v := .agg ca) (run_load_row rfl rfl hg1 (by rw [g5]; exact rowNd)) rfl ?_
  simp only [nm0, nm1, nm2, nm3]
  refine wl_pure (v := .string name) (fun W => rfl) rfl ?_
  simp only [nm0, nm1, nm2, nm3]
  refine wl_callX (args := #[.agg ca, .string name]) (fun W => run_call_fn W (enters_of Try.func43 (by kernel_rfl) rfl) rfl (by simp [Act.eval])) (KG.out _ hM0.below) rfl ?_
  rintro e w2 ⟨cs', hN, rfl, hb⟩
  refine ⟨_, rfl, ?_⟩
  simp only [nm0, nm1, nm2, nm3]
  have hk : cs'.toArray[0]? = some (.int .i64 kd) := by rw [EK.out]; cases hN; rfl
  have hs : cs'.toArray[1]? = some (.int .i64 nu) := by rw [EN.out]; cases hN; rfl
  have h5 := isNd_len hN
  have h1 := isNd_one hN
  clear hN EK EN
  obtain ⟨kx, ekx⟩ : ∃ z, z = cs'.toArray := ⟨_, rfl⟩
  rw [← ekx] at hk hs h5 h1 ⊢
  clear ekx
  have hM1 := hM0.calls hb
  refine wl_pure (v := .tuple #[.agg kx, .bool ok]) (fun W => rfl) rfl ?_
  simp only [nm0, nm1, nm2, nm3]
  refine wl_pure (v := .agg kx) (fun W => rfl) rfl ?_
  simp only [nm0, nm1, nm2, nm3]
  refine wl_pure (v := .bool ok) (fun W => rfl) rfl ?_
  simp only [nm0, nm1, nm2, nm3]
  refine wl_new hM1 (f := fun b => .pointer (some ⟨b, 0, none⟩)) (fun W => run_alloc_of rfl (al_Nd W)) rfl fun b W2 hM2 => ?_
  simp only [nm0, nm1, nm2, nm3]
  refine wl_set hM2 0 (cs := kx) rfl rfl rfl rfl (by rw [h5]; exact rowNd) (by rw [h5]; rfl) h1 rfl rfl fun W3 hM3 => ?_
  simp only [nm2, nm3] at hM3
  refine wl_pure (v := .bool ok) (fun W => rfl) rfl ?_
  simp only [nm0, nm1, nm2, nm3]
  refine wpList_nil ?_
  go_upto_region 2 with fail
  refine wp_region_lit ?_
  refine wl_pure (v := .pointer (some ⟨b, 0, none⟩)) (fun W => run_field_of rfl rfl (fl_K _ W)) rfl ?_
  simp only [nm0, nm1, nm2, nm3]
  refine wl_cell hM3 0 (v := .int .i64 kd) rfl rfl rfl hk cellI rfl ?_
  simp only [nm0, nm1, nm2, nm3]
  obtain ⟨z, ez⟩ : ∃ z, z = (kd != 3) := ⟨_, rfl⟩
  refine wl_pure (v := .bool z) (fun W => by rw [ez]; rfl) rfl ?_
  simp only [nm0, nm1, nm2, nm3]
  refine wpList_nil ?_
  by_cases c3 : kd = 3
  · have hz : z = false := by rw [ez, c3]; rfl
    subst hz
    have hr : rs = nu ∧ rk = true := ⟨by rw [ER.out.1, if_pos c3], by rw [ER.out.2]; exact decide_eq_true c3⟩
    clear ER c3
    go_upto_region 4 with fail
    refine wp_region_lit ?_
    refine wl_pure (v := .pointer (some ⟨b, 1, none⟩)) (fun W => run_field_of rfl rfl (fl_N _ W)) rfl ?_
    simp only [nm0, nm1, nm2, nm3]
    refine wl_cell hM3 0 (v := .int .i64 nu) rfl rfl rfl hs cellJ rfl ?_
    simp only [nm0, nm1, nm2, nm3]
    refine wl_pure (v := .agg #[.bool true, .int .i64 nu]) (fun W => run_build_of (ps := #[(0, .bool true), (1, .int .i64 nu)]) rfl (by simp [Act.eval]) (bd_told nu W)) rfl ?_
    simp only [nm0, nm1, nm2, nm3]
    refine wl_set hM3 1 (cs := #[.bool true, .int .i64 nu]) rfl rfl rfl rfl rowTold rfl (by simp [Value.oneCell']) rfl rfl fun W4 hM4 => ?_
    simp only [nm2, nm3] at hM4
    refine wpList_nil ?_
    go_wp2_with fail
    rw [hr.1, hr.2]
    exact bodyPost_ret (results_c rfl rfl (hM4.load 1 rfl rowTold)) rfl ⟨rfl, hM4.below⟩
  · have hz : z = true := by rw [ez]; simpa using c3
    subst hz
    have hr : rs = 0 ∧ rk = false := ⟨by rw [ER.out.1, if_neg c3], by rw [ER.out.2]; exact decide_eq_false c3⟩
    clear ER c3
    go_upto_region 3 with fail
    refine wp_region_lit ?_
    refine wl_pure (v := .agg #[.bool false, .int .i64 0]) (fun W => run_build_of (ps := #[]) rfl (by simp) (bd_told0 W)) rfl ?_
    simp only [nm0, nm1, nm2, nm3]
    refine wl_set hM3 1 (cs := #[.bool false, .int .i64 0]) rfl rfl rfl rfl rowTold rfl (by simp [Value.oneCell']) rfl rfl fun W4 hM4 => ?_
    simp only [nm2, nm3] at hM4
    refine wpList_nil ?_
    go_wp2_with fail
    rw [hr.1, hr.2]
    exact bodyPost_ret (results_c rfl rfl (hM4.load 1 rfl rowTold)) rfl ⟨rfl, hM4.below⟩
end Go.Proofs.Ytbheiglbejokmaa
