/- field.Text (layer 29), over a node that came in. -/
import Derived.Test.YtbheiglbejokmaaNodD
namespace Go.Proofs.Ytbheiglbejokmaa
set_option maxRecDepth 20000
set_option linter.unusedSimpArgs false
set_option linter.unusedVariables false
open Go.RowKit Go.Sort Go.Lib Go.Shelf
attribute [local go_sem] Oper.semAt_some
theorem fl_K (b : Nat) (W : World) : (Instr.fieldAt 25 (.pointer (some ⟨b, 0, none⟩)) 0).run Try.prog W = .ok (.pointer (some ⟨b, 0, none⟩)) W := by kernel_rfl
theorem fl_S (b : Nat) (W : World) : (Instr.fieldAt 25 (.pointer (some ⟨b, 0, none⟩)) 2).run Try.prog W = .ok (.pointer (some ⟨b, 2, none⟩)) W := by kernel_rfl
theorem cellI : CellTy Try.prog 3 := ⟨⟨_, Try.underlying3, rfl⟩, by kernel_rfl⟩
section
variable {P : Program} {w : World} {ops : Array Oper} {Q : Exit → Act → World → Prop} {o : Oper} {rest : List Oper} {A : Act}
theorem results_tt {fn : Func} {tmps : Array Value} {u v : Value} {s r : Nat} (h : fn.results = #[.tmp s, .tmp r]) (h1 : tmps.getD s undef = u) (h2 : tmps.getD r undef = v) : (results fn tmps).run P w = .ok (.tuple #[u, v]) w := by
  have g1 : tmps[s]?.getD undef = u := by simpa using h1
  have g2 : tmps[r]?.getD undef = v := by simpa using h2
  simp [results, h, g1, g2]
/-- A call whose answer is only known to be there. -/
theorem wl_callX {f : FuncId} {args : Array Value} {R : Ending → World → Prop} (h : ∀ W, (execOp A.eval o).run P W = .ok (.enter f args) W) (hc : Calls P f args w R) (hgd : Region.wanted o (yielded ops A.tmps) = true) (hr : ∀ e w', R e w' → ∃ v, e = .returned v ∧ wpList P ops Q rest (A.put o.dst v) w') : wpList P ops Q (o :: rest) A w := by
  refine wpList_step fun K hK => ?_
  rw [if_pos hgd]
  unfold Oper.wp
  rw [h]
  exact hc.mono fun e w' he => by
    obtain ⟨v, rfl, hv⟩ := hr e w' he
    exact hK _ _ hv
end
set_option maxRecDepth 100000 in
set_option maxHeartbeats 4000000 in
theorem ftext_any (w : World) (cs : List Value) (N : Nd) (h : IsNd w cs N) (name : ByteArray) :
    Calls Try.prog 13 #[.agg cs.toArray, .string name] w fun e w' => e = .returned (.tuple #[.string (if (N.get name).kind = 4 then (N.get name).str else ByteArray.empty), .bool (decide ((N.get name).kind = 4))]) ∧ Below w.heap.size w w' := by
  have KG := Lib.hid (fun W hW => tget_any W cs N (h.keep hW) name)
  cases h with
  | @mk kind n s ks ls ak lk ck al ll cl kid hkind hn hs hk hl hlm hrow hkids =>
    obtain ⟨M, eM⟩ : ∃ M, M = (Nd.mk kind n s ks ls).get name := ⟨_, rfl⟩
    obtain ⟨ok, eok⟩ : ∃ b, b = (Nd.mk kind n s ks ls).has name := ⟨_, rfl⟩
    rw [← eM, ← eok] at KG
    rw [← eM]
    obtain ⟨kd, ekd⟩ : ∃ z, z = M.kind := ⟨_, rfl⟩
    obtain ⟨st, est⟩ : ∃ z, z = M.str := ⟨_, rfl⟩
    obtain ⟨rs, ers⟩ : ∃ z, z = (if M.kind = 4 then M.str else ByteArray.empty) := ⟨_, rfl⟩
    obtain ⟨rk, erk⟩ : ∃ z, z = decide (M.kind = 4) := ⟨_, rfl⟩
    rw [← ers, ← erk]
    rw [← ekd] at ers erk
    rw [← est] at ers
    have EK := Lib.hid ekd
    have ES := Lib.hid est
    have ER := Lib.hid (And.intro ers erk)
    clear hkids hrow hk hkind hn hs eM eok ekd est ers erk
    go_enter Try.func13, Try.ntmps13
    go_upto_region 1 with fail
    obtain ⟨nd, hnd⟩ : ∃ a : Array Value, a = #[.int .i64 kind, .int .i64 n, .string s, .slice ak lk ck, .slice al ll cl] := ⟨_, rfl⟩
    have hM0 := (Mem.start w).new1 (.cells #[.int .i64 kind, .int .i64 n, .string s, .slice ak lk ck, .slice al ll cl] 25 (0, 0))
    refine wp_region_lit ?_
    refine wl_row hM0 0 (v := .agg #[.int .i64 kind, .int .i64 n, .string s, .slice ak lk ck, .slice al ll cl]) rfl rfl rfl rfl rowNd rfl ?_
    simp only [nm0, nm1, nm2, nm3]
    refine wl_pure (v := .string name) (fun W => rfl) rfl ?_
    simp only [nm0, nm1, nm2, nm3]
    refine wl_callX (args := #[.agg #[.int .i64 kind, .int .i64 n, .string s, .slice ak lk ck, .slice al ll cl], .string name]) (fun W => run_call_fn W (enters_of Try.func43 (by kernel_rfl) rfl) rfl (by simp [Act.eval])) (KG.out _ hM0.below) rfl ?_
    rintro e w2 ⟨cs', hN, rfl, hb⟩
    refine ⟨_, rfl, ?_⟩
    simp only [nm0, nm1, nm2, nm3]
    have hk : cs'.toArray[0]? = some (.int .i64 kd) := by rw [EK.out]; cases hN; rfl
    have hs : cs'.toArray[2]? = some (.string st) := by rw [ES.out]; cases hN; rfl
    have h5 := isNd_len hN
    have h1 := isNd_one hN
    clear hN EK ES
    obtain ⟨kx, ekx⟩ : ∃ z, z = cs'.toArray := ⟨_, rfl⟩
    rw [← ekx] at hk hs h5 h1 ⊢
    clear ekx
    have hM1 := hM0.calls hb
    refine wl_pure (v := .tuple #[.agg kx, .bool ok]) (fun W => rfl) rfl ?_
    simp only [nm0, nm1, nm2, nm3]
    refine wl_pure (v := .agg kx) (fun W => rfl) rfl ?_
    simp only [nm0, nm1, nm2, nm3]
    refine wl_pure (v := .bool ok) (fun W => rfl) rfl ?_
    simp only [nm0, nm1, nm2, nm3]
    refine wl_new hM1 (f := fun b => .pointer (some ⟨b, 0, none⟩)) (fun W => run_alloc_of rfl (al_Nd W)) rfl fun b W2 hM2 => ?_
    simp only [nm0, nm1, nm2, nm3]
    refine wl_set hM2 0 (cs := kx) rfl rfl rfl rfl (by rw [h5]; exact rowNd) (by rw [h5]; rfl) h1 rfl rfl fun W3 hM3 => ?_
    simp only [nm2, nm3] at hM3
    refine wl_pure (v := .bool ok) (fun W => rfl) rfl ?_
    simp only [nm0, nm1, nm2, nm3]
    refine wpList_nil ?_
    go_upto_region 2 with fail
    refine wp_region_lit ?_
    refine wl_pure (v := .pointer (some ⟨b, 0, none⟩)) (fun W => run_field_of rfl rfl (fl_K _ W)) rfl ?_
    simp only [nm0, nm1, nm2, nm3]
    refine wl_cell hM3 0 (v := .int .i64 kd) rfl rfl rfl hk cellI rfl ?_
    simp only [nm0, nm1, nm2, nm3]
    obtain ⟨z, ez⟩ : ∃ z, z = (kd != 4) := ⟨_, rfl⟩
    refine wl_pure (v := .bool z) (fun W => by rw [ez]; rfl) rfl ?_
    simp only [nm0, nm1, nm2, nm3]
    refine wpList_nil ?_
    by_cases c4 : kd = 4
    · have hz : z = false := by rw [ez, c4]; rfl
      subst hz
      go_upto_region 4 with fail
      refine wp_region_lit ?_
      refine wl_pure (v := .pointer (some ⟨b, 2, none⟩)) (fun W => run_field_of rfl rfl (fl_S _ W)) rfl ?_
      simp only [nm0, nm1, nm2, nm3]
      refine wl_cell hM3 0 (v := .string st) rfl rfl rfl hs cellS rfl ?_
      simp only [nm0, nm1, nm2, nm3]
      refine wl_pure (v := .string st) (fun W => rfl) rfl ?_
      simp only [nm0, nm1, nm2, nm3]
      refine wl_pure (v := .bool true) (fun W => rfl) rfl ?_
      simp only [nm0, nm1, nm2, nm3]
      refine wpList_nil ?_
      have hr : rs = st ∧ rk = true := ⟨by rw [ER.out.1, if_pos c4], by rw [ER.out.2]; exact decide_eq_true c4⟩
      clear ER c4
      go_wp2_with fail
      rw [hr.1, hr.2]
      exact bodyPost_ret (v := .tuple #[.string st, .bool true]) (results_tt rfl rfl rfl) rfl ⟨rfl, hM3.below⟩
    · have hz : z = true := by rw [ez]; simpa using c4
      subst hz
      have hr : rs = ByteArray.empty ∧ rk = false := ⟨by rw [ER.out.1, if_neg c4], by rw [ER.out.2]; exact decide_eq_false c4⟩
      clear ER c4
      go_upto_region 3 with fail
      refine wp_region_lit ?_
      refine wl_pure (v := .string ByteArray.empty) (fun W => rfl) rfl ?_
      simp only [nm0, nm1, nm2, nm3]
      refine wl_pure (v := .bool false) (fun W => rfl) rfl ?_
      simp only [nm0, nm1, nm2, nm3]
      refine wpList_nil ?_
      go_wp2_with fail
      rw [hr.1, hr.2]
      exact bodyPost_ret (v := .tuple #[.string ByteArray.empty, .bool false]) (results_tt rfl rfl rfl) rfl ⟨rfl, hM3.below⟩
end Go.Proofs.Ytbheiglbejokmaa
