/- power.within (layer 57). -/
import Derived.Test.YtbheiglbejokmaaPowB
namespace Go.Proofs.Ytbheiglbejokmaa
set_option maxRecDepth 20000
set_option linter.unusedSimpArgs false
set_option linter.unusedVariables false
open Go.RowKit Go.Sort Go.Lib Go.Shelf
attribute [local go_sem] Oper.semAt_some
section
variable {P : Program} {w w' : World} {ops : Array Oper} {Q : Exit → Act → World → Prop} {o : Oper} {rest : List Oper} {A : Act}
theorem wl_val2 {v : Value} (h : (execOp A.eval o).run P w = .ok (.value v) w') (hgd : Region.wanted o (yielded ops A.tmps) = true) (hr : wpList P ops Q rest (A.put o.dst v) w') : wpList P ops Q (o :: rest) A w := by
  refine wpList_step fun K hK => ?_
  rw [if_pos hgd]
  unfold Oper.wp
  rw [h]
  exact hK _ _ hr
end
set_option maxRecDepth 100000 in
set_option maxHeartbeats 1000000 in
/-- power.within: the function, and the block that it holds: some node that is the one asked for, in a world of the call's. -/
theorem within_any (w : World) (cs : List Value) (N : Nd) (h : IsNd w cs N) (name : ByteArray) :
    Calls Try.prog 59 #[.agg cs.toArray, .string name] w fun e w' => ∃ (g : Nat) (cs' : List Value), IsNd w' cs' (N.get name) ∧ e = .returned (.func (.func 69) #[] #[.pointer (some ⟨g, 0, none⟩)]) ∧ w'.heap[g]? = some (.cells cs'.toArray 25 (0, 0)) ∧ w.heap.size ≤ g ∧ Below w.heap.size w w' := by
  have KG := Lib.hid (fun W hW => tget_any W cs N (h.keep hW) name)
  cases h with
  | @mk kind n s ks ls ak lk ck al ll cl kid hkind hn hs hk hl hlm hrow hkids =>
    obtain ⟨M, eM⟩ : ∃ M, M = (Nd.mk kind n s ks ls).get name := ⟨_, rfl⟩
    obtain ⟨ok, eok⟩ : ∃ b, b = (Nd.mk kind n s ks ls).has name := ⟨_, rfl⟩
    rw [← eM, ← eok] at KG
    rw [← eM]
    clear hkids hrow hk hkind hn hs eM eok
    go_enter Try.func59, Try.ntmps59
    go_upto_region 1 with fail
    have hM0 := (Mem.start w).new1 (.cells #[.int .i64 kind, .int .i64 n, .string s, .slice ak lk ck, .slice al ll cl] 25 (0, 0))
    refine wp_region_lit ?_
    refine wl_row hM0 0 (v := .agg #[.int .i64 kind, .int .i64 n, .string s, .slice ak lk ck, .slice al ll cl]) rfl rfl rfl rfl rowNd rfl ?_
    simp only [nm0, nm1, nm2, nm3]
    refine wl_pure (v := .string name) (fun W => rfl) rfl ?_
    simp only [nm0, nm1, nm2, nm3]
    refine wl_callX (args := #[.agg #[.int .i64 kind, .int .i64 n, .string s, .slice ak lk ck, .slice al ll cl], .string name]) (fun W => run_call_fn W (enters_of Try.func43 (by kernel_rfl) rfl) rfl (by simp [Act.eval])) (KG.out _ hM0.below) rfl ?_
    rintro e w2 ⟨cs', hN, rfl, hb⟩
    refine ⟨_, rfl, ?_⟩
    simp only [nm0, nm1, nm2, nm3]
    have h5 := isNd_len hN
    have h1 := isNd_one hN
    obtain ⟨kx, ekx⟩ : ∃ z, z = cs'.toArray := ⟨_, rfl⟩
    have hM1 := hM0.calls hb
    have HN := Lib.hid (hN.keep hb)
    have hb2 := hM1.below
    have EX := Lib.hid ekx
    rw [← ekx] at h5 h1 ⊢
    clear ekx hN
    refine wl_pure (v := .tuple #[.agg kx, .bool ok]) (fun W => rfl) rfl ?_
    simp only [nm0, nm1, nm2, nm3]
    refine wl_pure (v := .agg kx) (fun W => rfl) rfl ?_
    simp only [nm0, nm1, nm2, nm3]
    refine wl_pure (v := .bool ok) (fun W => rfl) rfl ?_
    simp only [nm0, nm1, nm2, nm3]
    refine wl_val2 (run_alloc_of rfl (al_Nd w2)) rfl ?_
    simp only [nm0, nm1, nm2, nm3]
    have hM2 := (Mem.start w2).new1 (.cells zeroC.toArray 25 (0, 0))
    refine wl_set hM2 0 (cs := kx) rfl rfl rfl rfl (by rw [h5]; exact rowNd) (by rw [h5]; rfl) h1 rfl rfl fun W3 hM3 => ?_
    simp only [nm2, nm3] at hM3
    refine wl_pure (v := .bool ok) (fun W => rfl) rfl ?_
    simp only [nm0, nm1, nm2, nm3]
    refine wpList_nil ?_
    have KA := Lib.hid (ask_any W3 cs' M (HN.out.keep hM3.below))
    rw [← EX.out] at KA
    go_upto_region 2 with fail
    refine wp_region_lit ?_
    refine wl_row hM3 0 (v := .agg kx) rfl rfl rfl rfl (by rw [h5]; exact rowNd) rfl ?_
    simp only [nm0, nm1, nm2, nm3]
    refine wl_callX (args := #[.agg kx]) (fun W => run_call_fn W (enters_of Try.func54 (by kernel_rfl) rfl) rfl (by simp [Act.eval])) KA.out rfl ?_
    rintro e w4 ⟨g, rfl, hg, hgs, hb4⟩
    refine ⟨_, rfl, ?_⟩
    simp only [nm0, nm1, nm2, nm3]
    refine wl_pure (v := .func (.func 69) #[] #[.pointer (some ⟨g, 0, none⟩)]) (fun W => rfl) rfl ?_
    simp only [nm0, nm1, nm2, nm3]
    refine wpList_nil ?_
    have hb3 := hM3.below
    have hbw := (hb2.trans (hb3.mono hb2.size)).trans (hb4.mono (Nat.le_trans hb2.size hb3.size))
    have hgw := Nat.le_trans (Nat.le_trans hb2.size hb3.size) hgs
    go_wp2_with fail
    exact bodyPost_ret (results_slot rfl rfl) rfl ⟨g, cs', (HN.out.keep hb3).keep hb4, rfl, by rw [← EX.out]; exact hg, hgw, hbw⟩
end Go.Proofs.Ytbheiglbejokmaa
