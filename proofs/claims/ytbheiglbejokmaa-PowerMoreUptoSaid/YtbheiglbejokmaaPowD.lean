/- The reference's get (layer 57). -/
import Derived.Test.YtbheiglbejokmaaPowC
namespace Go.Proofs.Ytbheiglbejokmaa
set_option maxRecDepth 20000
set_option linter.unusedSimpArgs false
set_option linter.unusedVariables false
open Go.RowKit Go.Sort Go.Lib Go.Shelf
attribute [local go_sem] Oper.semAt_some
set_option maxRecDepth 100000 in
set_option maxHeartbeats 1000000 in
theorem pget_any (w : World) (cs : List Value) (N : Nd) (h : IsNd w cs N) (name : ByteArray) :
    Calls Try.prog 60 #[.agg cs.toArray, .string name] w fun e w' => ∃ cs' : List Value, IsNd w cs' (N.get name) ∧ e = .returned (.agg cs'.toArray) ∧ Below w.heap.size w w' := by
  have KG := Lib.hid (fun W hW => rget_from w W cs N h hW name)
  cases h with
  | @mk kind n s ks ls ak lk ck al ll cl kid hkind hn hs hk hl hlm hrow hkids =>
    obtain ⟨M, eM⟩ : ∃ M, M = (Nd.mk kind n s ks ls).get name := ⟨_, rfl⟩
    obtain ⟨ok, eok⟩ : ∃ b, b = (Nd.mk kind n s ks ls).has name := ⟨_, rfl⟩
    rw [← eM, ← eok] at KG
    rw [← eM]
    clear hkids hrow hk hkind hn hs eM eok
    go_enter Try.func60, Try.ntmps60
    go_upto_region 1 with fail
    have hM0 := ((Mem.start w).new1 (.cells #[.int .i64 kind, .int .i64 n, .string s, .slice ak lk ck, .slice al ll cl] 25 (0, 0))).new1 (.cells zeroC.toArray 25 (0, 0))
    simp only [World.size_alloc] at hM0
    refine wp_region_lit ?_
    refine wl_row hM0 1 (v := .agg #[.int .i64 kind, .int .i64 n, .string s, .slice ak lk ck, .slice al ll cl]) rfl rfl rfl rfl rowNd rfl ?_
    simp only [nm0, nm1, nm2, nm3]
    refine wl_pure (v := .string name) (fun W => rfl) rfl ?_
    simp only [nm0, nm1, nm2, nm3]
    refine wl_callX (args := #[.agg #[.int .i64 kind, .int .i64 n, .string s, .slice ak lk ck, .slice al ll cl], .string name]) (fun W => run_call_fn W (enters_of Try.func44 (by kernel_rfl) rfl) rfl (by simp [Act.eval])) (KG.out _ hM0.below) rfl ?_
    rintro e w2 ⟨cs', hN, rfl, hb⟩
    refine ⟨_, rfl, ?_⟩
    simp only [nm0, nm1, nm2, nm3]
    have h5 := isNd_len hN
    have h1 := isNd_one hN
    obtain ⟨kx, ekx⟩ : ∃ z, z = cs'.toArray := ⟨_, rfl⟩
    have hM1 := hM0.calls hb
    have HN := Lib.hid hN
    have EX := Lib.hid ekx
    rw [← ekx] at h5 h1 ⊢
    clear ekx hN
    refine wl_pure (v := .tuple #[.agg kx, .bool ok]) (fun W => rfl) rfl ?_
    simp only [nm0, nm1, nm2, nm3]
    refine wl_pure (v := .agg kx) (fun W => rfl) rfl ?_
    simp only [nm0, nm1, nm2, nm3]
    refine wl_pure (v := .bool ok) (fun W => rfl) rfl ?_
    simp only [nm0, nm1, nm2, nm3]
    refine wl_val2 (run_alloc_of rfl (al_Nd w2)) rfl ?_
    simp only [nm0, nm1, nm2, nm3]
    have hM2 := hM1.new1 (.cells zeroC.toArray 25 (0, 0))
    refine wl_to (run_store_whole (hM2.get 0 rfl) rfl rfl rfl (by rw [h5]; exact rowNd) (by rw [h5]; rfl) h1) rfl rfl ?_
    have hM3 := hM2.set (cs := kx) 0 rfl
    refine wl_pure (v := .bool ok) (fun W => rfl) rfl ?_
    simp only [nm0, nm1, nm2, nm3]
    refine wpList_nil ?_
    go_upto_region 2 with fail
    refine wp_region_lit ?_
    refine wl_row hM3 0 (v := .agg kx) rfl rfl rfl rfl (by rw [h5]; exact rowNd) rfl ?_
    simp only [nm0, nm1, nm2, nm3]
    refine wl_to (run_store_whole (hM3.get 1 rfl) rfl rfl rfl (by rw [h5]; exact rowNd) (by rw [h5]; rfl) h1) rfl rfl ?_
    have hM4 := hM3.set (cs := kx) 1 rfl
    refine wpList_nil ?_
    go_wp2_with fail
    exact bodyPost_ret (results_c rfl rfl (hM4.load 1 rfl (by rw [h5]; exact rowNd))) rfl ⟨cs', HN.out, by rw [← EX.out], hM4.below⟩
end Go.Proofs.Ytbheiglbejokmaa
