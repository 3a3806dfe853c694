/- The reference's User and Event (layer 57). -/
import Derived.Test.YtbheiglbejokmaaPowH
namespace Go.Proofs.Ytbheiglbejokmaa
set_option maxRecDepth 20000
set_option linter.unusedSimpArgs false
set_option linter.unusedVariables false
open Go.RowKit Go.Sort Go.Lib Go.MapKept
attribute [local go_sem] Oper.semAt_some
theorem lv_row (N : Nd) (r : List Value) (i : Nat) (h : i < 7) : (N.lvls.toList ++ r).toArray[i]? = N.lvls[i]? := by
  rw [List.getElem?_toArray, List.getElem?_append_left (by show i < 7; exact h)]
  simp
set_option maxRecDepth 100000 in
set_option maxHeartbeats 4000000 in
theorem ruser_any (w : World) (cs : List Value) (N : Nd) (h : IsNd w cs N) (u : ByteArray) :
    Calls Try.prog 31 #[.agg cs.toArray, .string u] w fun e w' => e = .returned (.int .i64 (N.user u)) ∧ Below w.heap.size w w' := by
  have HMIX := Lib.hid (show Try.prog.follows .mixedOrders = true by kernel_rfl)
  have KP := Lib.hid (fun W (hb : Below w.heap.size w W) => pget_any W cs N (h.keep hb) strUsers)
  have KO := Lib.hid (fun W (hb : Below w.heap.size w W) => rof_any W cs N (h.keep hb))
  have hcs := isNd_len h
  obtain ⟨ca, eca⟩ : ∃ z, z = cs.toArray := ⟨_, rfl⟩
  rw [← eca] at hcs KP KO ⊢
  obtain ⟨M, eM⟩ : ∃ z, z = N.get strUsers := ⟨_, rfl⟩
  rw [← eM] at KP
  obtain ⟨d6, ed6⟩ : ∃ z, z = N.lvl pnm6 0 := ⟨_, rfl⟩
  have h6 : N.lvls[6]? = some (.int .i64 d6) := by rw [ed6]; rfl
  have hrs : N.user u = M.lvl u d6 := by rw [eM, ed6]; rfl
  rw [hrs]
  obtain ⟨rs, ers⟩ : ∃ z, z = M.lvl u d6 := ⟨_, rfl⟩
  have KL := Lib.hid (fun W cs' (hN : IsNd W cs' M) => rlevel_any W cs' M hN u d6)
  rw [← ers] at KL ⊢
  have H6 := Lib.hid h6
  clear h eca eM ed6 ers hrs h6
  go_enter Try.func31, Try.ntmps31
  go_upto_region 0 with fail
  have hM0 := Mem.start w
  refine wp_region_lit ?_
  refine wl_new hM0 (f := fun b => .pointer (some ⟨b, 0, none⟩)) (ob := .cells ca 25 (0, 0)) (fun W => run_box_of rfl rfl (bx_Nd ca hcs W)) rfl fun b2 W1 hM1 => ?_
  simp only [nm0, nm1, nm2, nm3]
  refine wl_pure (v := .int .i64 0) (fun W => rfl) rfl ?_
  simp only [nm0, nm1, nm2, nm3]
  refine wpList_nil ?_
  go_upto_region 1 with fail
  have hMd := hM1.drew
  refine wp_region_noPanic (hold_begin (S := fun W => W.heap[b2]? = some (.cells ca 25 (0, 0))) (st := 7) HMIX.out ?_)
  change Hold _ _ _ _ _ _ 9 _ _ _
  generalize eV0 : W1.drew = V0 at hMd ⊢
  have hV0 := hMd
  clear hMd
  refine hl_take 0 5 [1, 4, 7] #[true, false, false, false, false, false, false, false, false] (by kernel_rfl) (v := .agg ca) rfl rfl (by kernel_rfl) (by kernel_rfl) (by kernel_rfl) (by kernel_rfl) (by kernel_rfl) (by kernel_rfl) rfl (fun W hW => run_load_row rfl rfl hW (by rw [hcs]; exact rowNd)) (hV0.get 0 rfl) ?_
  simp only [nm0, nm1, nm2, nm3]
  refine hl_pure 2 7 #[true, false, true, false, false, false, false, false, false] (by kernel_rfl) (v := .string u) rfl rfl (by kernel_rfl) rfl (by kernel_rfl) (by kernel_rfl) rfl (fun W => rfl) (hV0.get 0 rfl) ?_
  simp only [nm0, nm1, nm2, nm3]
  refine hl_take 3 8 [4, 7] #[true, false, true, true, false, false, false, false, false] (by kernel_rfl) (v := .agg ca) rfl rfl (by kernel_rfl) (by kernel_rfl) (by kernel_rfl) (by kernel_rfl) (by kernel_rfl) (by kernel_rfl) rfl (fun W hW => run_load_row rfl rfl hW (by rw [hcs]; exact rowNd)) (hV0.get 0 rfl) ?_
  simp only [nm0, nm1, nm2, nm3]
  refine hold_next (rs := [1]) (by kernel_rfl) (by simp) ?_
  intro i hi
  simp only [List.mem_cons, List.not_mem_nil, or_false] at hi
  subst hi
  refine hop_call (d := 6) (args := #[.agg ca, .string strUsers]) rfl rfl rfl (fun W => run_call_fn W (enters_of Try.func60 (by kernel_rfl) rfl) rfl (by simp [Act.eval]; try rfl)) (KP.out V0 hV0.below) #[true, true, true, true, false, false, false, false, false] (by kernel_rfl) ?_
  rintro e V1 ⟨cs1, hN1, rfl, hb1⟩
  have hV1 := hV0.calls hb1
  refine ⟨_, rfl, fun _ => hV1.get 0 rfl, ?_⟩
  simp only [nm0, nm1, nm2, nm3]
  refine hold_next (rs := [4]) (by kernel_rfl) (by simp) ?_
  intro i hi
  simp only [List.mem_cons, List.not_mem_nil, or_false] at hi
  subst hi
  refine hop_call (d := 9) (args := #[.agg ca]) rfl rfl rfl (fun W => run_call_fn W (enters_of Try.func29 (by kernel_rfl) rfl) rfl (by simp [Act.eval]; try rfl)) (KO.out V1 hV1.below) #[true, true, true, true, true, false, false, false, false] (by kernel_rfl) ?_
  rintro e V2 ⟨g, cap, r, rfl, hg, _, hb2⟩
  have hV2 := hV1.calls hb2
  refine ⟨_, rfl, fun _ => hV2.get 0 rfl, ?_⟩
  simp only [nm0, nm1, nm2, nm3]
  refine hl_pure 5 10 #[true, true, true, true, true, true, false, false, false] (by kernel_rfl) (v := .pointer (some ⟨g, 6, none⟩)) rfl rfl (by kernel_rfl) rfl (by kernel_rfl) (by kernel_rfl) rfl (fun W => run_index_of rfl rfl rfl (ix_J g 6 7 cap (by decide) W)) (hV2.get 0 rfl) ?_
  simp only [nm0, nm1, nm2, nm3]
  refine hold_next (rs := [6]) (by kernel_rfl) (by simp) ?_
  intro i hi
  simp only [List.mem_cons, List.not_mem_nil, or_false] at hi
  subst hi
  refine hop_val (d := 11) (v := .int .i64 d6) rfl rfl rfl (run_load_cell rfl rfl hg ((lv_row N r 6 (by decide)).trans H6.out) cellJ) #[true, true, true, true, true, true, true, false, false] (by kernel_rfl) (fun _ => hV2.get 0 rfl) ?_
  simp only [nm0, nm1, nm2, nm3]
  refine hold_next (rs := [7]) (by kernel_rfl) (by simp) ?_
  intro i hi
  simp only [List.mem_cons, List.not_mem_nil, or_false] at hi
  subst hi
  refine hop_call (d := 12) (args := #[.agg cs1.toArray, .string u, .int .i64 d6]) rfl rfl rfl (fun W => run_call_fn W (enters_of Try.func58 (by kernel_rfl) rfl) rfl (by simp [Act.eval]; try rfl)) (KL.out V2 cs1 ((hN1.keep hb1).keep hb2)) #[true, true, true, true, true, true, true, true, false] (by kernel_rfl) ?_
  rintro e V3 ⟨rfl, hb3⟩
  have hV3 := hV2.calls hb3
  refine ⟨_, rfl, fun _ => hV3.get 0 rfl, ?_⟩
  simp only [nm0, nm1, nm2, nm3]
  refine hl_pureS 8 4 #[true, true, true, true, true, true, true, true, true] (by kernel_rfl) (v := .int .i64 rs) rfl rfl (by kernel_rfl) rfl (by kernel_rfl) (by kernel_rfl) rfl (fun W => rfl) (by kernel_rfl) ?_
  simp only [nm0, nm1, nm2, nm3]
  refine hold_done (by kernel_rfl) ?_ _
  refine NoPanic.normal ?_
  have HB := Lib.hid hV3.below
  clear hM0 hM1 hV0 hV1 hV2 hV3 hb1 hb2 hb3 eV0 hN1 hg
  go_wp2_with fail
  exact bodyPost_ret (results_slot rfl rfl) rfl ⟨rfl, HB.out⟩
set_option maxRecDepth 100000 in
set_option maxHeartbeats 4000000 in
theorem revent_true (w : World) (cs : List Value) (N : Nd) (h : IsNd w cs N) (u : ByteArray) :
    Calls Try.prog 33 #[.agg cs.toArray, .string u, .bool true] w fun e w' => e = .returned (.int .i64 (N.event u true)) ∧ Below w.heap.size w w' := by
  have HMIX := Lib.hid (show Try.prog.follows .mixedOrders = true by kernel_rfl)
  have KP := Lib.hid (fun W (hb : Below w.heap.size w W) => pget_any W cs N (h.keep hb) strEvents)
  have KO := Lib.hid (fun W (hb : Below w.heap.size w W) => rof_any W cs N (h.keep hb))
  have hcs := isNd_len h
  obtain ⟨ca, eca⟩ : ∃ z, z = cs.toArray := ⟨_, rfl⟩
  rw [← eca] at hcs KP KO ⊢
  obtain ⟨M, eM⟩ : ∃ z, z = N.get strEvents := ⟨_, rfl⟩
  rw [← eM] at KP
  obtain ⟨d6, ed6⟩ : ∃ z, z = N.lvl pnm4 50 := ⟨_, rfl⟩
  have h6 : N.lvls[4]? = some (.int .i64 d6) := by rw [ed6]; rfl
  have hrs : N.event u true = M.lvl u d6 := by rw [eM, ed6]; rfl
  rw [hrs]
  obtain ⟨rs, ers⟩ : ∃ z, z = M.lvl u d6 := ⟨_, rfl⟩
  have KL := Lib.hid (fun W cs' (hN : IsNd W cs' M) => rlevel_any W cs' M hN u d6)
  rw [← ers] at KL ⊢
  have H6 := Lib.hid h6
  clear h eca eM ed6 ers hrs h6
  go_enter Try.func33, Try.ntmps33
  go_upto_region 0 with fail
  have hM0 := Mem.start w
  refine wp_region_lit ?_
  refine wl_new hM0 (f := fun b => .pointer (some ⟨b, 0, none⟩)) (ob := .cells ca 25 (0, 0)) (fun W => run_box_of rfl rfl (bx_Nd ca hcs W)) rfl fun b2 W1 hM1 => ?_
  simp only [nm0, nm1, nm2, nm3]
  refine wl_pure (v := .int .i64 0) (fun W => rfl) rfl ?_
  simp only [nm0, nm1, nm2, nm3]
  refine wpList_nil ?_
  go_upto_region 2 with fail
  have hMd := hM1.drew
  refine wp_region_noPanic (hold_begin (S := fun W => W.heap[b2]? = some (.cells ca 25 (0, 0))) (st := 7) HMIX.out ?_)
  change Hold _ _ _ _ _ _ 9 _ _ _
  generalize eV0 : W1.drew = V0 at hMd ⊢
  have hV0 := hMd
  clear hMd
  refine hl_take 0 8 [1, 4, 7] #[true, false, false, false, false, false, false, false, false] (by kernel_rfl) (v := .agg ca) rfl rfl (by kernel_rfl) (by kernel_rfl) (by kernel_rfl) (by kernel_rfl) (by kernel_rfl) (by kernel_rfl) rfl (fun W hW => run_load_row rfl rfl hW (by rw [hcs]; exact rowNd)) (hV0.get 0 rfl) ?_
  simp only [nm0, nm1, nm2, nm3]
  refine hl_pure 2 10 #[true, false, true, false, false, false, false, false, false] (by kernel_rfl) (v := .string u) rfl rfl (by kernel_rfl) rfl (by kernel_rfl) (by kernel_rfl) rfl (fun W => rfl) (hV0.get 0 rfl) ?_
  simp only [nm0, nm1, nm2, nm3]
  refine hl_take 3 11 [4, 7] #[true, false, true, true, false, false, false, false, false] (by kernel_rfl) (v := .agg ca) rfl rfl (by kernel_rfl) (by kernel_rfl) (by kernel_rfl) (by kernel_rfl) (by kernel_rfl) (by kernel_rfl) rfl (fun W hW => run_load_row rfl rfl hW (by rw [hcs]; exact rowNd)) (hV0.get 0 rfl) ?_
  simp only [nm0, nm1, nm2, nm3]
  refine hold_next (rs := [1]) (by kernel_rfl) (by simp) ?_
  intro i hi
  simp only [List.mem_cons, List.not_mem_nil, or_false] at hi
  subst hi
  refine hop_call (d := 9) (args := #[.agg ca, .string strEvents]) rfl rfl rfl (fun W => run_call_fn W (enters_of Try.func60 (by kernel_rfl) rfl) rfl (by simp [Act.eval]; try rfl)) (KP.out V0 hV0.below) #[true, true, true, true, false, false, false, false, false] (by kernel_rfl) ?_
  rintro e V1 ⟨cs1, hN1, rfl, hb1⟩
  have hV1 := hV0.calls hb1
  refine ⟨_, rfl, fun _ => hV1.get 0 rfl, ?_⟩
  simp only [nm0, nm1, nm2, nm3]
  refine hold_next (rs := [4]) (by kernel_rfl) (by simp) ?_
  intro i hi
  simp only [List.mem_cons, List.not_mem_nil, or_false] at hi
  subst hi
  refine hop_call (d := 12) (args := #[.agg ca]) rfl rfl rfl (fun W => run_call_fn W (enters_of Try.func29 (by kernel_rfl) rfl) rfl (by simp [Act.eval]; try rfl)) (KO.out V1 hV1.below) #[true, true, true, true, true, false, false, false, false] (by kernel_rfl) ?_
  rintro e V2 ⟨g, cap, r, rfl, hg, _, hb2⟩
  have hV2 := hV1.calls hb2
  refine ⟨_, rfl, fun _ => hV2.get 0 rfl, ?_⟩
  simp only [nm0, nm1, nm2, nm3]
  refine hl_pure 5 13 #[true, true, true, true, true, true, false, false, false] (by kernel_rfl) (v := .pointer (some ⟨g, 4, none⟩)) rfl rfl (by kernel_rfl) rfl (by kernel_rfl) (by kernel_rfl) rfl (fun W => run_index_of rfl rfl rfl (ix_J g 4 7 cap (by decide) W)) (hV2.get 0 rfl) ?_
  simp only [nm0, nm1, nm2, nm3]
  refine hold_next (rs := [6]) (by kernel_rfl) (by simp) ?_
  intro i hi
  simp only [List.mem_cons, List.not_mem_nil, or_false] at hi
  subst hi
  refine hop_val (d := 14) (v := .int .i64 d6) rfl rfl rfl (run_load_cell rfl rfl hg ((lv_row N r 4 (by decide)).trans H6.out) cellJ) #[true, true, true, true, true, true, true, false, false] (by kernel_rfl) (fun _ => hV2.get 0 rfl) ?_
  simp only [nm0, nm1, nm2, nm3]
  refine hold_next (rs := [7]) (by kernel_rfl) (by simp) ?_
  intro i hi
  simp only [List.mem_cons, List.not_mem_nil, or_false] at hi
  subst hi
  refine hop_call (d := 15) (args := #[.agg cs1.toArray, .string u, .int .i64 d6]) rfl rfl rfl (fun W => run_call_fn W (enters_of Try.func58 (by kernel_rfl) rfl) rfl (by simp [Act.eval]; try rfl)) (KL.out V2 cs1 ((hN1.keep hb1).keep hb2)) #[true, true, true, true, true, true, true, true, false] (by kernel_rfl) ?_
  rintro e V3 ⟨rfl, hb3⟩
  have hV3 := hV2.calls hb3
  refine ⟨_, rfl, fun _ => hV3.get 0 rfl, ?_⟩
  simp only [nm0, nm1, nm2, nm3]
  refine hl_pureS 8 6 #[true, true, true, true, true, true, true, true, true] (by kernel_rfl) (v := .int .i64 rs) rfl rfl (by kernel_rfl) rfl (by kernel_rfl) (by kernel_rfl) rfl (fun W => rfl) (by kernel_rfl) ?_
  simp only [nm0, nm1, nm2, nm3]
  refine hold_done (by kernel_rfl) ?_ _
  refine NoPanic.normal ?_
  have HB := Lib.hid hV3.below
  clear hM0 hM1 hV0 hV1 hV2 hV3 hb1 hb2 hb3 eV0 hN1 hg
  go_wp2_with fail
  exact bodyPost_ret (results_slot rfl rfl) rfl ⟨rfl, HB.out⟩
set_option maxRecDepth 100000 in
set_option maxHeartbeats 4000000 in
theorem revent_false (w : World) (cs : List Value) (N : Nd) (h : IsNd w cs N) (u : ByteArray) :
    Calls Try.prog 33 #[.agg cs.toArray, .string u, .bool false] w fun e w' => e = .returned (.int .i64 (N.event u false)) ∧ Below w.heap.size w w' := by
  have HMIX := Lib.hid (show Try.prog.follows .mixedOrders = true by kernel_rfl)
  have KP := Lib.hid (fun W (hb : Below w.heap.size w W) => pget_any W cs N (h.keep hb) strEvents)
  have KO := Lib.hid (fun W (hb : Below w.heap.size w W) => rof_any W cs N (h.keep hb))
  have hcs := isNd_len h
  obtain ⟨ca, eca⟩ : ∃ z, z = cs.toArray := ⟨_, rfl⟩
  rw [← eca] at hcs KP KO ⊢
  obtain ⟨M, eM⟩ : ∃ z, z = N.get strEvents := ⟨_, rfl⟩
  rw [← eM] at KP
  obtain ⟨d6, ed6⟩ : ∃ z, z = N.lvl pnm5 0 := ⟨_, rfl⟩
  have h6 : N.lvls[5]? = some (.int .i64 d6) := by rw [ed6]; rfl
  have hrs : N.event u false = M.lvl u d6 := by rw [eM, ed6]; rfl
  rw [hrs]
  obtain ⟨rs, ers⟩ : ∃ z, z = M.lvl u d6 := ⟨_, rfl⟩
  have KL := Lib.hid (fun W cs' (hN : IsNd W cs' M) => rlevel_any W cs' M hN u d6)
  rw [← ers] at KL ⊢
  have H6 := Lib.hid h6
  clear h eca eM ed6 ers hrs h6
  go_enter Try.func33, Try.ntmps33
  go_upto_region 0 with fail
  have hM0 := Mem.start w
  refine wp_region_lit ?_
  refine wl_new hM0 (f := fun b => .pointer (some ⟨b, 0, none⟩)) (ob := .cells ca 25 (0, 0)) (fun W => run_box_of rfl rfl (bx_Nd ca hcs W)) rfl fun b2 W1 hM1 => ?_
  simp only [nm0, nm1, nm2, nm3]
  refine wl_pure (v := .int .i64 0) (fun W => rfl) rfl ?_
  simp only [nm0, nm1, nm2, nm3]
  refine wpList_nil ?_
  go_upto_region 3 with fail
  have hMd := hM1.drew
  refine wp_region_noPanic (hold_begin (S := fun W => W.heap[b2]? = some (.cells ca 25 (0, 0))) (st := 7) HMIX.out ?_)
  change Hold _ _ _ _ _ _ 9 _ _ _
  generalize eV0 : W1.drew = V0 at hMd ⊢
  have hV0 := hMd
  clear hMd
  refine hl_take 0 16 [1, 4, 7] #[true, false, false, false, false, false, false, false, false] (by kernel_rfl) (v := .agg ca) rfl rfl (by kernel_rfl) (by kernel_rfl) (by kernel_rfl) (by kernel_rfl) (by kernel_rfl) (by kernel_rfl) rfl (fun W hW => run_load_row rfl rfl hW (by rw [hcs]; exact rowNd)) (hV0.get 0 rfl) ?_
  simp only [nm0, nm1, nm2, nm3]
  refine hl_pure 2 18 #[true, false, true, false, false, false, false, false, false] (by kernel_rfl) (v := .string u) rfl rfl (by kernel_rfl) rfl (by kernel_rfl) (by kernel_rfl) rfl (fun W => rfl) (hV0.get 0 rfl) ?_
  simp only [nm0, nm1, nm2, nm3]
  refine hl_take 3 19 [4, 7] #[true, false, true, true, false, false, false, false, false] (by kernel_rfl) (v := .agg ca) rfl rfl (by kernel_rfl) (by kernel_rfl) (by kernel_rfl) (by kernel_rfl) (by kernel_rfl) (by kernel_rfl) rfl (fun W hW => run_load_row rfl rfl hW (by rw [hcs]; exact rowNd)) (hV0.get 0 rfl) ?_
  simp only [nm0, nm1, nm2, nm3]
  refine hold_next (rs := [1]) (by kernel_rfl) (by simp) ?_
  intro i hi
  simp only [List.mem_cons, List.not_mem_nil, or_false] at hi
  subst hi
  refine hop_call (d := 17) (args := #[.agg ca, .string strEvents]) rfl rfl rfl (fun W => run_call_fn W (enters_of Try.func60 (by kernel_rfl) rfl) rfl (by simp [Act.eval]; try rfl)) (KP.out V0 hV0.below) #[true, true, true, true, false, false, false, false, false] (by kernel_rfl) ?_
  rintro e V1 ⟨cs1, hN1, rfl, hb1⟩
  have hV1 := hV0.calls hb1
  refine ⟨_, rfl, fun _ => hV1.get 0 rfl, ?_⟩
  simp only [nm0, nm1, nm2, nm3]
  refine hold_next (rs := [4]) (by kernel_rfl) (by simp) ?_
  intro i hi
  simp only [List.mem_cons, List.not_mem_nil, or_false] at hi
  subst hi
  refine hop_call (d := 20) (args := #[.agg ca]) rfl rfl rfl (fun W => run_call_fn W (enters_of Try.func29 (by kernel_rfl) rfl) rfl (by simp [Act.eval]; try rfl)) (KO.out V1 hV1.below) #[true, true, true, true, true, false, false, false, false] (by kernel_rfl) ?_
  rintro e V2 ⟨g, cap, r, rfl, hg, _, hb2⟩
  have hV2 := hV1.calls hb2
  refine ⟨_, rfl, fun _ => hV2.get 0 rfl, ?_⟩
  simp only [nm0, nm1, nm2, nm3]
  refine hl_pure 5 21 #[true, true, true, true, true, true, false, false, false] (by kernel_rfl) (v := .pointer (some ⟨g, 5, none⟩)) rfl rfl (by kernel_rfl) rfl (by kernel_rfl) (by kernel_rfl) rfl (fun W => run_index_of rfl rfl rfl (ix_J g 5 7 cap (by decide) W)) (hV2.get 0 rfl) ?_
  simp only [nm0, nm1, nm2, nm3]
  refine hold_next (rs := [6]) (by kernel_rfl) (by simp) ?_
  intro i hi
  simp only [List.mem_cons, List.not_mem_nil, or_false] at hi
  subst hi
  refine hop_val (d := 22) (v := .int .i64 d6) rfl rfl rfl (run_load_cell rfl rfl hg ((lv_row N r 5 (by decide)).trans H6.out) cellJ) #[true, true, true, true, true, true, true, false, false] (by kernel_rfl) (fun _ => hV2.get 0 rfl) ?_
  simp only [nm0, nm1, nm2, nm3]
  refine hold_next (rs := [7]) (by kernel_rfl) (by simp) ?_
  intro i hi
  simp only [List.mem_cons, List.not_mem_nil, or_false] at hi
  subst hi
  refine hop_call (d := 23) (args := #[.agg cs1.toArray, .string u, .int .i64 d6]) rfl rfl rfl (fun W => run_call_fn W (enters_of Try.func58 (by kernel_rfl) rfl) rfl (by simp [Act.eval]; try rfl)) (KL.out V2 cs1 ((hN1.keep hb1).keep hb2)) #[true, true, true, true, true, true, true, true, false] (by kernel_rfl) ?_
  rintro e V3 ⟨rfl, hb3⟩
  have hV3 := hV2.calls hb3
  refine ⟨_, rfl, fun _ => hV3.get 0 rfl, ?_⟩
  simp only [nm0, nm1, nm2, nm3]
  refine hl_pureS 8 6 #[true, true, true, true, true, true, true, true, true] (by kernel_rfl) (v := .int .i64 rs) rfl rfl (by kernel_rfl) rfl (by kernel_rfl) (by kernel_rfl) rfl (fun W => rfl) (by kernel_rfl) ?_
  simp only [nm0, nm1, nm2, nm3]
  refine hold_done (by kernel_rfl) ?_ _
  refine NoPanic.normal ?_
  have HB := Lib.hid hV3.below
  clear hM0 hM1 hV0 hV1 hV2 hV3 hb1 hb2 hb3 eV0 hN1 hg
  go_wp2_with fail
  exact bodyPost_ret (results_slot rfl rfl) rfl ⟨rfl, HB.out⟩
theorem revent_any (w : World) (cs : List Value) (N : Nd) (h : IsNd w cs N) (u : ByteArray) (s : Bool) :
    Calls Try.prog 33 #[.agg cs.toArray, .string u, .bool s] w fun e w' => e = .returned (.int .i64 (N.event u s)) ∧ Below w.heap.size w w' := by
  cases s with
  | true => exact revent_true w cs N h u
  | false => exact revent_false w cs N h u
theorem fl_Lv0 (b : Nat) (W : World) : (Instr.fieldAt 53 (.pointer (some ⟨b, 0, none⟩)) 0).run Try.prog W = .ok (.pointer (some ⟨b, 0, none⟩)) W := by kernel_rfl
theorem fl_Lv3 (b : Nat) (W : World) : (Instr.fieldAt 53 (.pointer (some ⟨b, 0, none⟩)) 3).run Try.prog W = .ok (.pointer (some ⟨b, 3, none⟩)) W := by kernel_rfl
/-- A list of five cells out of an array of five. -/
theorem five_of {w : World} {cs : List Value} {N : Nd} (h : IsNd w cs N) : ∃ a b c d e : Value, cs = [a, b, c, d, e] := by cases h; exact ⟨_, _, _, _, _, rfl⟩
def strAB : ByteArray := ⟨#[64, 97, 58, 98]⟩
def exP : Nd := .mk 6 0 ByteArray.empty [strUsers] [.mk 6 0 ByteArray.empty [strAB] [.mk 3 100 ByteArray.empty [] []]]
def exE : Nd := .mk 6 0 ByteArray.empty [] []
theorem exP_user : exP.user strAB = 100 := by decide +kernel
theorem exE_0 : exE.lvls[0]? = some (.int .i64 50) := by rw [show exE.lvls[0]? = some (.int .i64 (exE.lvl pnm0 50)) from rfl, show exE.lvl pnm0 50 = 50 from by decide +kernel]
theorem exE_3 : exE.lvls[3]? = some (.int .i64 0) := by rw [show exE.lvls[3]? = some (.int .i64 (exE.lvl pnm3 0)) from rfl, show exE.lvl pnm3 0 = 0 from by decide +kernel]
theorem nds0 (w : World) : IsNds w none 0 (fun _ => []) [] := ⟨rfl, Nat.zero_le _, ⟨fun h => absurd h (by omega)⟩, fun i hi => absurd hi (by simp)⟩
set_option maxRecDepth 100000 in
set_option maxHeartbeats 4000000 in
theorem lives57_any (w : World) : Calls Try.prog 27 #[] w fun e w' => e = .returned (.bool true) ∧ Below w.heap.size w w' := by
  have hM0 := Mem.start w
  go_enter Try.func27, Try.ntmps27
  go_upto_region 1 with fail
  refine wp_region_lit ?_
  refine wl_callX (args := #[.slice none 0 0]) (fun W => run_call_fn W (enters_of Try.func35 (by kernel_rfl) rfl) rfl (by simp [Act.eval]; try rfl)) (map_any w _ 0 0 _ _ (nds0 w) (by decide) (by decide)) rfl ?_
  rintro e W1 ⟨cs0, hN0, rfl, hb1⟩
  refine ⟨_, rfl, ?_⟩
  simp only [nm0, nm1, nm2, nm3]
  have hM1 := hM0.calls hb1
  have hN0 : IsNd W1 cs0 exE := hN0
  refine wl_callX (args := #[.agg cs0.toArray]) (fun W => run_call_fn W (enters_of Try.func28 (by kernel_rfl) rfl) rfl (by simp [Act.eval]; try rfl)) (of_any W1 cs0 exE hN0) rfl ?_
  rintro e W2 ⟨rfl, hb2⟩
  refine ⟨_, rfl, ?_⟩
  simp only [nm0, nm1, nm2, nm3]
  have hM2 := hM1.calls hb2
  obtain ⟨LV, eLV⟩ : ∃ z, z = exE.lvls := ⟨_, rfl⟩
  have hs7 : LV.size = 7 := by rw [eLV]; rfl
  have ho7 : LV.all (·.oneCell') = true := by rw [eLV]; exact lvls_one _
  have h0 : LV[0]? = some (.int .i64 50) := by rw [eLV]; exact exE_0
  have h3 : LV[3]? = some (.int .i64 0) := by rw [eLV]; exact exE_3
  rw [← eLV]
  clear eLV hN0
  refine wl_new hM2 (f := fun b => .pointer (some ⟨b, 0, none⟩)) (fun W => run_alloc_of rfl (al_Lv W)) rfl fun b1 W3 hM3 => ?_
  simp only [nm0, nm1, nm2, nm3]
  refine wl_set hM3 0 (cs := LV) rfl rfl rfl rfl (by rw [hs7]; exact rowLv) (by rw [hs7]; rfl) ho7 rfl rfl fun W4 hM4 => ?_
  simp only [nm2, nm3] at hM4
  refine wpList_nil ?_
  go_upto_region 2 with fail
  refine wp_region_lit ?_
  refine wl_call hM4 (args := #[.string strUsers]) (v := .agg #[.int .i64 4, .int .i64 0, .string strUsers, .slice none 0 0, .slice none 0 0]) (fun W => run_call_fn W (enters_of Try.func36 (by kernel_rfl) rfl) rfl (by simp [Act.eval]; try rfl)) (text_any W4 strUsers) rfl fun W5 hM5 => ?_
  simp only [nm0, nm1, nm2, nm3]
  refine wl_call hM5 (args := #[.string strAB]) (v := .agg #[.int .i64 4, .int .i64 0, .string strAB, .slice none 0 0, .slice none 0 0]) (fun W => run_call_fn W (enters_of Try.func36 (by kernel_rfl) rfl) rfl (by simp [Act.eval]; try rfl)) (text_any W5 strAB) rfl fun W6 hM6 => ?_
  simp only [nm0, nm1, nm2, nm3]
  refine wl_call hM6 (args := #[.int .i64 100]) (v := .agg #[.int .i64 3, .int .i64 100, .string ByteArray.empty, .slice none 0 0, .slice none 0 0]) (fun W => run_call_fn W (enters_of Try.func37 (by kernel_rfl) rfl) rfl (by simp [Act.eval]; try rfl)) (int_any W6 100) rfl fun W7 hM7 => ?_
  simp only [nm0, nm1, nm2, nm3]
  refine wl_new hM7 (f := fun b => .slice (some ⟨b, 0, none⟩) 2 2) (fun W => run_slice_of rfl (by simp [Act.eval]) (bs_nd2 (.int .i64 4) (.int .i64 0) (.string strAB) (.slice none 0 0) (.slice none 0 0) (.int .i64 3) (.int .i64 100) (.string ByteArray.empty) (.slice none 0 0) (.slice none 0 0) W)) rfl fun g1 W8 hM8 => ?_
  simp only [nm0, nm1, nm2, nm3]
  have hnds : IsNds W8 (some ⟨g1, 0, none⟩) 2 (fun i => if i = 0 then [.int .i64 4, .int .i64 0, .string strAB, .slice none 0 0, .slice none 0 0] else [.int .i64 3, .int .i64 100, .string ByteArray.empty, .slice none 0 0, .slice none 0 0]) [.mk 4 0 strAB [] [], .mk 3 100 ByteArray.empty [] []] := nds2 (isNd_text W8 strAB (by decide)) (isNd_int W8 100 (by decide)) (hM8.get 0 rfl)
  refine wl_callX (args := #[.slice (some ⟨g1, 0, none⟩) 2 2]) (fun W => run_call_fn W (enters_of Try.func35 (by kernel_rfl) rfl) rfl (by simp [Act.eval]; try rfl)) (map_any W8 _ 2 2 _ _ hnds (by decide) (by decide)) rfl ?_
  rintro e W9 ⟨cs1, hN1, rfl, hb9⟩
  refine ⟨_, rfl, ?_⟩
  simp only [nm0, nm1, nm2, nm3]
  have hM9 := hM8.calls hb9
  obtain ⟨a0, a1, a2, a3, a4, rfl⟩ := five_of hN1
  refine wl_new (Mem.start W9) (f := fun b => .slice (some ⟨b, 0, none⟩) 2 2) (fun W => run_slice_of rfl (by simp [Act.eval]) (bs_nd2 (.int .i64 4) (.int .i64 0) (.string strUsers) (.slice none 0 0) (.slice none 0 0) a0 a1 a2 a3 a4 W)) rfl fun g2 X1 hX1 => ?_
  simp only [nm0, nm1, nm2, nm3]
  have hN1b := hN1.keep hX1.below
  have hM10 := hM9.calls hX1.below
  have hnds2 : IsNds X1 (some ⟨g2, 0, none⟩) 2 (fun i => if i = 0 then [.int .i64 4, .int .i64 0, .string strUsers, .slice none 0 0, .slice none 0 0] else [a0, a1, a2, a3, a4]) [.mk 4 0 strUsers [] [], .mk 6 0 ByteArray.empty [strAB] [.mk 3 100 ByteArray.empty [] []]] := nds2 (isNd_text X1 strUsers (by decide)) hN1b (hX1.get 0 rfl)
  refine wl_callX (args := #[.slice (some ⟨g2, 0, none⟩) 2 2]) (fun W => run_call_fn W (enters_of Try.func35 (by kernel_rfl) rfl) rfl (by simp [Act.eval]; try rfl)) (map_any X1 _ 2 2 _ _ hnds2 (by decide) (by decide)) rfl ?_
  rintro e X2 ⟨cs2, hN2, rfl, hbx⟩
  refine ⟨_, rfl, ?_⟩
  simp only [nm0, nm1, nm2, nm3]
  have hM11 := hM10.calls hbx
  have hN2 : IsNd X2 cs2 exP := hN2
  have h5 := isNd_len hN2
  have h1 := isNd_one hN2
  have KU := Lib.hid (fun W (hb : Below X2.heap.size X2 W) => user_any W cs2 exP (hN2.keep hb) strAB)
  rw [exP_user] at KU
  obtain ⟨kx, ekx⟩ : ∃ z, z = cs2.toArray := ⟨_, rfl⟩
  rw [← ekx] at h5 h1 KU ⊢
  clear ekx hN2 hnds2 hN1b hN1 hnds
  refine wl_new (Mem.start X2) (f := fun b => .pointer (some ⟨b, 0, none⟩)) (fun W => run_alloc_of rfl (al_Nd W)) rfl fun b2 X3 hX3 => ?_
  simp only [nm0, nm1, nm2, nm3]
  refine wl_set hX3 0 (cs := kx) rfl rfl rfl rfl (by rw [h5]; exact rowNd) (by rw [h5]; rfl) h1 rfl rfl fun X4 hX4 => ?_
  simp only [nm2, nm3] at hX4
  refine wpList_nil ?_
  have hM12 := hM11.calls hX4.below
  have hMb := hM12.tail
  go_upto_region 3 with fail
  refine wp_region_lit ?_
  refine wl_pure (v := .pointer (some ⟨b1, 0, none⟩)) (fun W => run_field_of rfl rfl (fl_Lv0 _ W)) rfl ?_
  simp only [nm0, nm1, nm2, nm3]
  refine wl_cell hMb 0 (v := .int .i64 50) rfl rfl rfl h0 cellJ rfl ?_
  simp only [nm0, nm1, nm2, nm3]
  refine wl_pure (v := .bool true) (fun W => by go_simp) rfl ?_
  simp only [nm0, nm1, nm2, nm3]
  refine wl_pure (v := .bool true) (fun W => rfl) rfl ?_
  simp only [nm0, nm1, nm2, nm3]
  refine wl_pure (v := .pointer (some ⟨b1, 3, none⟩)) (fun W => run_field_of rfl rfl (fl_Lv3 _ W)) rfl ?_
  simp only [nm0, nm1, nm2, nm3]
  refine wl_cell hMb 0 (v := .int .i64 0) rfl rfl rfl h3 cellJ rfl ?_
  simp only [nm0, nm1, nm2, nm3]
  refine wl_pure (v := .bool true) (fun W => by go_simp) rfl ?_
  simp only [nm0, nm1, nm2, nm3]
  refine wl_pure (v := .bool true) (fun W => rfl) rfl ?_
  simp only [nm0, nm1, nm2, nm3]
  refine wl_pure (v := .bool true) (fun W => rfl) rfl ?_
  simp only [nm0, nm1, nm2, nm3]
  refine wl_row hX4 0 (v := .agg kx) rfl rfl rfl rfl (by rw [h5]; exact rowNd) rfl ?_
  simp only [nm0, nm1, nm2, nm3]
  refine wl_callX (args := #[.agg kx, .string strAB]) (fun W => run_call_fn W (enters_of Try.func30 (by kernel_rfl) rfl) rfl (by simp [Act.eval]; try rfl)) (KU.out X4 hX4.below) rfl ?_
  rintro e X5 ⟨rfl, hb12⟩
  refine ⟨_, rfl, ?_⟩
  simp only [nm0, nm1, nm2, nm3]
  have hM13 := hM12.calls hb12
  refine wl_pure (v := .bool true) (fun W => by go_simp) rfl ?_
  simp only [nm0, nm1, nm2, nm3]
  refine wl_pure (v := .bool true) (fun W => rfl) rfl ?_
  simp only [nm0, nm1, nm2, nm3]
  refine wl_pure (v := .bool true) (fun W => rfl) rfl ?_
  simp only [nm0, nm1, nm2, nm3]
  refine wpList_nil ?_
  have HB := Lib.hid hM13.below
  clear hM0 hM1 hM2 hM3 hM4 hM5 hM6 hM7 hM8 hM9 hM10 hM11 hM12 hM13 hMb hX1 hX3 hX4 KU h0 h3 hb1 hb2 hb9 hbx hb12
  go_wp2_with fail
  exact bodyPost_ret (results_slot rfl rfl) rfl ⟨rfl, HB.out⟩
end Go.Proofs.Ytbheiglbejokmaa
