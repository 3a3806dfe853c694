/- power.User, Event, May (layer 57). -/
import Derived.Test.YtbheiglbejokmaaPowF
namespace Go.Proofs.Ytbheiglbejokmaa
set_option maxRecDepth 20000
set_option linter.unusedSimpArgs false
set_option linter.unusedVariables false
open Go.RowKit Go.Sort Go.Lib Go.MapKept
attribute [local go_sem] Oper.semAt_some
def strUsers : ByteArray := ⟨#[117, 115, 101, 114, 115]⟩
def strEvents : ByteArray := ⟨#[101, 118, 101, 110, 116, 115]⟩
def Nd.user (N : Nd) (u : ByteArray) : Int := (N.get strUsers).lvl u (N.lvl pnm6 0)
def Nd.event (N : Nd) (k : ByteArray) (s : Bool) : Int := (N.get strEvents).lvl k (if s = true then N.lvl pnm4 50 else N.lvl pnm5 0)
def tIs (N : Nd) (k : ByteArray) : Bool := decide ((N.get k).kind = 3)
def tLv (N : Nd) (k : ByteArray) : Int := if (N.get k).kind = 3 then (N.get k).num else 0
theorem lvl_told (N : Nd) (k : ByteArray) (d : Int) : (if tIs N k = false ∧ tLv N k = 0 then d else tLv N k) = N.lvl k d := by
  unfold tIs tLv Nd.lvl
  by_cases c : (N.get k).kind = 3 <;> simp [c]
theorem fd_Lv6 (a0 a1 a2 a3 a4 a5 a6 : Int) (W : World) : (Instr.field 53 (.agg #[.int .i64 a0, .int .i64 a1, .int .i64 a2, .int .i64 a3, .int .i64 a4, .int .i64 a5, .int .i64 a6]) 6).run Try.prog W = .ok (.int .i64 a6) W := by kernel_rfl
theorem run_fd_of {P : Program} {o : Oper} {A : Act} {W : World} {t : TypeId} {x : Operand} {u v : Value} {i : Nat} (ho : o.op = .field t x i) (hx : A.eval x = u) (h : (Instr.field t u i).run P W = .ok v W) : (execOp A.eval o).run P W = .ok (.value v) W := by
  unfold execOp
  simp only [ho, hx, Sem.run_bind, h, Result.andThen_ok]
  rfl
set_option maxRecDepth 100000 in
set_option maxHeartbeats 4000000 in
theorem user_any (w : World) (cs : List Value) (N : Nd) (h : IsNd w cs N) (u : ByteArray) :
    Calls Try.prog 30 #[.agg cs.toArray, .string u] w fun e w' => e = .returned (.int .i64 (N.user u)) ∧ Below w.heap.size w w' := by
  have HMIX := Lib.hid (show Try.prog.follows .mixedOrders = true by kernel_rfl)
  have KI := Lib.hid (fun W (hb : Below w.heap.size w W) => within_any W cs N (h.keep hb) strUsers)
  have KO := Lib.hid (fun W (hb : Below w.heap.size w W) => of_any W cs N (h.keep hb))
  have hcs := isNd_len h
  obtain ⟨ca, eca⟩ : ∃ z, z = cs.toArray := ⟨_, rfl⟩
  rw [← eca] at hcs KI KO ⊢
  obtain ⟨M, eM⟩ : ∃ z, z = N.get strUsers := ⟨_, rfl⟩
  rw [← eM] at KI
  obtain ⟨d6, ed6⟩ : ∃ z, z = N.lvl pnm6 0 := ⟨_, rfl⟩
  obtain ⟨rs, ers⟩ : ∃ z, z = N.user u := ⟨_, rfl⟩
  obtain ⟨ik, eik⟩ : ∃ z, z = tIs M u := ⟨_, rfl⟩
  obtain ⟨lv, elv⟩ : ∃ z, z = tLv M u := ⟨_, rfl⟩
  have HRS : Hid ((if ik = false ∧ lv = 0 then d6 else lv) = rs) := Lib.hid (by rw [eik, elv, lvl_told, ers, eM, ed6]; rfl)
  have K1 := Lib.hid (fun W cs' (hN : IsNd W cs' M) g hg => ask1_any W cs' M hN g hg u)
  change Hid (∀ W cs', IsNd W cs' M → ∀ g, _ → Calls _ _ _ _ fun e w' => e = .returned (.agg #[.bool (tIs M u), .int .i64 (tLv M u)]) ∧ _) at K1
  rw [← eik, ← elv] at K1
  obtain ⟨LV, eLV⟩ : ∃ z, z = N.lvls := ⟨_, rfl⟩
  have hfd : Hid (∀ W : World, (Instr.field 53 (.agg LV) 6).run Try.prog W = .ok (.int .i64 d6) W) := Lib.hid (fun W => by rw [eLV, ed6]; exact fd_Lv6 _ _ _ _ _ _ _ W)
  rw [← eLV] at KO
  rw [← ers]
  clear h eca eM ed6 ers eik elv eLV
  go_enter Try.func30, Try.ntmps30
  go_upto_region 0 with fail
  have hM0 := Mem.start w
  refine wp_region_lit ?_
  refine wl_new hM0 (f := fun b => .pointer (some ⟨b, 0, none⟩)) (ob := .cells ca 25 (0, 0)) (fun W => run_box_of rfl rfl (bx_Nd ca hcs W)) rfl fun b2 W1 hM1 => ?_
  simp only [nm0, nm1, nm2, nm3]
  refine wl_pure (v := .int .i64 0) (fun W => rfl) rfl ?_
  simp only [nm0, nm1, nm2, nm3]
  refine wpList_nil ?_
  go_upto_region 1 with fail
  have hMd := hM1.drew
  refine wp_region_noPanic (hold_begin (S := fun W => W.heap[b2]? = some (.cells ca 25 (0, 0))) (st := 7) HMIX.out ?_)
  change Hold _ _ _ _ _ _ 9 _ _ _
  generalize eV0 : W1.drew = V0 at hMd ⊢
  have hV0 := hMd
  clear hMd
  refine hl_take 0 5 [1, 3, 5, 7] #[true, false, false, false, false, false, false, false, false] (by kernel_rfl) (v := .agg ca) rfl rfl (by kernel_rfl) (by kernel_rfl) (by kernel_rfl) (by kernel_rfl) (by kernel_rfl) (by kernel_rfl) rfl (fun W hW => run_load_row rfl rfl hW (by rw [hcs]; exact rowNd)) (hV0.get 0 rfl) ?_
  simp only [nm0, nm1, nm2, nm3]
  refine hl_pure 2 7 #[true, false, true, false, false, false, false, false, false] (by kernel_rfl) (v := .string u) rfl rfl (by kernel_rfl) rfl (by kernel_rfl) (by kernel_rfl) rfl (fun W => rfl) (hV0.get 0 rfl) ?_
  simp only [nm0, nm1, nm2, nm3]
  refine hl_take 4 9 [5, 7] #[true, false, true, false, true, false, false, false, false] (by kernel_rfl) (v := .agg ca) rfl rfl (by kernel_rfl) (by kernel_rfl) (by kernel_rfl) (by kernel_rfl) (by kernel_rfl) (by kernel_rfl) rfl (fun W hW => run_load_row rfl rfl hW (by rw [hcs]; exact rowNd)) (hV0.get 0 rfl) ?_
  simp only [nm0, nm1, nm2, nm3]
  refine hold_next (rs := [1]) (by kernel_rfl) (by simp) ?_
  intro i hi
  simp only [List.mem_cons, List.not_mem_nil, or_false] at hi
  subst hi
  refine hop_call (d := 6) (args := #[.agg ca, .string strUsers]) rfl rfl rfl (fun W => run_call_fn W (enters_of Try.func59 (by kernel_rfl) rfl) rfl (by simp [Act.eval]; try rfl)) (KI.out V0 hV0.below) #[true, true, true, false, true, false, false, false, false] (by kernel_rfl) ?_
  rintro e V1 ⟨g, cs1, hN1, rfl, hg1, _, hb1⟩
  have hV1 := hV0.calls hb1
  refine ⟨_, rfl, fun _ => hV1.get 0 rfl, ?_⟩
  simp only [nm0, nm1, nm2, nm3]
  refine hold_next (rs := [3]) (by kernel_rfl) (by simp) ?_
  intro i hi
  simp only [List.mem_cons, List.not_mem_nil, or_false] at hi
  subst hi
  refine hop_call (d := 8) (args := #[.string u, .pointer (some ⟨g, 0, none⟩)]) rfl rfl rfl (fun W => run_call_dyn W (enters_of Try.func69 (by kernel_rfl) rfl) rfl rfl (by simp [Act.eval]; rfl) rfl) (K1.out V1 cs1 hN1 g hg1) #[true, true, true, true, true, false, false, false, false] (by kernel_rfl) ?_
  rintro e V2 ⟨rfl, hb2⟩
  have hV2 := hV1.calls hb2
  refine ⟨_, rfl, fun _ => hV2.get 0 rfl, ?_⟩
  simp only [nm0, nm1, nm2, nm3]
  refine hold_next (rs := [5]) (by kernel_rfl) (by simp) ?_
  intro i hi
  simp only [List.mem_cons, List.not_mem_nil, or_false] at hi
  subst hi
  refine hop_call (d := 10) (args := #[.agg ca]) rfl rfl rfl (fun W => run_call_fn W (enters_of Try.func28 (by kernel_rfl) rfl) rfl (by simp [Act.eval]; try rfl)) (KO.out V2 hV2.below) #[true, true, true, true, true, true, false, false, false] (by kernel_rfl) ?_
  rintro e V3 ⟨rfl, hb3⟩
  have hV3 := hV2.calls hb3
  refine ⟨_, rfl, fun _ => hV3.get 0 rfl, ?_⟩
  simp only [nm0, nm1, nm2, nm3]
  refine hl_pure 6 11 #[true, true, true, true, true, true, true, false, false] (by kernel_rfl) (v := .int .i64 d6) rfl rfl (by kernel_rfl) rfl (by kernel_rfl) (by kernel_rfl) rfl (fun W => run_fd_of rfl rfl (hfd.out W)) (hV3.get 0 rfl) ?_
  simp only [nm0, nm1, nm2, nm3]
  refine hold_next (rs := [7]) (by kernel_rfl) (by simp) ?_
  intro i hi
  simp only [List.mem_cons, List.not_mem_nil, or_false] at hi
  subst hi
  refine hop_call (d := 12) (args := #[.agg #[.bool ik, .int .i64 lv], .int .i64 d6]) rfl rfl rfl (fun W => run_call_fn W (enters_of Try.func57 (by kernel_rfl) rfl) rfl (by simp [Act.eval]; try rfl)) (or_any V3 ik lv d6) #[true, true, true, true, true, true, true, true, false] (by kernel_rfl) ?_
  rintro e V4 ⟨rfl, hb4⟩
  have hV4 := hV3.calls hb4
  rw [HRS.out]
  refine ⟨_, rfl, fun _ => hV4.get 0 rfl, ?_⟩
  simp only [nm0, nm1, nm2, nm3]
  refine hl_pureS 8 4 #[true, true, true, true, true, true, true, true, true] (by kernel_rfl) (v := .int .i64 rs) rfl rfl (by kernel_rfl) rfl (by kernel_rfl) (by kernel_rfl) rfl (fun W => rfl) (by kernel_rfl) ?_
  simp only [nm0, nm1, nm2, nm3]
  refine hold_done (by kernel_rfl) ?_ _
  refine NoPanic.normal ?_
  have HB := Lib.hid hV4.below
  clear hM0 hM1 hV0 hV1 hV2 hV3 hV4 hb1 hb2 hb3 hb4 eV0 hN1 hg1
  go_wp2_with fail
  exact bodyPost_ret (results_slot rfl rfl) rfl ⟨rfl, HB.out⟩
theorem fl_Lv5 (b : Nat) (W : World) : (Instr.fieldAt 53 (.pointer (some ⟨b, 0, none⟩)) 5).run Try.prog W = .ok (.pointer (some ⟨b, 5, none⟩)) W := by kernel_rfl
theorem fl_Lv4 (b : Nat) (W : World) : (Instr.fieldAt 53 (.pointer (some ⟨b, 0, none⟩)) 4).run Try.prog W = .ok (.pointer (some ⟨b, 4, none⟩)) W := by kernel_rfl
set_option maxRecDepth 100000 in
set_option maxHeartbeats 4000000 in
theorem event_any (w : World) (cs : List Value) (N : Nd) (h : IsNd w cs N) (u : ByteArray) (s : Bool) :
    Calls Try.prog 32 #[.agg cs.toArray, .string u, .bool s] w fun e w' => e = .returned (.int .i64 (N.event u s)) ∧ Below w.heap.size w w' := by
  have KI := Lib.hid (fun W (hb : Below w.heap.size w W) => within_any W cs N (h.keep hb) strEvents)
  have KO := Lib.hid (fun W (hb : Below w.heap.size w W) => of_any W cs N (h.keep hb))
  have hcs := isNd_len h
  obtain ⟨ca, eca⟩ : ∃ z, z = cs.toArray := ⟨_, rfl⟩
  rw [← eca] at hcs KI KO ⊢
  obtain ⟨M, eM⟩ : ∃ z, z = N.get strEvents := ⟨_, rfl⟩
  rw [← eM] at KI
  obtain ⟨d4, ed4⟩ : ∃ z, z = N.lvl pnm4 50 := ⟨_, rfl⟩
  obtain ⟨d5, ed5⟩ : ∃ z, z = N.lvl pnm5 0 := ⟨_, rfl⟩
  obtain ⟨rs, ers⟩ : ∃ z, z = N.event u s := ⟨_, rfl⟩
  obtain ⟨ik, eik⟩ : ∃ z, z = tIs M u := ⟨_, rfl⟩
  obtain ⟨lv, elv⟩ : ∃ z, z = tLv M u := ⟨_, rfl⟩
  have HRS : Hid ((if ik = false ∧ lv = 0 then (if s = true then d4 else d5) else lv) = rs) := Lib.hid (by rw [eik, elv, lvl_told, ers, eM, ed4, ed5]; rfl)
  have K1 := Lib.hid (fun W cs' (hN : IsNd W cs' M) g hg => ask1_any W cs' M hN g hg u)
  change Hid (∀ W cs', IsNd W cs' M → ∀ g, _ → Calls _ _ _ _ fun e w' => e = .returned (.agg #[.bool (tIs M u), .int .i64 (tLv M u)]) ∧ _) at K1
  rw [← eik, ← elv] at K1
  obtain ⟨LV, eLV⟩ : ∃ z, z = N.lvls := ⟨_, rfl⟩
  have hs7 : LV.size = 7 := by rw [eLV]; rfl
  have ho7 : LV.all (·.oneCell') = true := by rw [eLV]; exact lvls_one N
  have h4 : LV[4]? = some (.int .i64 d4) := by rw [eLV, ed4]; rfl
  have h5 : LV[5]? = some (.int .i64 d5) := by rw [eLV, ed5]; rfl
  rw [← eLV] at KO
  rw [← ers]
  clear h eca eM ed4 ed5 ers eik elv eLV
  go_enter Try.func32, Try.ntmps32
  go_upto_region 0 with fail
  have hM0 := Mem.start w
  refine wp_region_lit ?_
  refine wl_new hM0 (f := fun b => .pointer (some ⟨b, 0, none⟩)) (ob := .cells ca 25 (0, 0)) (fun W => run_box_of rfl rfl (bx_Nd ca hcs W)) rfl fun b2 W1 hM1 => ?_
  simp only [nm0, nm1, nm2, nm3]
  refine wl_pure (v := .int .i64 0) (fun W => rfl) rfl ?_
  simp only [nm0, nm1, nm2, nm3]
  refine wpList_nil ?_
  go_upto_region 1 with fail
  refine wp_region_lit ?_
  refine wl_row hM1 0 (v := .agg ca) rfl rfl rfl rfl (by rw [hcs]; exact rowNd) rfl ?_
  simp only [nm0, nm1, nm2, nm3]
  refine wl_callX (args := #[.agg ca]) (fun W => run_call_fn W (enters_of Try.func28 (by kernel_rfl) rfl) rfl (by simp [Act.eval]; try rfl)) (KO.out W1 hM1.below) rfl ?_
  rintro e W2 ⟨rfl, hb2⟩
  refine ⟨_, rfl, ?_⟩
  simp only [nm0, nm1, nm2, nm3]
  have hM2 := hM1.calls hb2
  refine wl_new hM2 (f := fun b => .pointer (some ⟨b, 0, none⟩)) (fun W => run_alloc_of rfl (al_Lv W)) rfl fun b7 W3 hM3 => ?_
  simp only [nm0, nm1, nm2, nm3]
  refine wl_set hM3 0 (cs := LV) rfl rfl rfl rfl (by rw [hs7]; exact rowLv) (by rw [hs7]; rfl) ho7 rfl rfl fun W4 hM4 => ?_
  simp only [nm2, nm3] at hM4
  refine wpList_nil ?_
  go_upto_region 2 with fail
  refine wp_region_lit ?_
  refine wl_pure (v := .pointer (some ⟨b7, 5, none⟩)) (fun W => run_field_of rfl rfl (fl_Lv5 _ W)) rfl ?_
  simp only [nm0, nm1, nm2, nm3]
  refine wl_cell hM4 0 (v := .int .i64 d5) rfl rfl rfl h5 cellJ rfl ?_
  simp only [nm0, nm1, nm2, nm3]
  refine wl_pure (v := .int .i64 d5) (fun W => rfl) rfl ?_
  simp only [nm0, nm1, nm2, nm3]
  refine wpList_nil ?_
  have HM := Lib.hid hM4
  clear hM0 hM1 hM2 hM3 hM4 hb2 KO h5 hs7 ho7
  cases s with
  | false =>
    go_upto_region 5 with fail
    refine wp_region_lit ?_
    refine wl_row HM.out 1 (v := .agg ca) rfl rfl rfl rfl (by rw [hcs]; exact rowNd) rfl ?_
    simp only [nm0, nm1, nm2, nm3]
    refine wl_callX (args := #[.agg ca, .string strEvents]) (fun W => run_call_fn W (enters_of Try.func59 (by kernel_rfl) rfl) rfl (by simp [Act.eval]; try rfl)) (KI.out W4 HM.out.below) rfl ?_
    rintro e V1 ⟨g, cs1, hN1, rfl, hg1, _, hb1⟩
    refine ⟨_, rfl, ?_⟩
    simp only [nm0, nm1, nm2, nm3]
    have hV1 := HM.out.calls hb1
    refine wl_pure (v := .string u) (fun W => rfl) rfl ?_
    simp only [nm0, nm1, nm2, nm3]
    refine wl_callX (args := #[.string u, .pointer (some ⟨g, 0, none⟩)]) (fun W => run_call_dyn W (enters_of Try.func69 (by kernel_rfl) rfl) rfl rfl (by simp [Act.eval]; rfl) rfl) (K1.out V1 cs1 hN1 g hg1) rfl ?_
    rintro e V2 ⟨rfl, hb2⟩
    refine ⟨_, rfl, ?_⟩
    simp only [nm0, nm1, nm2, nm3]
    have hV2 := hV1.calls hb2
    refine wl_pure (v := .int .i64 d5) (fun W => rfl) rfl ?_
    simp only [nm0, nm1, nm2, nm3]
    refine wl_callX (args := #[.agg #[.bool ik, .int .i64 lv], .int .i64 d5]) (fun W => run_call_fn W (enters_of Try.func57 (by kernel_rfl) rfl) rfl (by simp [Act.eval]; try rfl)) (or_any V2 ik lv d5) rfl ?_
    rintro e V3 ⟨rfl, hb3⟩
    refine ⟨_, rfl, ?_⟩
    simp only [nm0, nm1, nm2, nm3]
    have hV3 := hV2.calls hb3
    refine wl_pure (v := .int .i64 (if ik = false ∧ lv = 0 then d5 else lv)) (fun W => rfl) rfl ?_
    simp only [nm0, nm1, nm2, nm3]
    refine wpList_nil ?_
    have hr : (if ik = false ∧ lv = 0 then d5 else lv) = rs := HRS.out
    rw [hr]
    have HB := Lib.hid hV3.below
    clear hV1 hV2 hV3 hb1 hb2 hb3 hN1 hg1 HM hr HRS
    go_wp2_with fail
    exact bodyPost_ret (results_slot rfl rfl) rfl ⟨rfl, HB.out⟩
  | true =>
    go_upto_region 4 with fail
    refine wp_region_lit ?_
    refine wl_pure (v := .pointer (some ⟨b7, 4, none⟩)) (fun W => run_field_of rfl rfl (fl_Lv4 _ W)) rfl ?_
    simp only [nm0, nm1, nm2, nm3]
    refine wl_cell HM.out 0 (v := .int .i64 d4) rfl rfl rfl h4 cellJ rfl ?_
    simp only [nm0, nm1, nm2, nm3]
    refine wl_pure (v := .int .i64 d4) (fun W => rfl) rfl ?_
    simp only [nm0, nm1, nm2, nm3]
    refine wpList_nil ?_
    go_upto_region 5 with fail
    refine wp_region_lit ?_
    refine wl_row HM.out 1 (v := .agg ca) rfl rfl rfl rfl (by rw [hcs]; exact rowNd) rfl ?_
    simp only [nm0, nm1, nm2, nm3]
    refine wl_callX (args := #[.agg ca, .string strEvents]) (fun W => run_call_fn W (enters_of Try.func59 (by kernel_rfl) rfl) rfl (by simp [Act.eval]; try rfl)) (KI.out W4 HM.out.below) rfl ?_
    rintro e V1 ⟨g, cs1, hN1, rfl, hg1, _, hb1⟩
    refine ⟨_, rfl, ?_⟩
    simp only [nm0, nm1, nm2, nm3]
    have hV1 := HM.out.calls hb1
    refine wl_pure (v := .string u) (fun W => rfl) rfl ?_
    simp only [nm0, nm1, nm2, nm3]
    refine wl_callX (args := #[.string u, .pointer (some ⟨g, 0, none⟩)]) (fun W => run_call_dyn W (enters_of Try.func69 (by kernel_rfl) rfl) rfl rfl (by simp [Act.eval]; rfl) rfl) (K1.out V1 cs1 hN1 g hg1) rfl ?_
    rintro e V2 ⟨rfl, hb2⟩
    refine ⟨_, rfl, ?_⟩
    simp only [nm0, nm1, nm2, nm3]
    have hV2 := hV1.calls hb2
    refine wl_pure (v := .int .i64 d4) (fun W => rfl) rfl ?_
    simp only [nm0, nm1, nm2, nm3]
    refine wl_callX (args := #[.agg #[.bool ik, .int .i64 lv], .int .i64 d4]) (fun W => run_call_fn W (enters_of Try.func57 (by kernel_rfl) rfl) rfl (by simp [Act.eval]; try rfl)) (or_any V2 ik lv d4) rfl ?_
    rintro e V3 ⟨rfl, hb3⟩
    refine ⟨_, rfl, ?_⟩
    simp only [nm0, nm1, nm2, nm3]
    have hV3 := hV2.calls hb3
    refine wl_pure (v := .int .i64 (if ik = false ∧ lv = 0 then d4 else lv)) (fun W => rfl) rfl ?_
    simp only [nm0, nm1, nm2, nm3]
    refine wpList_nil ?_
    have hr : (if ik = false ∧ lv = 0 then d4 else lv) = rs := HRS.out
    rw [hr]
    have HB := Lib.hid hV3.below
    clear hV1 hV2 hV3 hb1 hb2 hb3 hN1 hg1 HM hr HRS
    go_wp2_with fail
    exact bodyPost_ret (results_slot rfl rfl) rfl ⟨rfl, HB.out⟩
theorem geq_J (a b : Int) (x y : Operand) (W : World) : (do eqGuard .geq 2 x y (.int .i64 a) (.int .i64 b); binOp .geq 2 (.int .i64 a) (.int .i64 b) : Sem Value).run Try.prog W = .ok (.bool (decide (a ≥ b))) W := by go_simp
set_option maxRecDepth 100000 in
set_option maxHeartbeats 4000000 in
theorem may2_any (w : World) (cs : List Value) (N : Nd) (h : IsNd w cs N) (u k : ByteArray) (s : Bool) :
    Calls Try.prog 34 #[.agg cs.toArray, .string u, .string k, .bool s] w fun e w' => e = .returned (.bool (decide (N.user u ≥ N.event k s))) ∧ Below w.heap.size w w' := by
  have HMIX := Lib.hid (show Try.prog.follows .mixedOrders = true by kernel_rfl)
  have KU := Lib.hid (fun W (hb : Below w.heap.size w W) => user_any W cs N (h.keep hb) u)
  have KE := Lib.hid (fun W (hb : Below w.heap.size w W) => event_any W cs N (h.keep hb) k s)
  have hcs := isNd_len h
  obtain ⟨ca, eca⟩ : ∃ z, z = cs.toArray := ⟨_, rfl⟩
  rw [← eca] at hcs KU KE ⊢
  obtain ⟨z1, e1⟩ : ∃ z, z = N.user u := ⟨_, rfl⟩
  obtain ⟨z2, e2⟩ : ∃ z, z = N.event k s := ⟨_, rfl⟩
  rw [← e1] at KU
  rw [← e2] at KE
  rw [← e1, ← e2]
  obtain ⟨rb, erb⟩ : ∃ z, z = decide (z1 ≥ z2) := ⟨_, rfl⟩
  rw [← erb]
  have ERB := Lib.hid erb
  clear h eca e1 e2 erb
  go_enter Try.func34, Try.ntmps34
  go_upto_region 0 with fail
  have hM0 := Mem.start w
  refine wp_region_lit ?_
  refine wl_new hM0 (f := fun b => .pointer (some ⟨b, 0, none⟩)) (ob := .cells ca 25 (0, 0)) (fun W => run_box_of rfl rfl (bx_Nd ca hcs W)) rfl fun b2 W1 hM1 => ?_
  simp only [nm0, nm1, nm2, nm3]
  refine wl_pure (v := .bool false) (fun W => rfl) rfl ?_
  simp only [nm0, nm1, nm2, nm3]
  refine wpList_nil ?_
  go_upto_region 1 with fail
  have hMd := hM1.drew
  refine wp_region_noPanic (hold_begin (S := fun W => W.heap[b2]? = some (.cells ca 25 (0, 0))) (st := 6) HMIX.out ?_)
  change Hold _ _ _ _ _ _ 9 _ _ _
  generalize eV0 : W1.drew = V0 at hMd ⊢
  have hV0 := hMd
  clear hMd
  refine hl_take 0 9 [2, 6] #[true, false, false, false, false, false, false, false, false] (by kernel_rfl) (v := .agg ca) rfl rfl (by kernel_rfl) (by kernel_rfl) (by kernel_rfl) (by kernel_rfl) (by kernel_rfl) (by kernel_rfl) rfl (fun W hW => run_load_row rfl rfl hW (by rw [hcs]; exact rowNd)) (hV0.get 0 rfl) ?_
  simp only [nm0, nm1, nm2, nm3]
  refine hl_pure 1 10 #[true, true, false, false, false, false, false, false, false] (by kernel_rfl) (v := .string u) rfl rfl (by kernel_rfl) rfl (by kernel_rfl) (by kernel_rfl) rfl (fun W => rfl) (hV0.get 0 rfl) ?_
  simp only [nm0, nm1, nm2, nm3]
  refine hl_take 3 12 [6] #[true, true, false, true, false, false, false, false, false] (by kernel_rfl) (v := .agg ca) rfl rfl (by kernel_rfl) (by kernel_rfl) (by kernel_rfl) (by kernel_rfl) (by kernel_rfl) (by kernel_rfl) rfl (fun W hW => run_load_row rfl rfl hW (by rw [hcs]; exact rowNd)) (hV0.get 0 rfl) ?_
  simp only [nm0, nm1, nm2, nm3]
  refine hl_pure 4 13 #[true, true, false, true, true, false, false, false, false] (by kernel_rfl) (v := .string k) rfl rfl (by kernel_rfl) rfl (by kernel_rfl) (by kernel_rfl) rfl (fun W => rfl) (hV0.get 0 rfl) ?_
  simp only [nm0, nm1, nm2, nm3]
  refine hl_pure 5 14 #[true, true, false, true, true, true, false, false, false] (by kernel_rfl) (v := .bool s) rfl rfl (by kernel_rfl) rfl (by kernel_rfl) (by kernel_rfl) rfl (fun W => rfl) (hV0.get 0 rfl) ?_
  simp only [nm0, nm1, nm2, nm3]
  refine hold_next (rs := [2]) (by kernel_rfl) (by simp) ?_
  intro i hi
  simp only [List.mem_cons, List.not_mem_nil, or_false] at hi
  subst hi
  refine hop_call (d := 11) (args := #[.agg ca, .string u]) rfl rfl rfl (fun W => run_call_fn W (enters_of Try.func30 (by kernel_rfl) rfl) rfl (by simp [Act.eval]; try rfl)) (KU.out V0 hV0.below) #[true, true, true, true, true, true, false, false, false] (by kernel_rfl) ?_
  rintro e V1 ⟨rfl, hb1⟩
  have hV1 := hV0.calls hb1
  refine ⟨_, rfl, fun _ => hV1.get 0 rfl, ?_⟩
  simp only [nm0, nm1, nm2, nm3]
  refine hold_next (rs := [6]) (by kernel_rfl) (by simp) ?_
  intro i hi
  simp only [List.mem_cons, List.not_mem_nil, or_false] at hi
  subst hi
  refine hop_call (d := 15) (args := #[.agg ca, .string k, .bool s]) rfl rfl rfl (fun W => run_call_fn W (enters_of Try.func32 (by kernel_rfl) rfl) rfl (by simp [Act.eval]; try rfl)) (KE.out V1 hV1.below) #[true, true, true, true, true, true, true, false, false] (by kernel_rfl) ?_
  rintro e V2 ⟨rfl, hb2⟩
  have hV2 := hV1.calls hb2
  refine ⟨_, rfl, fun _ => hV2.get 0 rfl, ?_⟩
  simp only [nm0, nm1, nm2, nm3]
  refine hl_pureS 7 16 #[true, true, true, true, true, true, true, true, false] (by kernel_rfl) (v := .bool rb) rfl rfl (by kernel_rfl) rfl (by kernel_rfl) (by kernel_rfl) rfl (fun W => run_bin_of rfl rfl rfl (by rw [ERB.out]; exact geq_J z1 z2 _ _ W)) (by kernel_rfl) ?_
  simp only [nm0, nm1, nm2, nm3]
  refine hl_pureS 8 8 #[true, true, true, true, true, true, true, true, true] (by kernel_rfl) (v := .bool rb) rfl rfl (by kernel_rfl) rfl (by kernel_rfl) (by kernel_rfl) rfl (fun W => rfl) (by kernel_rfl) ?_
  simp only [nm0, nm1, nm2, nm3]
  refine hold_done (by kernel_rfl) ?_ _
  refine NoPanic.normal ?_
  have HB := Lib.hid hV2.below
  clear hM0 hM1 hV0 hV1 hV2 hb1 hb2 eV0
  go_wp2_with fail
  exact bodyPost_ret (results_slot rfl rfl) rfl ⟨rfl, HB.out⟩
end Go.Proofs.Ytbheiglbejokmaa
