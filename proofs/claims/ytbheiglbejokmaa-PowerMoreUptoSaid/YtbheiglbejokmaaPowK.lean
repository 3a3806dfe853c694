/- PowerMore (layer 57): its walk. -/
import Derived.Test.YtbheiglbejokmaaPowJ
namespace Go.Proofs.Ytbheiglbejokmaa
set_option maxRecDepth 20000
set_option linter.unusedSimpArgs false
set_option linter.unusedVariables false
open Go.RowKit Go.Sort Go.Lib Go.MapKept
attribute [local go_sem] Oper.semAt_some
theorem bx_S2 (a b : ByteArray) (W : World) : (Instr.box 62 (.agg #[.string a, .string b])).run Try.prog W = .ok (.pointer (some ⟨W.heap.size, 0, none⟩)) (W.alloc (.cells #[.string a, .string b] 62 (0, 0))) := by kernel_rfl
theorem ix_A0 (g : Nat) (W : World) : (Instr.indexAt 62 (.pointer (some ⟨g, 0, none⟩)) (.int .i64 0)).run Try.prog W = .ok (.pointer (some ⟨g, 0, none⟩)) W := by kernel_rfl
theorem ix_A1 (g : Nat) (W : World) : (Instr.indexAt 62 (.pointer (some ⟨g, 0, none⟩)) (.int .i64 1)).run Try.prog W = .ok (.pointer (some ⟨g, 1, none⟩)) W := by kernel_rfl
theorem lss_J (a b : Int) (x y : Operand) (W : World) : (do eqGuard .lss 2 x y (.int .i64 a) (.int .i64 b); binOp .lss 2 (.int .i64 a) (.int .i64 b) : Sem Value).run Try.prog W = .ok (.bool (decide (a < b))) W := by go_simp
/-- A map of one key has it. -/
theorem get_one (k : ByteArray) (v : Nd) : (Nd.mk 6 0 ByteArray.empty [k] [v]).get k = v := by
  have h : (Nd.mk 6 0 ByteArray.empty [k] [v]).at_ k = some 0 := by
    unfold Nd.at_ firstAt
    simp [Nd.kind, Nd.keys, Nd.vals, List.range_succ]
  unfold Nd.get
  rw [h]
  rfl
def exM (k : ByteArray) : Nd := .mk 6 0 ByteArray.empty [strEvents] [.mk 6 0 ByteArray.empty [k] [.mk 3 7 ByteArray.empty [] []]]
theorem exM_event (k : ByteArray) (s : Bool) : (exM k).event k s = 7 := by
  unfold Nd.event exM
  rw [get_one]
  unfold Nd.lvl
  rw [get_one]
  rfl
set_option maxRecDepth 100000 in
set_option maxHeartbeats 8000000 in
theorem powerMore_walk (w : World) (cs : List Value) (N : Nd) (h : IsNd w cs N) (hbig : N.all.length ≤ 1048576) (ua ub kn : ByteArray) (wk : kn.size ≤ maxLen) :
    Calls Try.prog 8 #[.agg cs.toArray, .agg #[.string ua, .string ub], .string kn] w fun e w' => e = .returned (.bool true) ∧ Below w.heap.size w w' := by
  have HMIX := Lib.hid (show Try.prog.follows .mixedOrders = true by kernel_rfl)
  have KF := Lib.hid (fun W (hb : Below w.heap.size w W) => few_any W cs N (h.keep hb) hbig 200)
  have KL := Lib.hid lives57_any
  have KU := Lib.hid (fun W (hb : Below w.heap.size w W) u => user_any W cs N (h.keep hb) u)
  have KM := Lib.hid (fun W (hb : Below w.heap.size w W) u s => may2_any W cs N (h.keep hb) u kn s)
  have hcs := isNd_len h
  obtain ⟨ca, eca⟩ : ∃ z, z = cs.toArray := ⟨_, rfl⟩
  rw [← eca] at KF KU KM hcs ⊢
  obtain ⟨us, eus⟩ : ∃ z, z = N.user := ⟨_, rfl⟩
  obtain ⟨ev, eev⟩ : ∃ z, z = N.event kn := ⟨_, rfl⟩
  rw [← eus] at KU KM
  rw [← eev] at KM
  clear h hbig eca eus eev
  go_enter Try.func8, Try.ntmps8
  go_upto_region 0 with fail
  have hM0 := Mem.start w
  refine wp_region_lit ?_
  refine wl_new hM0 (f := fun b => .pointer (some ⟨b, 0, none⟩)) (ob := .cells ca 25 (0, 0)) (fun W => run_box_of rfl rfl (bx_Nd ca hcs W)) rfl fun b3 W0 hM0b => ?_
  simp only [nm0, nm1, nm2, nm3]
  refine wl_new hM0b (f := fun b => .pointer (some ⟨b, 0, none⟩)) (ob := .cells #[.string ua, .string ub] 62 (0, 0)) (fun W => run_box_of rfl rfl (bx_S2 ua ub W)) rfl fun b4 W1 hM1 => ?_
  simp only [nm0, nm1, nm2, nm3]
  refine wl_pure (v := .bool false) (fun W => rfl) rfl ?_
  simp only [nm0, nm1, nm2, nm3]
  refine wpList_nil ?_
  go_upto_region 1 with fail
  refine wp_region_lit ?_
  refine wl_row hM1 1 (v := .agg ca) rfl rfl rfl rfl (by rw [hcs]; exact rowNd) rfl ?_
  simp only [nm0, nm1, nm2, nm3]
  refine wl_callX (args := #[.agg ca, .int .i64 200]) (fun W => run_call_fn W (enters_of Try.func9 (by kernel_rfl) rfl) rfl (by simp [Act.eval]; try rfl)) (KF.out W1 hM1.below) rfl ?_
  rintro e W2 ⟨fw, rfl, hb2⟩
  refine ⟨_, rfl, ?_⟩
  simp only [nm0, nm1, nm2, nm3]
  have hM2 := hM1.calls hb2
  clear hb2 KF
  cases fw with
  | false =>
    refine wl_pure (v := .bool true) (fun W => run_not_b W rfl rfl rfl) rfl ?_
    simp only [nm0, nm1, nm2, nm3]
    refine wpList_nil ?_
    have HBL := Lib.hid hM2.below
    clear hM0 hM0b hM1 hM2
    go_wp2_with fail
    refine (KL.out W2).mono ?_
    rintro e W9 ⟨rfl, hb9⟩
    have HB9 := Lib.hid (HBL.out.trans (hb9.mono HBL.out.size))
    clear hb9
    go_wp2_with fail
    exact bodyPost_ret (results_slot rfl rfl) rfl ⟨rfl, HB9.out⟩
  | true =>
    refine wl_pure (v := .bool false) (fun W => run_not_b W rfl rfl rfl) rfl ?_
    simp only [nm0, nm1, nm2, nm3]
    refine wpList_nil ?_
    clear hM0 hM0b hM1
    go_upto_region 3 with fail
    have hMd := hM2.drew
    refine wp_region_noPanic (hold_begin (S := fun W => W.heap[b4]? = some (.cells #[.string ua, .string ub] 62 (0, 0)) ∧ W.heap[b3]? = some (.cells ca 25 (0, 0))) (st := 5) HMIX.out ?_)
    change Hold _ _ _ _ _ _ 6 _ _ _
    generalize eV0 : W2.drew = V0 at hMd ⊢
    have hV0 := hMd
    clear hMd
    refine hw_pure 0 16 #[true, false, false, false, false, false] (by kernel_rfl) (v := .pointer (some ⟨b4, 0, none⟩)) rfl rfl (by kernel_rfl) rfl (by kernel_rfl) (by kernel_rfl) rfl (fun W => run_index_of rfl rfl rfl (ix_A0 _ W)) (fun _ => ⟨hV0.get 0 rfl, hV0.get 1 rfl⟩) ?_
    simp only [nm0, nm1, nm2, nm3]
    refine hw_take 1 17 [5] #[true, true, false, false, false, false] (by kernel_rfl) (v := .string ua) rfl rfl (by kernel_rfl) (by kernel_rfl) (by kernel_rfl) (by kernel_rfl) (by kernel_rfl) (by kernel_rfl) rfl (fun W hW => run_load_cell rfl rfl hW.1 rfl cellS) (⟨hV0.get 0 rfl, hV0.get 1 rfl⟩) ?_
    simp only [nm0, nm1, nm2, nm3]
    refine hw_pure 2 18 #[true, true, true, false, false, false] (by kernel_rfl) (v := .pointer (some ⟨b4, 1, none⟩)) rfl rfl (by kernel_rfl) rfl (by kernel_rfl) (by kernel_rfl) rfl (fun W => run_index_of rfl rfl rfl (ix_A1 _ W)) (fun _ => ⟨hV0.get 0 rfl, hV0.get 1 rfl⟩) ?_
    simp only [nm0, nm1, nm2, nm3]
    refine hw_take 3 19 [5] #[true, true, true, true, false, false] (by kernel_rfl) (v := .string ub) rfl rfl (by kernel_rfl) (by kernel_rfl) (by kernel_rfl) (by kernel_rfl) (by kernel_rfl) (by kernel_rfl) rfl (fun W hW => run_load_cell rfl rfl hW.1 rfl cellS) (⟨hV0.get 0 rfl, hV0.get 1 rfl⟩) ?_
    simp only [nm0, nm1, nm2, nm3]
    refine hw_pure 4 7 #[true, true, true, true, true, false] (by kernel_rfl) (v := .string ua) rfl rfl (by kernel_rfl) rfl (by kernel_rfl) (by kernel_rfl) rfl (fun W => rfl) (fun _ => ⟨hV0.get 0 rfl, hV0.get 1 rfl⟩) ?_
    simp only [nm0, nm1, nm2, nm3]
    refine hold_next (rs := [5]) (by kernel_rfl) (by simp) ?_
    intro i hi
    simp only [List.mem_cons, List.not_mem_nil, or_false] at hi
    subst hi
    refine hw_val (d := 8) (v := .string ub) rfl rfl rfl (rfl) #[true, true, true, true, true, true] (by kernel_rfl) (fun h => by cases h) ?_
    simp only [nm0, nm1, nm2, nm3]
    refine hold_done (by kernel_rfl) ?_ _
    refine NoPanic.normal ?_
    obtain ⟨cl, ecl⟩ : ∃ z, z = decide (us ua < us ub) := ⟨_, rfl⟩
    go_upto_region 4 with fail
    have hMd := hV0.drew
    refine wp_region_noPanic (hold_begin (S := fun W => W.heap[b4]? = some (.cells #[.string ua, .string ub] 62 (0, 0)) ∧ W.heap[b3]? = some (.cells ca 25 (0, 0))) (st := 5) HMIX.out ?_)
    change Hold _ _ _ _ _ _ 7 _ _ _
    generalize eV1 : V0.drew = V1 at hMd ⊢
    have hV1 := hMd
    clear hMd
    refine hw_take 0 20 [2, 5] #[true, false, false, false, false, false, false] (by kernel_rfl) (v := .agg ca) rfl rfl (by kernel_rfl) (by kernel_rfl) (by kernel_rfl) (by kernel_rfl) (by kernel_rfl) (by kernel_rfl) rfl (fun W hW => run_load_row rfl rfl hW.2 (by rw [hcs]; exact rowNd)) (⟨hV1.get 0 rfl, hV1.get 1 rfl⟩) ?_
    simp only [nm0, nm1, nm2, nm3]
    refine hw_pure 1 21 #[true, true, false, false, false, false, false] (by kernel_rfl) (v := .string ua) rfl rfl (by kernel_rfl) rfl (by kernel_rfl) (by kernel_rfl) rfl (fun W => rfl) (fun _ => ⟨hV1.get 0 rfl, hV1.get 1 rfl⟩) ?_
    simp only [nm0, nm1, nm2, nm3]
    refine hw_take 3 23 [5] #[true, true, false, true, false, false, false] (by kernel_rfl) (v := .agg ca) rfl rfl (by kernel_rfl) (by kernel_rfl) (by kernel_rfl) (by kernel_rfl) (by kernel_rfl) (by kernel_rfl) rfl (fun W hW => run_load_row rfl rfl hW.2 (by rw [hcs]; exact rowNd)) (⟨hV1.get 0 rfl, hV1.get 1 rfl⟩) ?_
    simp only [nm0, nm1, nm2, nm3]
    refine hw_pure 4 24 #[true, true, false, true, true, false, false] (by kernel_rfl) (v := .string ub) rfl rfl (by kernel_rfl) rfl (by kernel_rfl) (by kernel_rfl) rfl (fun W => rfl) (fun _ => ⟨hV1.get 0 rfl, hV1.get 1 rfl⟩) ?_
    simp only [nm0, nm1, nm2, nm3]
    refine hold_next (rs := [2]) (by kernel_rfl) (by simp) ?_
    intro i hi
    simp only [List.mem_cons, List.not_mem_nil, or_false] at hi
    subst hi
    refine hw_call (d := 22) (args := #[.agg ca, .string ua]) rfl rfl rfl (fun W => run_call_fn W (enters_of Try.func30 (by kernel_rfl) rfl) rfl (by simp [Act.eval]; try rfl)) (KU.out V1 hV1.below ua) #[true, true, true, true, true, false, false] (by kernel_rfl) ?_
    rintro e Y2 ⟨rfl, hb2⟩
    have hY2 := hV1.calls hb2
    refine ⟨_, rfl, (fun _ => ⟨hY2.get 0 rfl, hY2.get 1 rfl⟩), ?_⟩
    simp only [nm0, nm1, nm2, nm3]
    refine hold_next (rs := [5]) (by kernel_rfl) (by simp) ?_
    intro i hi
    simp only [List.mem_cons, List.not_mem_nil, or_false] at hi
    subst hi
    refine hw_call (d := 25) (args := #[.agg ca, .string ub]) rfl rfl rfl (fun W => run_call_fn W (enters_of Try.func30 (by kernel_rfl) rfl) rfl (by simp [Act.eval]; try rfl)) (KU.out Y2 hY2.below ub) #[true, true, true, true, true, true, false] (by kernel_rfl) ?_
    rintro e Y3 ⟨rfl, hb3⟩
    have hY3 := hY2.calls hb3
    refine ⟨_, rfl, (fun h => by cases h), ?_⟩
    simp only [nm0, nm1, nm2, nm3]
    refine hw_pure 6 26 #[true, true, true, true, true, true, true] (by kernel_rfl) (v := .bool cl) rfl rfl (by kernel_rfl) rfl (by kernel_rfl) (by kernel_rfl) rfl (fun W => run_bin_of rfl rfl rfl (by rw [ecl]; exact lss_J (us ua) (us ub) _ _ W)) (fun h => by cases h) ?_
    simp only [nm0, nm1, nm2, nm3]
    refine hold_done (by kernel_rfl) ?_ _
    refine NoPanic.normal ?_
    cases cl with
    | true =>
      have hab : us ua ≤ us ub := by have := of_decide_eq_true ecl.symm; omega
      clear ecl
      go_upto_region 5 with fail
      refine wp_region_lit ?_
      refine wl_pure (v := .string ub) (fun W => rfl) rfl ?_
      simp only [nm0, nm1, nm2, nm3]
      refine wl_pure (v := .string ua) (fun W => rfl) rfl ?_
      simp only [nm0, nm1, nm2, nm3]
      refine wl_pure (v := .string ub) (fun W => rfl) rfl ?_
      simp only [nm0, nm1, nm2, nm3]
      refine wl_pure (v := .string ua) (fun W => rfl) rfl ?_
      simp only [nm0, nm1, nm2, nm3]
      refine wpList_nil ?_
      have HM6 := Lib.hid hY3
      clear hY3
      go_upto_region 6 with fail
      refine wp_region_lit ?_
      refine wl_new HM6.out (f := fun b => .slice (some ⟨b, 0, none⟩) 2 2) (fun W => run_slice_of rfl (by simp [Act.eval]) (bs_B2 W)) rfl fun gB X6 hM7 => ?_
      simp only [nm0, nm1, nm2, nm3]
      refine wl_pure (v := .int .i64 2) (fun W => by go_simp) rfl ?_
      simp only [nm0, nm1, nm2, nm3]
      refine wl_pure (v := .int .i64 0) (fun W => rfl) rfl ?_
      simp only [nm0, nm1, nm2, nm3]
      refine wpList_nil ?_
      have HM7 := Lib.hid hM7
      clear hM7
      go_wp2_with fail
      go_loopw [31] (fun i wr => ∃ k : Nat, i = .int .i64 (k : Int) ∧ k ≤ 2 ∧ Mem w [(gB, .cells #[.bool false, .bool true] 4 (0, 0)), (b4, .cells #[.string ua, .string ub] 62 (0, 0)), (b3, .cells ca 25 (0, 0))] wr) (fun i _ => 2 - (Go.RowKit.intOf i).toNat)
      case atStart => exact ⟨0, rfl, by decide, HM7.out⟩
      case round =>
        obtain ⟨k, rfl, hk, hM⟩ := hrel
        clear HM7 HM6
        by_cases hlt : k < 2
        · have b1b : decide ((k : Int) < 2) = true := decide_eq_true (by omega)
          obtain ⟨sb, esb⟩ : ∃ z, z = (k == 1) := ⟨_, rfl⟩
          have hsb := b2_at hlt
          rw [← esb] at hsb
          clear esb
          obtain ⟨m1, em1⟩ : ∃ z, z = decide (us ua ≥ ev sb) := ⟨_, rfl⟩
          have KB := Lib.hid (fun W hb => KM.out W hb ua sb)
          have KA := Lib.hid (fun W hb => KM.out W hb ub sb)
          rw [← em1] at KB
          go_upto_region 8 with fail
          refine wp_region_lit ?_
          refine wl_pure (v := .pointer (some ⟨gB, k, none⟩)) (fun W => run_index_of rfl rfl rfl (ix_B gB k 2 2 hlt W)) rfl ?_
          simp only [nm0, nm1, nm2, nm3]
          refine wl_cell hM 0 (v := .bool sb) rfl rfl rfl hsb cellB rfl ?_
          simp only [nm0, nm1, nm2, nm3]
          refine wl_pure (v := .bool sb) (fun W => rfl) rfl ?_
          simp only [nm0, nm1, nm2, nm3]
          refine wpList_nil ?_
          go_upto_region 9 with fail
          refine wp_region_lit ?_
          refine wl_row hM 2 (v := .agg ca) rfl rfl rfl rfl (by rw [hcs]; exact rowNd) rfl ?_
          simp only [nm0, nm1, nm2, nm3]
          refine wl_pure (v := .string ua) (fun W => rfl) rfl ?_
          simp only [nm0, nm1, nm2, nm3]
          refine wl_pure (v := .string kn) (fun W => rfl) rfl ?_
          simp only [nm0, nm1, nm2, nm3]
          refine wl_pure (v := .bool sb) (fun W => rfl) rfl ?_
          simp only [nm0, nm1, nm2, nm3]
          refine wl_callX (args := #[.agg ca, .string ua, .string kn, .bool sb]) (fun W => run_call_fn W (enters_of Try.func34 (by kernel_rfl) rfl) rfl (by simp [Act.eval]; try rfl)) (KB.out wr hM.below) rfl ?_
          rintro e X7 ⟨rfl, hb7⟩
          refine ⟨_, rfl, ?_⟩
          simp only [nm0, nm1, nm2, nm3]
          have hM8 := hM.calls hb7
          refine wl_pure (v := .bool m1) (fun W => rfl) rfl ?_
          simp only [nm0, nm1, nm2, nm3]
          cases m1 with
          | true =>
            have hge : us ua ≥ ev sb := of_decide_eq_true em1.symm
            have hA : decide (us ub ≥ ev sb) = true := decide_eq_true (by omega)
            rw [hA] at KA
            refine wl_row hM8 2 (v := .agg ca) rfl rfl rfl rfl (by rw [hcs]; exact rowNd) rfl ?_
            simp only [nm0, nm1, nm2, nm3]
            refine wl_pure (v := .string ub) (fun W => rfl) rfl ?_
            simp only [nm0, nm1, nm2, nm3]
            refine wl_pure (v := .string kn) (fun W => rfl) rfl ?_
            simp only [nm0, nm1, nm2, nm3]
            refine wl_pure (v := .bool sb) (fun W => rfl) rfl ?_
            simp only [nm0, nm1, nm2, nm3]
            refine wl_callX (args := #[.agg ca, .string ub, .string kn, .bool sb]) (fun W => run_call_fn W (enters_of Try.func34 (by kernel_rfl) rfl) rfl (by simp [Act.eval]; try rfl)) (KA.out X7 hM8.below) rfl ?_
            rintro e X8 ⟨rfl, hb8⟩
            refine ⟨_, rfl, ?_⟩
            simp only [nm0, nm1, nm2, nm3]
            have hM9 := hM8.calls hb8
            refine wl_pure (v := .bool false) (fun W => run_not_b W rfl rfl rfl) rfl ?_
            simp only [nm0, nm1, nm2, nm3]
            refine wl_pure (v := .bool false) (fun W => rfl) rfl ?_
            simp only [nm0, nm1, nm2, nm3]
            refine wpList_nil ?_
            have HM9 := Lib.hid hM9
            clear hM hM8 hM9 hb7 hb8 KA KB hge hA em1
            go_wp2_with fail
            exact ⟨⟨k + 1, rfl, hlt, HM9.out⟩, by show 2 - ((k : Int) + 1).toNat < 2 - (k : Int).toNat; omega⟩
          | false =>
            refine wl_skip rfl ?_
            simp only [nm0, nm1, nm2, nm3]
            refine wl_skip rfl ?_
            simp only [nm0, nm1, nm2, nm3]
            refine wl_skip rfl ?_
            simp only [nm0, nm1, nm2, nm3]
            refine wl_skip rfl ?_
            simp only [nm0, nm1, nm2, nm3]
            refine wl_skip rfl ?_
            simp only [nm0, nm1, nm2, nm3]
            refine wl_skip rfl ?_
            simp only [nm0, nm1, nm2, nm3]
            refine wl_pure (v := .bool false) (fun W => rfl) rfl ?_
            simp only [nm0, nm1, nm2, nm3]
            refine wpList_nil ?_
            have HM9 := Lib.hid hM8
            clear hM hM8 hb7 KA KB em1
            go_wp2_with fail
            exact ⟨⟨k + 1, rfl, hlt, HM9.out⟩, by show 2 - ((k : Int) + 1).toNat < 2 - (k : Int).toNat; omega⟩
        · have b1b : decide ((k : Int) < 2) = false := decide_eq_false (by omega)
          clear KM KU
          go_upto_region 12 with fail
          refine wp_region_lit ?_
          refine wl_call hM (args := #[.string strEvents]) (v := .agg #[.int .i64 4, .int .i64 0, .string strEvents, .slice none 0 0, .slice none 0 0]) (fun W => run_call_fn W (enters_of Try.func36 (by kernel_rfl) rfl) rfl (by simp [Act.eval]; try rfl)) (text_any wr strEvents) rfl fun Z1 hZ1 => ?_
          simp only [nm0, nm1, nm2, nm3]
          refine wl_pure (v := .string kn) (fun W => rfl) rfl ?_
          simp only [nm0, nm1, nm2, nm3]
          refine wl_call hZ1 (args := #[.string kn]) (v := .agg #[.int .i64 4, .int .i64 0, .string kn, .slice none 0 0, .slice none 0 0]) (fun W => run_call_fn W (enters_of Try.func36 (by kernel_rfl) rfl) rfl (by simp [Act.eval]; try rfl)) (text_any Z1 kn) rfl fun Z2 hZ2 => ?_
          simp only [nm0, nm1, nm2, nm3]
          refine wl_call hZ2 (args := #[.int .i64 7]) (v := .agg #[.int .i64 3, .int .i64 7, .string ByteArray.empty, .slice none 0 0, .slice none 0 0]) (fun W => run_call_fn W (enters_of Try.func37 (by kernel_rfl) rfl) rfl (by simp [Act.eval]; try rfl)) (int_any Z2 7) rfl fun Z3 hZ3 => ?_
          simp only [nm0, nm1, nm2, nm3]
          refine wl_new hZ3 (f := fun b => .slice (some ⟨b, 0, none⟩) 2 2) (fun W => run_slice_of rfl (by simp [Act.eval]) (bs_nd2 (.int .i64 4) (.int .i64 0) (.string kn) (.slice none 0 0) (.slice none 0 0) (.int .i64 3) (.int .i64 7) (.string ByteArray.empty) (.slice none 0 0) (.slice none 0 0) W)) rfl fun g1 Z4 hZ4 => ?_
          simp only [nm0, nm1, nm2, nm3]
          have hnds : IsNds Z4 (some ⟨g1, 0, none⟩) 2 (fun i => if i = 0 then [.int .i64 4, .int .i64 0, .string kn, .slice none 0 0, .slice none 0 0] else [.int .i64 3, .int .i64 7, .string ByteArray.empty, .slice none 0 0, .slice none 0 0]) [.mk 4 0 kn [] [], .mk 3 7 ByteArray.empty [] []] := nds2 (isNd_text Z4 kn wk) (isNd_int Z4 7 (by decide)) (hZ4.get 0 rfl)
          refine wl_callX (args := #[.slice (some ⟨g1, 0, none⟩) 2 2]) (fun W => run_call_fn W (enters_of Try.func35 (by kernel_rfl) rfl) rfl (by simp [Act.eval]; try rfl)) (map_any Z4 _ 2 2 _ _ hnds (by decide) (by decide)) rfl ?_
          rintro e Z5 ⟨cs1, hN1, rfl, hb9⟩
          refine ⟨_, rfl, ?_⟩
          simp only [nm0, nm1, nm2, nm3]
          have hZ5 := hZ4.calls hb9
          obtain ⟨a0, a1, a2, a3, a4, rfl⟩ := five_of hN1
          refine wl_new (Mem.start Z5) (f := fun b => .slice (some ⟨b, 0, none⟩) 2 2) (fun W => run_slice_of rfl (by simp [Act.eval]) (bs_nd2 (.int .i64 4) (.int .i64 0) (.string strEvents) (.slice none 0 0) (.slice none 0 0) a0 a1 a2 a3 a4 W)) rfl fun g2 X1 hX1 => ?_
          simp only [nm0, nm1, nm2, nm3]
          have hN1b := hN1.keep hX1.below
          have hM10 := hZ5.calls hX1.below
          have hnds2 : IsNds X1 (some ⟨g2, 0, none⟩) 2 (fun i => if i = 0 then [.int .i64 4, .int .i64 0, .string strEvents, .slice none 0 0, .slice none 0 0] else [a0, a1, a2, a3, a4]) [.mk 4 0 strEvents [] [], .mk 6 0 ByteArray.empty [kn] [.mk 3 7 ByteArray.empty [] []]] := nds2 (isNd_text X1 strEvents (by decide)) hN1b (hX1.get 0 rfl)
          refine wl_callX (args := #[.slice (some ⟨g2, 0, none⟩) 2 2]) (fun W => run_call_fn W (enters_of Try.func35 (by kernel_rfl) rfl) rfl (by simp [Act.eval]; try rfl)) (map_any X1 _ 2 2 _ _ hnds2 (by decide) (by decide)) rfl ?_
          rintro e X2 ⟨cs2, hN2, rfl, hbx⟩
          refine ⟨_, rfl, ?_⟩
          simp only [nm0, nm1, nm2, nm3]
          have hM11 := hM10.calls hbx
          have hN2 : IsNd X2 cs2 (exM kn) := hN2
          have h5 := isNd_len hN2
          have h1 := isNd_one hN2
          have KE := Lib.hid (fun W (hb : Below X2.heap.size X2 W) s => event_any W cs2 (exM kn) (hN2.keep hb) kn s)
          have hev : Nd.event (exM kn) kn = fun _ => 7 := by funext s; exact exM_event kn s
          rw [hev] at KE
          obtain ⟨kx, ekx⟩ : ∃ z, z = cs2.toArray := ⟨_, rfl⟩
          rw [← ekx] at h5 h1 KE ⊢
          clear ekx hN2 hnds2 hN1b hN1 hnds hev
          refine wl_new (Mem.start X2) (f := fun b => .pointer (some ⟨b, 0, none⟩)) (fun W => run_alloc_of rfl (al_Nd W)) rfl fun b11 X3 hX3 => ?_
          simp only [nm0, nm1, nm2, nm3]
          refine wl_set hX3 0 (cs := kx) rfl rfl rfl rfl (by rw [h5]; exact rowNd) (by rw [h5]; rfl) h1 rfl rfl fun X4 hX4 => ?_
          simp only [nm2, nm3] at hX4
          refine wpList_nil ?_
          have hM12 := hM11.calls hX4.below
          go_upto_region 13 with fail
          refine wp_region_lit ?_
          refine wl_row hX4 0 (v := .agg kx) rfl rfl rfl rfl (by rw [h5]; exact rowNd) rfl ?_
          simp only [nm0, nm1, nm2, nm3]
          refine wl_pure (v := .string kn) (fun W => rfl) rfl ?_
          simp only [nm0, nm1, nm2, nm3]
          refine wl_callX (args := #[.agg kx, .string kn, .bool true]) (fun W => run_call_fn W (enters_of Try.func32 (by kernel_rfl) rfl) rfl (by simp [Act.eval]; try rfl)) (KE.out X4 hX4.below true) rfl ?_
          rintro e X5 ⟨rfl, hb12⟩
          refine ⟨_, rfl, ?_⟩
          simp only [nm0, nm1, nm2, nm3]
          have hX5 := hX4.calls hb12
          refine wl_pure (v := .bool true) (fun W => by go_simp) rfl ?_
          simp only [nm0, nm1, nm2, nm3]
          refine wl_pure (v := .bool true) (fun W => rfl) rfl ?_
          simp only [nm0, nm1, nm2, nm3]
          refine wl_row hX5 0 (v := .agg kx) rfl rfl rfl rfl (by rw [h5]; exact rowNd) rfl ?_
          simp only [nm0, nm1, nm2, nm3]
          refine wl_pure (v := .string kn) (fun W => rfl) rfl ?_
          simp only [nm0, nm1, nm2, nm3]
          refine wl_callX (args := #[.agg kx, .string kn, .bool false]) (fun W => run_call_fn W (enters_of Try.func32 (by kernel_rfl) rfl) rfl (by simp [Act.eval]; try rfl)) (KE.out X5 hX5.below false) rfl ?_
          rintro e X6 ⟨rfl, hb13⟩
          refine ⟨_, rfl, ?_⟩
          simp only [nm0, nm1, nm2, nm3]
          have hX6 := hX5.calls hb13
          refine wl_pure (v := .bool true) (fun W => by go_simp) rfl ?_
          simp only [nm0, nm1, nm2, nm3]
          refine wl_pure (v := .bool true) (fun W => rfl) rfl ?_
          simp only [nm0, nm1, nm2, nm3]
          refine wl_pure (v := .bool true) (fun W => rfl) rfl ?_
          simp only [nm0, nm1, nm2, nm3]
          refine wl_callX (args := #[]) (fun W => run_call_fn W (enters_of Try.func27 (by kernel_rfl) rfl) rfl (by simp [Act.eval]; try rfl)) (KL.out X6) rfl ?_
          rintro e X7 ⟨rfl, hb14⟩
          refine ⟨_, rfl, ?_⟩
          simp only [nm0, nm1, nm2, nm3]
          have hX7 := hX6.calls hb14
          refine wl_pure (v := .bool true) (fun W => rfl) rfl ?_
          simp only [nm0, nm1, nm2, nm3]
          refine wl_pure (v := .bool true) (fun W => rfl) rfl ?_
          simp only [nm0, nm1, nm2, nm3]
          refine wpList_nil ?_
          have HB := Lib.hid (hM11.below.trans (hX7.below.mono hM11.below.size))
          clear hM hZ1 hZ2 hZ3 hZ4 hZ5 hX1 hX3 hX4 hX5 hX6 hX7 hM10 hM11 hM12 KE hb9 hbx hb12 hb13 hb14
          go_wp2_with fail
          exact bodyPost_ret (results_slot rfl rfl) rfl ⟨rfl, HB.out⟩
    | false =>
      have hab : us ub ≤ us ua := by have := of_decide_eq_false ecl.symm; omega
      clear ecl
      have HM6 := Lib.hid hY3
      clear hY3
      go_upto_region 6 with fail
      refine wp_region_lit ?_
      refine wl_new HM6.out (f := fun b => .slice (some ⟨b, 0, none⟩) 2 2) (fun W => run_slice_of rfl (by simp [Act.eval]) (bs_B2 W)) rfl fun gB X6 hM7 => ?_
      simp only [nm0, nm1, nm2, nm3]
      refine wl_pure (v := .int .i64 2) (fun W => by go_simp) rfl ?_
      simp only [nm0, nm1, nm2, nm3]
      refine wl_pure (v := .int .i64 0) (fun W => rfl) rfl ?_
      simp only [nm0, nm1, nm2, nm3]
      refine wpList_nil ?_
      have HM7 := Lib.hid hM7
      clear hM7
      go_wp2_with fail
      go_loopw [31] (fun i wr => ∃ k : Nat, i = .int .i64 (k : Int) ∧ k ≤ 2 ∧ Mem w [(gB, .cells #[.bool false, .bool true] 4 (0, 0)), (b4, .cells #[.string ua, .string ub] 62 (0, 0)), (b3, .cells ca 25 (0, 0))] wr) (fun i _ => 2 - (Go.RowKit.intOf i).toNat)
      case atStart => exact ⟨0, rfl, by decide, HM7.out⟩
      case round =>
        obtain ⟨k, rfl, hk, hM⟩ := hrel
        clear HM7 HM6
        by_cases hlt : k < 2
        · have b1b : decide ((k : Int) < 2) = true := decide_eq_true (by omega)
          obtain ⟨sb, esb⟩ : ∃ z, z = (k == 1) := ⟨_, rfl⟩
          have hsb := b2_at hlt
          rw [← esb] at hsb
          clear esb
          obtain ⟨m1, em1⟩ : ∃ z, z = decide (us ub ≥ ev sb) := ⟨_, rfl⟩
          have KB := Lib.hid (fun W hb => KM.out W hb ub sb)
          have KA := Lib.hid (fun W hb => KM.out W hb ua sb)
          rw [← em1] at KB
          go_upto_region 8 with fail
          refine wp_region_lit ?_
          refine wl_pure (v := .pointer (some ⟨gB, k, none⟩)) (fun W => run_index_of rfl rfl rfl (ix_B gB k 2 2 hlt W)) rfl ?_
          simp only [nm0, nm1, nm2, nm3]
          refine wl_cell hM 0 (v := .bool sb) rfl rfl rfl hsb cellB rfl ?_
          simp only [nm0, nm1, nm2, nm3]
          refine wl_pure (v := .bool sb) (fun W => rfl) rfl ?_
          simp only [nm0, nm1, nm2, nm3]
          refine wpList_nil ?_
          go_upto_region 9 with fail
          refine wp_region_lit ?_
          refine wl_row hM 2 (v := .agg ca) rfl rfl rfl rfl (by rw [hcs]; exact rowNd) rfl ?_
          simp only [nm0, nm1, nm2, nm3]
          refine wl_pure (v := .string ub) (fun W => rfl) rfl ?_
          simp only [nm0, nm1, nm2, nm3]
          refine wl_pure (v := .string kn) (fun W => rfl) rfl ?_
          simp only [nm0, nm1, nm2, nm3]
          refine wl_pure (v := .bool sb) (fun W => rfl) rfl ?_
          simp only [nm0, nm1, nm2, nm3]
          refine wl_callX (args := #[.agg ca, .string ub, .string kn, .bool sb]) (fun W => run_call_fn W (enters_of Try.func34 (by kernel_rfl) rfl) rfl (by simp [Act.eval]; try rfl)) (KB.out wr hM.below) rfl ?_
          rintro e X7 ⟨rfl, hb7⟩
          refine ⟨_, rfl, ?_⟩
          simp only [nm0, nm1, nm2, nm3]
          have hM8 := hM.calls hb7
          refine wl_pure (v := .bool m1) (fun W => rfl) rfl ?_
          simp only [nm0, nm1, nm2, nm3]
          cases m1 with
          | true =>
            have hge : us ub ≥ ev sb := of_decide_eq_true em1.symm
            have hA : decide (us ua ≥ ev sb) = true := decide_eq_true (by omega)
            rw [hA] at KA
            refine wl_row hM8 2 (v := .agg ca) rfl rfl rfl rfl (by rw [hcs]; exact rowNd) rfl ?_
            simp only [nm0, nm1, nm2, nm3]
            refine wl_pure (v := .string ua) (fun W => rfl) rfl ?_
            simp only [nm0, nm1, nm2, nm3]
            refine wl_pure (v := .string kn) (fun W => rfl) rfl ?_
            simp only [nm0, nm1, nm2, nm3]
            refine wl_pure (v := .bool sb) (fun W => rfl) rfl ?_
            simp only [nm0, nm1, nm2, nm3]
            refine wl_callX (args := #[.agg ca, .string ua, .string kn, .bool sb]) (fun W => run_call_fn W (enters_of Try.func34 (by kernel_rfl) rfl) rfl (by simp [Act.eval]; try rfl)) (KA.out X7 hM8.below) rfl ?_
            rintro e X8 ⟨rfl, hb8⟩
            refine ⟨_, rfl, ?_⟩
            simp only [nm0, nm1, nm2, nm3]
            have hM9 := hM8.calls hb8
            refine wl_pure (v := .bool false) (fun W => run_not_b W rfl rfl rfl) rfl ?_
            simp only [nm0, nm1, nm2, nm3]
            refine wl_pure (v := .bool false) (fun W => rfl) rfl ?_
            simp only [nm0, nm1, nm2, nm3]
            refine wpList_nil ?_
            have HM9 := Lib.hid hM9
            clear hM hM8 hM9 hb7 hb8 KA KB hge hA em1
            go_wp2_with fail
            exact ⟨⟨k + 1, rfl, hlt, HM9.out⟩, by show 2 - ((k : Int) + 1).toNat < 2 - (k : Int).toNat; omega⟩
          | false =>
            refine wl_skip rfl ?_
            simp only [nm0, nm1, nm2, nm3]
            refine wl_skip rfl ?_
            simp only [nm0, nm1, nm2, nm3]
            refine wl_skip rfl ?_
            simp only [nm0, nm1, nm2, nm3]
            refine wl_skip rfl ?_
            simp only [nm0, nm1, nm2, nm3]
            refine wl_skip rfl ?_
            simp only [nm0, nm1, nm2, nm3]
            refine wl_skip rfl ?_
            simp only [nm0, nm1, nm2, nm3]
            refine wl_pure (v := .bool false) (fun W => rfl) rfl ?_
            simp only [nm0, nm1, nm2, nm3]
            refine wpList_nil ?_
            have HM9 := Lib.hid hM8
            clear hM hM8 hb7 KA KB em1
            go_wp2_with fail
            exact ⟨⟨k + 1, rfl, hlt, HM9.out⟩, by show 2 - ((k : Int) + 1).toNat < 2 - (k : Int).toNat; omega⟩
        · have b1b : decide ((k : Int) < 2) = false := decide_eq_false (by omega)
          clear KM KU
          go_upto_region 12 with fail
          refine wp_region_lit ?_
          refine wl_call hM (args := #[.string strEvents]) (v := .agg #[.int .i64 4, .int .i64 0, .string strEvents, .slice none 0 0, .slice none 0 0]) (fun W => run_call_fn W (enters_of Try.func36 (by kernel_rfl) rfl) rfl (by simp [Act.eval]; try rfl)) (text_any wr strEvents) rfl fun Z1 hZ1 => ?_
          simp only [nm0, nm1, nm2, nm3]
          refine wl_pure (v := .string kn) (fun W => rfl) rfl ?_
          simp only [nm0, nm1, nm2, nm3]
          refine wl_call hZ1 (args := #[.string kn]) (v := .agg #[.int .i64 4, .int .i64 0, .string kn, .slice none 0 0, .slice none 0 0]) (fun W => run_call_fn W (enters_of Try.func36 (by kernel_rfl) rfl) rfl (by simp [Act.eval]; try rfl)) (text_any Z1 kn) rfl fun Z2 hZ2 => ?_
          simp only [nm0, nm1, nm2, nm3]
          refine wl_call hZ2 (args := #[.int .i64 7]) (v := .agg #[.int .i64 3, .int .i64 7, .string ByteArray.empty, .slice none 0 0, .slice none 0 0]) (fun W => run_call_fn W (enters_of Try.func37 (by kernel_rfl) rfl) rfl (by simp [Act.eval]; try rfl)) (int_any Z2 7) rfl fun Z3 hZ3 => ?_
          simp only [nm0, nm1, nm2, nm3]
          refine wl_new hZ3 (f := fun b => .slice (some ⟨b, 0, none⟩) 2 2) (fun W => run_slice_of rfl (by simp [Act.eval]) (bs_nd2 (.int .i64 4) (.int .i64 0) (.string kn) (.slice none 0 0) (.slice none 0 0) (.int .i64 3) (.int .i64 7) (.string ByteArray.empty) (.slice none 0 0) (.slice none 0 0) W)) rfl fun g1 Z4 hZ4 => ?_
          simp only [nm0, nm1, nm2, nm3]
          have hnds : IsNds Z4 (some ⟨g1, 0, none⟩) 2 (fun i => if i = 0 then [.int .i64 4, .int .i64 0, .string kn, .slice none 0 0, .slice none 0 0] else [.int .i64 3, .int .i64 7, .string ByteArray.empty, .slice none 0 0, .slice none 0 0]) [.mk 4 0 kn [] [], .mk 3 7 ByteArray.empty [] []] := nds2 (isNd_text Z4 kn wk) (isNd_int Z4 7 (by decide)) (hZ4.get 0 rfl)
          refine wl_callX (args := #[.slice (some ⟨g1, 0, none⟩) 2 2]) (fun W => run_call_fn W (enters_of Try.func35 (by kernel_rfl) rfl) rfl (by simp [Act.eval]; try rfl)) (map_any Z4 _ 2 2 _ _ hnds (by decide) (by decide)) rfl ?_
          rintro e Z5 ⟨cs1, hN1, rfl, hb9⟩
          refine ⟨_, rfl, ?_⟩
          simp only [nm0, nm1, nm2, nm3]
          have hZ5 := hZ4.calls hb9
          obtain ⟨a0, a1, a2, a3, a4, rfl⟩ := five_of hN1
          refine wl_new (Mem.start Z5) (f := fun b => .slice (some ⟨b, 0, none⟩) 2 2) (fun W => run_slice_of rfl (by simp [Act.eval]) (bs_nd2 (.int .i64 4) (.int .i64 0) (.string strEvents) (.slice none 0 0) (.slice none 0 0) a0 a1 a2 a3 a4 W)) rfl fun g2 X1 hX1 => ?_
          simp only [nm0, nm1, nm2, nm3]
          have hN1b := hN1.keep hX1.below
          have hM10 := hZ5.calls hX1.below
          have hnds2 : IsNds X1 (some ⟨g2, 0, none⟩) 2 (fun i => if i = 0 then [.int .i64 4, .int .i64 0, .string strEvents, .slice none 0 0, .slice none 0 0] else [a0, a1, a2, a3, a4]) [.mk 4 0 strEvents [] [], .mk 6 0 ByteArray.empty [kn] [.mk 3 7 ByteArray.empty [] []]] := nds2 (isNd_text X1 strEvents (by decide)) hN1b (hX1.get 0 rfl)
          refine wl_callX (args := #[.slice (some ⟨g2, 0, none⟩) 2 2]) (fun W => run_call_fn W (enters_of Try.func35 (by kernel_rfl) rfl) rfl (by simp [Act.eval]; try rfl)) (map_any X1 _ 2 2 _ _ hnds2 (by decide) (by decide)) rfl ?_
          rintro e X2 ⟨cs2, hN2, rfl, hbx⟩
          refine ⟨_, rfl, ?_⟩
          simp only [nm0, nm1, nm2, nm3]
          have hM11 := hM10.calls hbx
          have hN2 : IsNd X2 cs2 (exM kn) := hN2
          have h5 := isNd_len hN2
          have h1 := isNd_one hN2
          have KE := Lib.hid (fun W (hb : Below X2.heap.size X2 W) s => event_any W cs2 (exM kn) (hN2.keep hb) kn s)
          have hev : Nd.event (exM kn) kn = fun _ => 7 := by funext s; exact exM_event kn s
          rw [hev] at KE
          obtain ⟨kx, ekx⟩ : ∃ z, z = cs2.toArray := ⟨_, rfl⟩
          rw [← ekx] at h5 h1 KE ⊢
          clear ekx hN2 hnds2 hN1b hN1 hnds hev
          refine wl_new (Mem.start X2) (f := fun b => .pointer (some ⟨b, 0, none⟩)) (fun W => run_alloc_of rfl (al_Nd W)) rfl fun b11 X3 hX3 => ?_
          simp only [nm0, nm1, nm2, nm3]
          refine wl_set hX3 0 (cs := kx) rfl rfl rfl rfl (by rw [h5]; exact rowNd) (by rw [h5]; rfl) h1 rfl rfl fun X4 hX4 => ?_
          simp only [nm2, nm3] at hX4
          refine wpList_nil ?_
          have hM12 := hM11.calls hX4.below
          go_upto_region 13 with fail
          refine wp_region_lit ?_
          refine wl_row hX4 0 (v := .agg kx) rfl rfl rfl rfl (by rw [h5]; exact rowNd) rfl ?_
          simp only [nm0, nm1, nm2, nm3]
          refine wl_pure (v := .string kn) (fun W => rfl) rfl ?_
          simp only [nm0, nm1, nm2, nm3]
          refine wl_callX (args := #[.agg kx, .string kn, .bool true]) (fun W => run_call_fn W (enters_of Try.func32 (by kernel_rfl) rfl) rfl (by simp [Act.eval]; try rfl)) (KE.out X4 hX4.below true) rfl ?_
          rintro e X5 ⟨rfl, hb12⟩
          refine ⟨_, rfl, ?_⟩
          simp only [nm0, nm1, nm2, nm3]
          have hX5 := hX4.calls hb12
          refine wl_pure (v := .bool true) (fun W => by go_simp) rfl ?_
          simp only [nm0, nm1, nm2, nm3]
          refine wl_pure (v := .bool true) (fun W => rfl) rfl ?_
          simp only [nm0, nm1, nm2, nm3]
          refine wl_row hX5 0 (v := .agg kx) rfl rfl rfl rfl (by rw [h5]; exact rowNd) rfl ?_
          simp only [nm0, nm1, nm2, nm3]
          refine wl_pure (v := .string kn) (fun W => rfl) rfl ?_
          simp only [nm0, nm1, nm2, nm3]
          refine wl_callX (args := #[.agg kx, .string kn, .bool false]) (fun W => run_call_fn W (enters_of Try.func32 (by kernel_rfl) rfl) rfl (by simp [Act.eval]; try rfl)) (KE.out X5 hX5.below false) rfl ?_
          rintro e X6 ⟨rfl, hb13⟩
          refine ⟨_, rfl, ?_⟩
          simp only [nm0, nm1, nm2, nm3]
          have hX6 := hX5.calls hb13
          refine wl_pure (v := .bool true) (fun W => by go_simp) rfl ?_
          simp only [nm0, nm1, nm2, nm3]
          refine wl_pure (v := .bool true) (fun W => rfl) rfl ?_
          simp only [nm0, nm1, nm2, nm3]
          refine wl_pure (v := .bool true) (fun W => rfl) rfl ?_
          simp only [nm0, nm1, nm2, nm3]
          refine wl_callX (args := #[]) (fun W => run_call_fn W (enters_of Try.func27 (by kernel_rfl) rfl) rfl (by simp [Act.eval]; try rfl)) (KL.out X6) rfl ?_
          rintro e X7 ⟨rfl, hb14⟩
          refine ⟨_, rfl, ?_⟩
          simp only [nm0, nm1, nm2, nm3]
          have hX7 := hX6.calls hb14
          refine wl_pure (v := .bool true) (fun W => rfl) rfl ?_
          simp only [nm0, nm1, nm2, nm3]
          refine wl_pure (v := .bool true) (fun W => rfl) rfl ?_
          simp only [nm0, nm1, nm2, nm3]
          refine wpList_nil ?_
          have HB := Lib.hid (hM11.below.trans (hX7.below.mono hM11.below.size))
          clear hM hZ1 hZ2 hZ3 hZ4 hZ5 hX1 hX3 hX4 hX5 hX6 hX7 hM10 hM11 hM12 KE hb9 hbx hb12 hb13 hb14
          go_wp2_with fail
          exact bodyPost_ret (results_slot rfl rfl) rfl ⟨rfl, HB.out⟩
end Go.Proofs.Ytbheiglbejokmaa
