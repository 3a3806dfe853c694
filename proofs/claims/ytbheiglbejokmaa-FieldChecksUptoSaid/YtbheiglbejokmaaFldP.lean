/- The reference's Check (layer 29), over a node and rules. -/
import Derived.Test.YtbheiglbejokmaaFldO
namespace Go.Proofs.Ytbheiglbejokmaa
set_option maxRecDepth 20000
set_option linter.unusedSimpArgs false
set_option linter.unusedVariables false
open Go.RowKit Go.Sort Go.Lib
attribute [local go_sem] Oper.semAt_some
theorem fr_0o (b off : Nat) (W : World) : (Instr.fieldAt 35 (.pointer (some ⟨b, off, none⟩)) 0).run Try.prog W = .ok (.pointer (some ⟨b, off, none⟩)) W := by kernel_rfl
set_option maxRecDepth 100000 in
set_option maxHeartbeats 4000000 in
theorem rcheck_any (w : World) (cs : List Value) (N : Nd) (h : IsNd w cs N) (v : Value) (L : List Rl) (hL : IsRl w v L) (hmx : L.length ≤ 1000) :
    Calls Try.prog 12 #[.agg cs.toArray, v] w fun e w' => e = .returned (.tuple #[.string (N.checkE L).1, .int .i64 (N.checkE L).2]) ∧ Below w.heap.size w w' := by
  have HMIX := Lib.hid (show Try.prog.follows .mixedOrders = true by kernel_rfl)
  obtain ⟨a, len, cap, rfl, hlen, hlm, hrow⟩ := hL
  obtain ⟨s1, es1⟩ : ∃ z, z = (N.checkE L).1 := ⟨_, rfl⟩
  obtain ⟨s2, es2⟩ : ∃ z, z = (N.checkE L).2 := ⟨_, rfl⟩
  rw [← es1, ← es2]
  have KW := Lib.hid (fun W (hb : Below w.heap.size w W) r => rone_any W cs N (h.keep hb) r)
  have hcs := isNd_len h
  have hcs1 := isNd_one h
  have hk0 : cs.toArray[0]? = some (.int .i64 N.kind) := by cases h; rfl
  obtain ⟨kd, ekd⟩ : ∃ z, z = N.kind := ⟨_, rfl⟩
  rw [← ekd] at hk0
  obtain ⟨ca, eca⟩ : ∃ z, z = cs.toArray := ⟨_, rfl⟩
  rw [← eca] at KW hcs hcs1 hk0 ⊢
  have hRS : (s1, s2) = if kd = 6 then N.checkL L else (ByteArray.empty, 16) := by rw [es1, es2, ekd]; rfl
  have HRS := Lib.hid hRS
  have HR := Lib.hid hrow
  have HLN := Lib.hid hlen
  have hmx2 : len ≤ 1000 := by omega
  clear hRS es1 es2 ekd h eca hrow hmx hlen
  go_enter Try.func12, Try.ntmps12
  go_upto_region 0 with fail
  have hM0 := Mem.start w
  refine wp_region_lit ?_
  refine wl_new hM0 (f := fun b => .pointer (some ⟨b, 0, none⟩)) (ob := .cells ca 25 (0, 0)) (fun W => run_box_of rfl rfl (bx_Nd ca hcs W)) rfl fun b1 W1 hM1 => ?_
  simp only [nm0, nm1, nm2, nm3]
  refine wl_pure (v := .string ByteArray.empty) (fun W => rfl) rfl ?_
  simp only [nm0, nm1, nm2, nm3]
  refine wl_pure (v := .int .i64 0) (fun W => rfl) rfl ?_
  simp only [nm0, nm1, nm2, nm3]
  refine wpList_nil ?_
  go_upto_region 1 with fail
  refine wp_region_lit ?_
  refine wl_pure (v := .pointer (some ⟨b1, 0, none⟩)) (fun W => run_field_of rfl rfl (fl_K _ W)) rfl ?_
  simp only [nm0, nm1, nm2, nm3]
  refine wl_cell hM1 0 (v := .int .i64 kd) rfl rfl rfl hk0 cellI rfl ?_
  simp only [nm0, nm1, nm2, nm3]
  obtain ⟨z, ez⟩ : ∃ z, z = (kd != 6) := ⟨_, rfl⟩
  refine wl_pure (v := .bool z) (fun W => by rw [ez]; rfl) rfl ?_
  simp only [nm0, nm1, nm2, nm3]
  refine wpList_nil ?_
  by_cases c6 : kd = 6
  · have hz : z = false := by rw [ez, c6]; rfl
    have HS : Hid ((s1, s2) = N.checkL L) := Lib.hid (by have h := HRS.out; rw [if_pos c6] at h; exact h)
    subst hz
    clear HRS ez c6 hk0
    have HM := Lib.hid hM1
    clear hM0 hM1
    go_wp2_with fail
    go_loopw [6] (fun i wr => ∃ k : Nat, i = .int .i64 (k : Int) ∧ k ≤ len ∧ Hid ((s1, s2) = N.checkL (L.drop k)) ∧ Below W1.heap.size W1 wr) (fun i _ => len - (Go.RowKit.intOf i).toNat)
    case atStart => exact ⟨0, rfl, Nat.zero_le _, HS, Below.refl _ _⟩
    case round =>
      obtain ⟨k, rfl, hk, HK, hb⟩ := hrel
      have hM3 := HM.out.calls hb
      by_cases hlt : k < len
      · have d1 : (k : Int) < (len : Int) := by omega
        have b1b : decide ((k : Int) < (len : Int)) = true := decide_eq_true d1
        obtain ⟨b, off, rfl, hbl, _⟩ := HR.out.at_ (by omega)
        have hc := Lib.hid (HR.out.cells hlt)
        obtain ⟨r, er⟩ : ∃ x, x = L.getD k rl0 := ⟨_, rfl⟩
        rw [← er] at hc
        have HKR := Lib.hid (HK.out.trans (checkL_drop N L k (by rw [HLN.out]; exact hlt)))
        rw [← er] at HKR
        obtain ⟨we, ewe⟩ : ∃ x, x = N.wrongE r := ⟨_, rfl⟩
        rw [← ewe] at HKR
        have KWR := Lib.hid (fun W hW => KW.out W hW r)
        rw [← ewe] at KWR
        clear KW er ewe HK HS
        obtain ⟨nm, enm⟩ : ∃ x, x = r.name := ⟨_, rfl⟩
        rw [← enm] at HKR
        have hr0 : r.cs.toArray.toList[0]? = some (.string nm) := by rw [enm]; rfl
        have hcs5 : r.cs.toArray.size = 5 := rfl
        obtain ⟨ra, era⟩ : ∃ x, x = r.cs.toArray := ⟨_, rfl⟩
        rw [← era] at hc KWR hr0 hcs5
        clear era enm
        go_upto_region 6 with fail
        have hMd := hM3.drew
        refine wp_region_noPanic (hold_begin (S := fun W => W.heap[b1]? = some (.cells ca 25 (0, 0)) ∧ Below w.heap.size w W) (st := 5) HMIX.out ?_)
        change Hold _ _ _ _ _ _ 7 _ _ _
        generalize eV0 : wr.drew = V0 at hMd ⊢
        have hV0 := hMd
        clear hMd
        refine hl_take 0 17 [5] #[true, false, false, false, false, false, false] (by kernel_rfl) (v := .agg ca) rfl rfl (by kernel_rfl) (by kernel_rfl) (by kernel_rfl) (by kernel_rfl) (by kernel_rfl) (by kernel_rfl) rfl (fun W hW => run_load_row rfl rfl hW.1 (by rw [hcs]; exact rowNd)) (⟨hV0.get 0 rfl, hV0.below⟩) ?_
        simp only [nm0, nm1, nm2, nm3]
        refine hl_pure 1 18 #[true, true, false, false, false, false, false] (by kernel_rfl) (v := .slice (some ⟨b, off, none⟩) len cap) rfl rfl (by kernel_rfl) rfl (by kernel_rfl) (by kernel_rfl) rfl (fun W => rfl) (⟨hV0.get 0 rfl, hV0.below⟩) ?_
        simp only [nm0, nm1, nm2, nm3]
        refine hl_pure 2 19 #[true, true, true, false, false, false, false] (by kernel_rfl) (v := .int .i64 (k : Int)) rfl rfl (by kernel_rfl) rfl (by kernel_rfl) (by kernel_rfl) rfl (fun W => rfl) (⟨hV0.get 0 rfl, hV0.below⟩) ?_
        simp only [nm0, nm1, nm2, nm3]
        refine hl_pure 3 20 #[true, true, true, true, false, false, false] (by kernel_rfl) (v := .pointer (some ⟨b, off + k * 5, none⟩)) rfl rfl (by kernel_rfl) rfl (by kernel_rfl) (by kernel_rfl) rfl (fun W => run_index_of rfl rfl rfl (ix_Rl b off len cap k hlt W)) (⟨hV0.get 0 rfl, hV0.below⟩) ?_
        simp only [nm0, nm1, nm2, nm3]
        refine hl_take 4 21 [5] #[true, true, true, true, true, false, false] (by kernel_rfl) (v := .agg ra) rfl rfl (by kernel_rfl) (by kernel_rfl) (by kernel_rfl) (by kernel_rfl) (by kernel_rfl) (by kernel_rfl) rfl (fun W hW => run_load_cs rfl rfl (fun j v hv => (hW.2.cell (p := ⟨b, off + k * 5 + j, none⟩) hbl).trans (hc.out j v hv)) (by rw [hcs5]; exact rowRl)) (⟨hV0.get 0 rfl, hV0.below⟩) ?_
        simp only [nm0, nm1, nm2, nm3]
        refine hold_next (rs := [5]) (by kernel_rfl) (by simp) ?_
        intro i hi
        simp only [List.mem_cons, List.not_mem_nil, or_false] at hi
        subst hi
        refine hop_call (d := 22) (args := #[.agg ca, .agg ra]) rfl rfl rfl (fun W => run_call_fn W (enters_of Try.func42 (by kernel_rfl) rfl) rfl (by simp [Act.eval])) (KWR.out V0 hV0.below) #[true, true, true, true, true, true, false] (by kernel_rfl) ?_
        rintro e V1 ⟨rfl, hb1⟩
        have hV1 := hV0.calls hb1
        refine ⟨_, rfl, fun _ => ⟨hV1.get 0 rfl, hV1.below⟩, ?_⟩
        simp only [nm0, nm1, nm2, nm3]
        refine hl_pureS 6 7 #[true, true, true, true, true, true, true] (by kernel_rfl) (v := .int .i64 we) rfl rfl (by kernel_rfl) rfl (by kernel_rfl) (by kernel_rfl) rfl (fun W => rfl) (by kernel_rfl) ?_
        simp only [nm0, nm1, nm2, nm3]
        refine hold_done (by kernel_rfl) ?_ _
        refine NoPanic.normal ?_
        have HB := Lib.hid hV1.below
        have hbd : Below wr.heap.size wr V0 := by rw [← eV0]; exact (Mem.start wr).drew.below
        have HB2 := Lib.hid (hb.trans ((hbd.trans (hb1.mono hbd.size)).mono hb.size))
        have hnm : V1.cell? ⟨b, off + k * 5, none⟩ = some (.string nm) := (hV1.below.cell (p := ⟨b, off + k * 5, none⟩) hbl).trans (hc.out 0 (.string nm) hr0)
        have HNM := Lib.hid hnm
        clear hM3 hV0 hV1 hb hb1 hc KWR HM hnm eV0 hbd
        by_cases cw : we = 0
        · subst cw
          have HN := Lib.hid (HKR.out.trans (if_pos rfl))
          clear HKR HNM
          go_wp2_with fail
          exact ⟨⟨k + 1, rfl, hlt, HN, HB2.out⟩, by show len - ((k : Int) + 1).toNat < len - (k : Int).toNat; omega⟩
        · have cb : (we != 0) = true := by simpa using cw
          have hR := HKR.out.trans (if_neg cw)
          have hr1 : s1 = nm := congrArg Prod.fst hR
          have hr2 : s2 = we := congrArg Prod.snd hR
          clear HKR hR cw
          go_upto_region 8 with fail
          refine wp_region_lit ?_
          refine wl_pure (v := .slice (some ⟨b, off, none⟩) len cap) (fun W => rfl) rfl ?_
          simp only [nm0, nm1, nm2, nm3]
          refine wl_pure (v := .int .i64 (k : Int)) (fun W => rfl) rfl ?_
          simp only [nm0, nm1, nm2, nm3]
          refine wl_pure (v := .pointer (some ⟨b, off + k * 5, none⟩)) (fun W => run_index_of rfl rfl rfl (ix_Rl b off len cap k hlt W)) rfl ?_
          simp only [nm0, nm1, nm2, nm3]
          refine wl_pure (v := .pointer (some ⟨b, off + k * 5, none⟩)) (fun W => run_field_of rfl rfl (fr_0o _ _ W)) rfl ?_
          simp only [nm0, nm1, nm2, nm3]
          refine wl_val (v := .string nm) (run_load_c rfl rfl HNM.out cellS) rfl ?_
          simp only [nm0, nm1, nm2, nm3]
          refine wl_pure (v := .int .i64 we) (fun W => rfl) rfl ?_
          simp only [nm0, nm1, nm2, nm3]
          refine wl_pure (v := .string nm) (fun W => rfl) rfl ?_
          simp only [nm0, nm1, nm2, nm3]
          refine wl_pure (v := .int .i64 we) (fun W => rfl) rfl ?_
          simp only [nm0, nm1, nm2, nm3]
          refine wpList_nil ?_
          go_wp2_with fail
          rw [hr1, hr2]
          exact bodyPost_ret (results_tt rfl rfl rfl) rfl ⟨rfl, HB.out⟩
      · have b1b : decide ((k : Int) < (len : Int)) = false := decide_eq_false (by omega)
        have hR : (s1, s2) = N.checkL [] := by have h := HK.out; rw [List.drop_of_length_le (by rw [HLN.out]; omega)] at h; exact h
        have hr1 : s1 = ByteArray.empty := congrArg Prod.fst hR
        have hr2 : s2 = 0 := congrArg Prod.snd hR
        have HB := Lib.hid hM3.below
        clear hR HK HS hM3 hb
        go_wp2_with fail
        rw [hr1, hr2]
        exact bodyPost_ret (results_tt rfl rfl rfl) rfl ⟨rfl, HB.out⟩
  · have hz : z = true := by rw [ez]; simpa using c6
    have hR := HRS.out.trans (if_neg c6)
    have hr1 : s1 = ByteArray.empty := congrArg Prod.fst hR
    have hr2 : s2 = 16 := congrArg Prod.snd hR
    subst hz
    have HB := Lib.hid hM1.below
    clear hR HRS ez c6 hM0 hM1
    go_wp2_with fail
    rw [hr1, hr2]
    exact bodyPost_ret (results_tt rfl rfl rfl) rfl ⟨rfl, HB.out⟩
end Go.Proofs.Ytbheiglbejokmaa
