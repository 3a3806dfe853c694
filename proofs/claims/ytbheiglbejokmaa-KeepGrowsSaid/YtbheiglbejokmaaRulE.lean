/- field.Check (layer 29). -/
import Derived.Test.YtbheiglbejokmaaRulD
namespace Go.Proofs.Ytbheiglbejokmaa
set_option maxRecDepth 20000
set_option linter.unusedSimpArgs false
set_option linter.unusedVariables false
open Go.RowKit Go.Sort Go.Lib Go.MapKept
attribute [local go_sem] Oper.semAt_some
theorem results_tt2 {P : Program} {w : World} {fn : Func} {tmps : Array Value} {u v u' v' : Value} {s r : Nat} (h : fn.results = #[.tmp s, .tmp r]) (h1 : tmps.getD s undef = u) (h2 : tmps.getD r undef = v) (e1 : u = u') (e2 : v = v') : (results fn tmps).run P w = .ok (.tuple #[u', v']) w := by
  subst e1 e2
  exact results_tt h h1 h2
theorem checkL_drop (N : Nd) (L : List Rl) (k : Nat) (h : k < L.length) : N.checkL (L.drop k) = if N.wrongE (L.getD k rl0) = 0 then N.checkL (L.drop (k + 1)) else ((L.getD k rl0).name, N.wrongE (L.getD k rl0)) := by
  rw [List.drop_eq_getElem_cons h]
  have e : L.getD k rl0 = L[k] := by simp [h]
  rw [e]
  rfl
set_option maxRecDepth 100000 in
set_option maxHeartbeats 4000000 in
theorem check_any (w : World) (cs : List Value) (N : Nd) (h : IsNd w cs N) (v : Value) (L : List Rl) (hL : IsRl w v L) (hmx : L.length ≤ 1000) :
    Calls Try.prog 11 #[.agg cs.toArray, v] w fun e w' => e = .returned (.tuple #[.string (N.checkE L).1, .int .i64 (N.checkE L).2]) ∧ Below w.heap.size w w' := by
  obtain ⟨a, len, cap, rfl, hlen, hlm, hrow⟩ := hL
  obtain ⟨s1, es1⟩ : ∃ z, z = (N.checkE L).1 := ⟨_, rfl⟩
  obtain ⟨s2, es2⟩ : ∃ z, z = (N.checkE L).2 := ⟨_, rfl⟩
  rw [← es1, ← es2]
  have KW := Lib.hid (fun W (hb : Below w.heap.size w W) r mb hmb => wrong_any W cs N (h.keep hb) r mb hmb)
  have KL := Lib.hid looks_any
  have hcs := isNd_len h
  have hcs1 := isNd_one h
  have hk0 : cs.toArray[0]? = some (.int .i64 N.kind) := by cases h; rfl
  obtain ⟨kd, ekd⟩ : ∃ z, z = N.kind := ⟨_, rfl⟩
  rw [← ekd] at hk0
  obtain ⟨ca, eca⟩ : ∃ z, z = cs.toArray := ⟨_, rfl⟩
  rw [← eca] at KW hcs hcs1 hk0 ⊢
  have hRS : (s1, s2) = if kd = 6 then N.checkL L else (ByteArray.empty, 16) := by rw [es1, es2, ekd]; rfl
  have HRS := Lib.hid hRS
  have HR := Lib.hid hrow
  have HLN := Lib.hid hlen
  have hmx2 : len ≤ 1000 := by omega
  clear hRS es1 es2 ekd h eca hrow hmx hlen
  go_enter Try.func11, Try.ntmps11
  go_upto_region 0 with fail
  have hM0 := Mem.start w
  refine wp_region_lit ?_
  refine wl_new hM0 (f := fun b => .pointer (some ⟨b, 0, none⟩)) (ob := .cells ca 25 (0, 0)) (fun W => run_box_of rfl rfl (bx_Nd ca hcs W)) rfl fun b1 W1 hM1 => ?_
  simp only [nm0, nm1, nm2, nm3]
  refine wl_pure (v := .string ByteArray.empty) (fun W => rfl) rfl ?_
  simp only [nm0, nm1, nm2, nm3]
  refine wl_pure (v := .int .i64 0) (fun W => rfl) rfl ?_
  simp only [nm0, nm1, nm2, nm3]
  refine wpList_nil ?_
  go_upto_region 1 with fail
  refine wp_region_lit ?_
  refine wl_pure (v := .pointer (some ⟨b1, 0, none⟩)) (fun W => run_field_of rfl rfl (fl_K _ W)) rfl ?_
  simp only [nm0, nm1, nm2, nm3]
  refine wl_cell hM1 0 (v := .int .i64 kd) rfl rfl rfl hk0 cellI rfl ?_
  simp only [nm0, nm1, nm2, nm3]
  obtain ⟨z, ez⟩ : ∃ z, z = (kd != 6) := ⟨_, rfl⟩
  refine wl_pure (v := .bool z) (fun W => by rw [ez]; rfl) rfl ?_
  simp only [nm0, nm1, nm2, nm3]
  refine wpList_nil ?_
  by_cases c6 : kd = 6
  · have hz : z = false := by rw [ez, c6]; rfl
    have HS : Hid ((s1, s2) = N.checkL L) := Lib.hid (by have h := HRS.out; rw [if_pos c6] at h; exact h)
    subst hz
    clear HRS ez c6 hk0
    go_upto_region 3 with fail
    refine wp_region_lit ?_
    refine wl_callX (args := #[]) (fun W => run_call_fn W (enters_of Try.func40 (by kernel_rfl) rfl) rfl (by simp)) (KL.out W1) rfl ?_
    rintro e w2 ⟨mb, rfl, hmb, _, hb⟩
    refine ⟨_, rfl, ?_⟩
    simp only [nm0, nm1, nm2, nm3]
    have hM2 := hM1.calls hb
    refine wl_pure (v := .map (some mb)) (fun W => rfl) rfl ?_
    simp only [nm0, nm1, nm2, nm3]
    refine wpList_nil ?_
    have HM := Lib.hid hM2
    have HMB := Lib.hid hmb
    have hmbl := (Array.getElem?_eq_some_iff.1 hmb).1
    clear hM0 hM1 hM2 hmb hb KL
    go_wp2_with fail
    go_loopw [16] (fun i wr => ∃ k : Nat, i = .int .i64 (k : Int) ∧ k ≤ len ∧ Hid ((s1, s2) = N.checkL (L.drop k)) ∧ Below w2.heap.size w2 wr) (fun i _ => len - (Go.RowKit.intOf i).toNat)
    case atStart => exact ⟨0, rfl, Nat.zero_le _, HS, Below.refl _ _⟩
    case round =>
      obtain ⟨k, rfl, hk, HK, hb⟩ := hrel
      have hM3 := HM.out.calls hb
      have hmb3 := (hb.block mb hmbl).trans HMB.out
      by_cases hlt : k < len
      · have d1 : (k : Int) < (len : Int) := by omega
        have b1b : decide ((k : Int) < (len : Int)) = true := decide_eq_true d1
        obtain ⟨b, off, rfl, hbl, _⟩ := HR.out.at_ (by omega)
        have hc := Lib.hid ((HR.out.below hM3.below).cells hlt)
        obtain ⟨r, er⟩ : ∃ x, x = L.getD k rl0 := ⟨_, rfl⟩
        rw [← er] at hc
        have HKR := Lib.hid (HK.out.trans (checkL_drop N L k (by rw [HLN.out]; exact hlt)))
        rw [← er] at HKR
        obtain ⟨we, ewe⟩ : ∃ x, x = N.wrongE r := ⟨_, rfl⟩
        rw [← ewe] at HKR
        have KWR := Lib.hid (fun W hW hmW => KW.out W hW r mb hmW)
        rw [← ewe] at KWR
        clear KW er ewe HK HS
        obtain ⟨nm, enm⟩ : ∃ x, x = r.name := ⟨_, rfl⟩
        rw [← enm] at HKR
        have hr0 : r.cs.toArray[0]? = some (.string nm) := by rw [enm]; rfl
        have hcs5 : r.cs.toArray.size = 5 := rfl
        have hrc1 := rl_one r
        obtain ⟨ra, era⟩ : ∃ x, x = r.cs.toArray := ⟨_, rfl⟩
        rw [← era] at hc KWR hr0 hcs5 hrc1
        clear era enm
        have hb1 := hM3.below
        go_upto_region 6 with fail
        refine wp_region_lit ?_
        refine wl_pure (v := .pointer (some ⟨b, off + k * 5, none⟩)) (fun W => run_index_of rfl rfl rfl (ix_Rl b off len cap k hlt W)) rfl ?_
        simp only [nm0, nm1, nm2, nm3]
        refine wl_val (v := .agg ra) (run_load_cs rfl rfl hc.out (by rw [hcs5]; exact rowRl)) rfl ?_
        simp only [nm0, nm1, nm2, nm3]
        refine wl_new (Mem.start wr) (f := fun b => .pointer (some ⟨b, 0, none⟩)) (fun W => run_alloc_of rfl (al_Rl W)) rfl fun g W4 hM4 => ?_
        simp only [nm0, nm1, nm2, nm3]
        refine wl_set hM4 0 (cs := ra) rfl rfl rfl rfl (by rw [hcs5]; exact rowRl) (by rw [hcs5]; rfl) hrc1 rfl rfl fun W5 hM5 => ?_
        simp only [nm2, nm3] at hM5
        refine wpList_nil ?_
        have hB5 := hM5.below
        have hM5w := hM3.calls hB5
        have hmb5 := (hB5.block mb (Nat.lt_of_lt_of_le hmbl hb.size)).trans hmb3
        go_upto_region 7 with fail
        refine wp_region_lit ?_
        refine wl_row hM5w 0 (v := .agg ca) rfl rfl rfl rfl (by rw [hcs]; exact rowNd) rfl ?_
        simp only [nm0, nm1, nm2, nm3]
        refine wl_row hM5 0 (v := .agg ra) rfl rfl rfl rfl (by rw [hcs5]; exact rowRl) rfl ?_
        simp only [nm0, nm1, nm2, nm3]
        refine wl_pure (v := .map (some mb)) (fun W => rfl) rfl ?_
        simp only [nm0, nm1, nm2, nm3]
        refine wl_callX (args := #[.agg ca, .agg ra, .map (some mb)]) (fun W => run_call_fn W (enters_of Try.func41 (by kernel_rfl) rfl) rfl (by simp [Act.eval])) (KWR.out _ hM5w.below hmb5) rfl ?_
        rintro e w6 ⟨rfl, hb6⟩
        refine ⟨_, rfl, ?_⟩
        simp only [nm0, nm1, nm2, nm3]
        have hM6 := hM5w.calls hb6
        have hM6g := hM5.calls hb6
        refine wl_pure (v := .int .i64 we) (fun W => rfl) rfl ?_
        simp only [nm0, nm1, nm2, nm3]
        refine wpList_nil ?_
        have HB := Lib.hid hM6.below
        have HB2 := Lib.hid (hb.trans ((hB5.trans (hb6.mono hB5.size)).mono hb.size))
        have g0 := cell_of_row w6 g 0 _ _ _ (hM6g.get 0 rfl)
        rw [hr0] at g0
        have HG := Lib.hid hlt
        clear hM3 hM4 hM5 hM5w hM6 hM6g hmb3 hmb5 hb hb1 hB5 hb6 hc KWR HM HMB
        by_cases cw : we = 0
        · subst cw
          have HN := Lib.hid (HKR.out.trans (if_pos rfl))
          clear HKR
          go_wp2_with fail
          exact ⟨⟨k + 1, rfl, hlt, HN, HB2.out⟩, by show len - ((k : Int) + 1).toNat < len - (k : Int).toNat; omega⟩
        · have cb : (we != 0) = true := by simpa using cw
          have hR := HKR.out.trans (if_neg cw)
          have hr1 : s1 = nm := congrArg Prod.fst hR
          have hr2 : s2 = we := congrArg Prod.snd hR
          clear HKR hR cw
          go_wp2_with fail
          rw [hr1, hr2]
          exact bodyPost_ret (results_tt rfl rfl rfl) rfl ⟨rfl, HB.out⟩
      · have b1b : decide ((k : Int) < (len : Int)) = false := decide_eq_false (by omega)
        have hR : (s1, s2) = N.checkL [] := by have h := HK.out; rw [List.drop_of_length_le (by rw [HLN.out]; omega)] at h; exact h
        have hr1 : s1 = ByteArray.empty := congrArg Prod.fst hR
        have hr2 : s2 = 0 := congrArg Prod.snd hR
        have HB := Lib.hid hM3.below
        clear hR HK HS hM3 hmb3 hb
        go_wp2_with fail
        rw [hr1, hr2]
        exact bodyPost_ret (results_tt rfl rfl rfl) rfl ⟨rfl, HB.out⟩
  · have hz : z = true := by rw [ez]; simpa using c6
    have hR := HRS.out.trans (if_neg c6)
    have hr1 : s1 = ByteArray.empty := congrArg Prod.fst hR
    have hr2 : s2 = 16 := congrArg Prod.snd hR
    subst hz
    have HB := Lib.hid hM1.below
    clear hR HRS ez c6 hM0 hM1
    go_wp2_with fail
    rw [hr1, hr2]
    exact bodyPost_ret (results_tt rfl rfl rfl) rfl ⟨rfl, HB.out⟩
end Go.Proofs.Ytbheiglbejokmaa
