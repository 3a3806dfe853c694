/- The reference's Level, Of (layer 57). -/
import Derived.Test.YtbheiglbejokmaaPowG
namespace Go.Proofs.Ytbheiglbejokmaa
set_option maxRecDepth 20000
set_option linter.unusedSimpArgs false
set_option linter.unusedVariables false
open Go.RowKit Go.Sort Go.Lib Go.MapKept
attribute [local go_sem] Oper.semAt_some
theorem fl_0o (b off : Nat) (W : World) : (Instr.fieldAt 25 (.pointer (some ⟨b, off, none⟩)) 0).run Try.prog W = .ok (.pointer (some ⟨b, off, none⟩)) W := by kernel_rfl
theorem fl_1o (b off : Nat) (W : World) : (Instr.fieldAt 25 (.pointer (some ⟨b, off, none⟩)) 1).run Try.prog W = .ok (.pointer (some ⟨b, off + 1, none⟩)) W := by kernel_rfl
theorem isNd_k0 {w : World} {cs : List Value} {N : Nd} (h : IsNd w cs N) : cs.toArray.toList[0]? = some (.int .i64 N.kind) := by cases h; rfl
theorem isNd_k1 {w : World} {cs : List Value} {N : Nd} (h : IsNd w cs N) : cs.toArray.toList[1]? = some (.int .i64 N.num) := by cases h; rfl
set_option maxRecDepth 100000 in
set_option maxHeartbeats 4000000 in
theorem rlevel_any (w : World) (cs : List Value) (N : Nd) (h : IsNd w cs N) (name : ByteArray) (d : Int) :
    Calls Try.prog 58 #[.agg cs.toArray, .string name, .int .i64 d] w fun e w' => e = .returned (.int .i64 (N.lvl name d)) ∧ Below w.heap.size w w' := by
  have KA := Lib.hid (fun W (hW : Below w.heap.size w W) => rat_any W cs N (h.keep hW) name)
  have hcs := isNd_len h
  obtain ⟨rs, ers⟩ : ∃ z, z = N.lvl name d := ⟨_, rfl⟩
  rw [← ers]
  cases hat : N.at_ name with
  | none =>
    have hr : rs = d := by
      rw [ers]
      unfold Nd.lvl Nd.get
      rw [hat]
      rfl
    rw [hat] at KA
    obtain ⟨ca, eca⟩ : ∃ z, z = cs.toArray := ⟨_, rfl⟩
    rw [← eca] at KA hcs ⊢
    clear hat ers h eca
    go_enter Try.func58, Try.ntmps58
    go_upto_region 0 with fail
    have hM0 := Mem.start w
    refine wp_region_lit ?_
    refine wl_new hM0 (f := fun b => .pointer (some ⟨b, 0, none⟩)) (ob := .cells ca 25 (0, 0)) (fun W => run_box_of rfl rfl (bx_Nd ca hcs W)) rfl fun b1 W1 hM1 => ?_
    simp only [nm0, nm1, nm2, nm3]
    refine wl_pure (v := .int .i64 0) (fun W => rfl) rfl ?_
    simp only [nm0, nm1, nm2, nm3]
    refine wpList_nil ?_
    go_upto_region 1 with fail
    refine wp_region_lit ?_
    refine wl_row hM1 0 (v := .agg ca) rfl rfl rfl rfl (by rw [hcs]; exact rowNd) rfl ?_
    simp only [nm0, nm1, nm2, nm3]
    refine wl_pure (v := .string name) (fun W => rfl) rfl ?_
    simp only [nm0, nm1, nm2, nm3]
    refine wl_callX (args := #[.agg ca, .string name]) (fun W => run_call_fn W (enters_of Try.func65 (by kernel_rfl) rfl) rfl (by simp [Act.eval]; try rfl)) (KA.out W1 hM1.below) rfl ?_
    rintro e W2 ⟨rfl, hb2⟩
    refine ⟨_, rfl, ?_⟩
    simp only [nm0, nm1, nm2, nm3]
    refine wl_pure (v := .int .i64 (-1)) (fun W => rfl) rfl ?_
    simp only [nm0, nm1, nm2, nm3]
    refine wpList_nil ?_
    have HB := Lib.hid (hM1.calls hb2).below
    clear hM0 hM1 hb2 KA
    go_wp2_with fail
    rw [hr]
    exact bodyPost_ret (results_slot rfl rfl) rfl ⟨rfl, HB.out⟩
  | some i =>
    have hi := at_lt hat
    have hr : rs = if (N.vals[i]).kind = 3 then (N.vals[i]).num else d := by
      rw [ers]
      unfold Nd.lvl Nd.get
      rw [hat]
      simp [hi]
    rw [hat] at KA
    cases h with
    | @mk kind nn s ks ls ak lk ck al ll cl kid hkind hn2 hs hk hl hlm hrow hkids =>
      subst hl
      have hi : i < ls.length := hi
      have hr : rs = if (ls[i]).kind = 3 then (ls[i]).num else d := hr
      obtain ⟨b, off, rfl, hbl, _⟩ := hrow.at_ (by omega)
      have hc := hrow.cells hi
      have hN := hkids i hi
      obtain ⟨M, eM⟩ : ∃ M, M = ls[i] := ⟨_, rfl⟩
      rw [← eM] at hN hr
      obtain ⟨vk, evk⟩ : ∃ z, z = M.kind := ⟨_, rfl⟩
      obtain ⟨nu, enu⟩ : ∃ z, z = M.num := ⟨_, rfl⟩
      rw [← evk, ← enu] at hr
      have c0 : w.cell? ⟨b, off + i * 5, none⟩ = some (.int .i64 vk) := hc 0 (.int .i64 vk) (by rw [evk]; exact isNd_k0 hN)
      have c1 : w.cell? ⟨b, off + i * 5 + 1, none⟩ = some (.int .i64 nu) := hc 1 (.int .i64 nu) (by rw [enu]; exact isNd_k1 hN)
      have HR := Lib.hid hr
      have C0 := Lib.hid c0
      have C1 := Lib.hid c1
      clear hkids hrow hc hN eM evk enu hr c0 c1 hk hs hkind hn2 ers hat
      obtain ⟨ca, eca⟩ : ∃ z : Array Value, z = [.int .i64 kind, .int .i64 nn, .string s, .slice ak lk ck, .slice (some ⟨b, off, none⟩) ls.length cl].toArray := ⟨_, rfl⟩
      have h4 : ca[4]? = some (.slice (some ⟨b, off, none⟩) ls.length cl) := by rw [eca]; rfl
      rw [← eca] at KA hcs ⊢
      clear eca
      go_enter Try.func58, Try.ntmps58
      go_upto_region 0 with fail
      have hM0 := Mem.start w
      refine wp_region_lit ?_
      refine wl_new hM0 (f := fun b => .pointer (some ⟨b, 0, none⟩)) (ob := .cells ca 25 (0, 0)) (fun W => run_box_of rfl rfl (bx_Nd ca hcs W)) rfl fun b1 W1 hM1 => ?_
      simp only [nm0, nm1, nm2, nm3]
      refine wl_pure (v := .int .i64 0) (fun W => rfl) rfl ?_
      simp only [nm0, nm1, nm2, nm3]
      refine wpList_nil ?_
      go_upto_region 1 with fail
      refine wp_region_lit ?_
      refine wl_row hM1 0 (v := .agg ca) rfl rfl rfl rfl (by rw [hcs]; exact rowNd) rfl ?_
      simp only [nm0, nm1, nm2, nm3]
      refine wl_pure (v := .string name) (fun W => rfl) rfl ?_
      simp only [nm0, nm1, nm2, nm3]
      refine wl_callX (args := #[.agg ca, .string name]) (fun W => run_call_fn W (enters_of Try.func65 (by kernel_rfl) rfl) rfl (by simp [Act.eval]; try rfl)) (KA.out W1 hM1.below) rfl ?_
      rintro e W2 ⟨rfl, hb2⟩
      refine ⟨_, rfl, ?_⟩
      simp only [nm0, nm1, nm2, nm3]
      refine wl_pure (v := .int .i64 (i : Int)) (fun W => rfl) rfl ?_
      simp only [nm0, nm1, nm2, nm3]
      refine wpList_nil ?_
      have hM2 := hM1.calls hb2
      have hneg : decide ((i : Int) < 0) = false := decide_eq_false (by omega)
      go_upto_region 2 with fail
      refine wp_region_lit ?_
      refine wl_pure (v := .int .i64 (i : Int)) (fun W => rfl) rfl ?_
      simp only [nm0, nm1, nm2, nm3]
      refine wl_pure (v := .bool false) (fun W => by go_simp) rfl ?_
      simp only [nm0, nm1, nm2, nm3]
      refine wl_pure (v := .bool false) (fun W => rfl) rfl ?_
      simp only [nm0, nm1, nm2, nm3]
      refine wl_pure (v := .pointer (some ⟨b1, 4, none⟩)) (fun W => run_field_of rfl rfl (fl_L _ W)) rfl ?_
      simp only [nm0, nm1, nm2, nm3]
      refine wl_cell hM2 0 (v := .slice (some ⟨b, off, none⟩) ls.length cl) rfl rfl rfl h4 cellKs rfl ?_
      simp only [nm0, nm1, nm2, nm3]
      refine wl_pure (v := .int .i64 (i : Int)) (fun W => rfl) rfl ?_
      simp only [nm0, nm1, nm2, nm3]
      refine wl_pure (v := .pointer (some ⟨b, off + i * 5, none⟩)) (fun W => run_index_of rfl rfl rfl (ix_L b off ls.length cl i hi W)) rfl ?_
      simp only [nm0, nm1, nm2, nm3]
      refine wl_pure (v := .pointer (some ⟨b, off + i * 5, none⟩)) (fun W => run_field_of rfl rfl (fl_0o _ _ W)) rfl ?_
      simp only [nm0, nm1, nm2, nm3]
      refine wl_val (v := .int .i64 vk) (run_load_c rfl rfl ((hM2.below.cell (p := ⟨b, off + i * 5, none⟩) hbl).trans C0.out) cellI) rfl ?_
      simp only [nm0, nm1, nm2, nm3]
      obtain ⟨c, ec⟩ : ∃ c, c = (vk != 3) := ⟨_, rfl⟩
      refine wl_pure (v := .bool c) (fun W => by rw [ec]; rfl) rfl ?_
      simp only [nm0, nm1, nm2, nm3]
      refine wl_pure (v := .bool c) (fun W => rfl) rfl ?_
      simp only [nm0, nm1, nm2, nm3]
      refine wpList_nil ?_
      cases c with
      | true =>
        have hv : ¬vk = 3 := by simpa using ec.symm
        have hr2 : rs = d := by rw [HR.out, if_neg hv]
        have HB := Lib.hid hM2.below
        clear hM0 hM1 hM2 hb2 KA ec hv HR
        go_wp2_with fail
        rw [hr2]
        exact bodyPost_ret (results_slot rfl rfl) rfl ⟨rfl, HB.out⟩
      | false =>
        have hv : vk = 3 := by simpa using ec.symm
        have hr2 : rs = nu := by rw [HR.out, if_pos hv]
        clear ec HR hneg
        go_upto_region 4 with fail
        refine wp_region_lit ?_
        refine wl_pure (v := .pointer (some ⟨b1, 4, none⟩)) (fun W => run_field_of rfl rfl (fl_L _ W)) rfl ?_
        simp only [nm0, nm1, nm2, nm3]
        refine wl_cell hM2 0 (v := .slice (some ⟨b, off, none⟩) ls.length cl) rfl rfl rfl h4 cellKs rfl ?_
        simp only [nm0, nm1, nm2, nm3]
        refine wl_pure (v := .int .i64 (i : Int)) (fun W => rfl) rfl ?_
        simp only [nm0, nm1, nm2, nm3]
        refine wl_pure (v := .pointer (some ⟨b, off + i * 5, none⟩)) (fun W => run_index_of rfl rfl rfl (ix_L b off ls.length cl i hi W)) rfl ?_
        simp only [nm0, nm1, nm2, nm3]
        refine wl_pure (v := .pointer (some ⟨b, off + i * 5 + 1, none⟩)) (fun W => run_field_of rfl rfl (fl_1o _ _ W)) rfl ?_
        simp only [nm0, nm1, nm2, nm3]
        refine wl_val (v := .int .i64 nu) (run_load_c rfl rfl ((hM2.below.cell (p := ⟨b, off + i * 5 + 1, none⟩) hbl).trans C1.out) cellJ) rfl ?_
        simp only [nm0, nm1, nm2, nm3]
        refine wl_pure (v := .int .i64 nu) (fun W => rfl) rfl ?_
        simp only [nm0, nm1, nm2, nm3]
        refine wpList_nil ?_
        have HB := Lib.hid hM2.below
        clear hM0 hM1 hM2 hb2 KA hv
        go_wp2_with fail
        rw [hr2]
        exact bodyPost_ret (results_slot rfl rfl) rfl ⟨rfl, HB.out⟩
theorem bs_nm7 (W : World) : (Instr.buildSlice 22 7 #[(0, .string pnm0), (1, .string pnm1), (2, .string pnm2), (3, .string pnm3), (4, .string pnm4), (5, .string pnm5), (6, .string pnm6)]).run Try.prog W = .ok (.slice (some ⟨W.heap.size, 0, none⟩) 7 7) (W.alloc (.cells #[.string pnm0, .string pnm1, .string pnm2, .string pnm3, .string pnm4, .string pnm5, .string pnm6] 9 (0, 0))) := by kernel_rfl
theorem bs_df7 (W : World) : (Instr.buildSlice 55 7 #[(0, .int .i64 50), (1, .int .i64 50), (2, .int .i64 50), (3, .int .i64 0), (4, .int .i64 50), (5, .int .i64 0), (6, .int .i64 0)]).run Try.prog W = .ok (.slice (some ⟨W.heap.size, 0, none⟩) 7 7) (W.alloc (.cells #[.int .i64 50, .int .i64 50, .int .i64 50, .int .i64 0, .int .i64 50, .int .i64 0, .int .i64 0] 2 (0, 0))) := by kernel_rfl
theorem bs_J (z : Int) (W : World) : (Instr.buildSlice 55 1 #[(0, .int .i64 z)]).run Try.prog W = .ok (.slice (some ⟨W.heap.size, 0, none⟩) 1 1) (W.alloc (.cells #[.int .i64 z] 2 (0, 0))) := by kernel_rfl
theorem ix_S (g k n c : Nat) (hk : k < n) (W : World) : (Instr.indexAt 22 (.slice (some ⟨g, 0, none⟩) n c) (.int .i64 (k : Int))).run Try.prog W = .ok (.pointer (some ⟨g, k, none⟩)) W := by
  have h1 : (0 : Int) ≤ (k : Int) := by omega
  have h2 : (k : Int) < (n : Int) := by omega
  have e : (⟨g, 0, none⟩ : Addr).add (k * 1) = ⟨g, k, none⟩ := by unfold Addr.add; split <;> simp_all
  go_simp
theorem ix_J (g k n c : Nat) (hk : k < n) (W : World) : (Instr.indexAt 55 (.slice (some ⟨g, 0, none⟩) n c) (.int .i64 (k : Int))).run Try.prog W = .ok (.pointer (some ⟨g, k, none⟩)) W := by
  have h1 : (0 : Int) ≤ (k : Int) := by omega
  have h2 : (k : Int) < (n : Int) := by omega
  have e : (⟨g, 0, none⟩ : Addr).add (k * 1) = ⟨g, k, none⟩ := by unfold Addr.add; split <;> simp_all
  go_simp
theorem k7 {k : Nat} (h : k < 7) : k = 0 ∨ k = 1 ∨ k = 2 ∨ k = 3 ∨ k = 4 ∨ k = 5 ∨ k = 6 := by omega
theorem nm_at {k : Nat} (h : k < 7) : (#[.string pnm0, .string pnm1, .string pnm2, .string pnm3, .string pnm4, .string pnm5, .string pnm6] : Array Value)[k]? = some (.string (pnms.getD k ByteArray.empty)) := by rcases k7 h with rfl | rfl | rfl | rfl | rfl | rfl | rfl <;> rfl
theorem df_at {k : Nat} (h : k < 7) : (#[.int .i64 50, .int .i64 50, .int .i64 50, .int .i64 0, .int .i64 50, .int .i64 0, .int .i64 0] : Array Value)[k]? = some (.int .i64 (pdefs.getD k 0)) := by rcases k7 h with rfl | rfl | rfl | rfl | rfl | rfl | rfl <;> rfl
theorem lv_step (N : Nd) {k : Nat} (h : k < 7) : N.lvls.toList.take k ++ [.int .i64 (N.lvl (pnms.getD k ByteArray.empty) (pdefs.getD k 0))] = N.lvls.toList.take (k + 1) := by rcases k7 h with rfl | rfl | rfl | rfl | rfl | rfl | rfl <;> rfl
theorem Try.info_J : (Try.prog.info? 2).map (fun i => (i.zero, i.size, i.bytes)) = some (some (.int .i64 0), 1, 8) := by kernel_rfl
set_option maxRecDepth 100000 in
set_option maxHeartbeats 4000000 in
theorem rof_any (w : World) (cs : List Value) (N : Nd) (h : IsNd w cs N) :
    Calls Try.prog 29 #[.agg cs.toArray] w fun e w' => ∃ (g cap : Nat) (r : List Value), e = .returned (.slice (some ⟨g, 0, none⟩) 7 cap) ∧ w'.heap[g]? = some (.cells (N.lvls.toList ++ r).toArray 2 (0, 0)) ∧ w.heap.size ≤ g ∧ Below w.heap.size w w' := by
  have HMIX := Lib.hid (show Try.prog.follows .mixedOrders = true by kernel_rfl)
  obtain ⟨i1, hj, hy0, hy1, hy2⟩ := info_parts Try.info_J
  have KL := Lib.hid (fun W (hW : Below w.heap.size w W) => rlevel_any W cs N (h.keep hW))
  have hcs := isNd_len h
  obtain ⟨ca, eca⟩ : ∃ z, z = cs.toArray := ⟨_, rfl⟩
  rw [← eca] at KL hcs ⊢
  clear h eca
  go_enter Try.func29, Try.ntmps29
  go_upto_region 0 with fail
  have hM0 := Mem.start w
  refine wp_region_lit ?_
  refine wl_new hM0 (f := fun b => .pointer (some ⟨b, 0, none⟩)) (ob := .cells ca 25 (0, 0)) (fun W => run_box_of rfl rfl (bx_Nd ca hcs W)) rfl fun b1 W1 hM1 => ?_
  simp only [nm0, nm1, nm2, nm3]
  refine wl_pure (v := .slice none 0 0) (fun W => rfl) rfl ?_
  simp only [nm0, nm1, nm2, nm3]
  refine wpList_nil ?_
  go_upto_region 1 with fail
  refine wp_region_lit ?_
  refine wl_new hM1 (f := fun b => .slice (some ⟨b, 0, none⟩) 7 7) (fun W => run_slice_of rfl (by simp [Act.eval]; exact ⟨rfl, rfl, rfl, rfl, rfl, rfl, rfl⟩) (bs_nm7 W)) rfl fun gN W2 hM2 => ?_
  simp only [nm0, nm1, nm2, nm3]
  refine wl_pure (v := .slice (some ⟨gN, 0, none⟩) 7 7) (fun W => rfl) rfl ?_
  simp only [nm0, nm1, nm2, nm3]
  refine wpList_nil ?_
  go_upto_region 2 with fail
  refine wp_region_lit ?_
  refine wl_new hM2 (f := fun b => .slice (some ⟨b, 0, none⟩) 7 7) (fun W => run_slice_of rfl (by simp [Act.eval]) (bs_df7 W)) rfl fun gO W3 hM3 => ?_
  simp only [nm0, nm1, nm2, nm3]
  refine wl_pure (v := .slice (some ⟨gO, 0, none⟩) 7 7) (fun W => rfl) rfl ?_
  simp only [nm0, nm1, nm2, nm3]
  refine wpList_nil ?_
  have HM3 := Lib.hid hM3
  clear hM0 hM1 hM2 hM3
  go_wp2_with fail
  go_loopw [5, 6] (fun v5 v6 wr => ∃ (k : Nat) (B : List Blk), v6 = .int .i64 (k : Int) ∧ k ≤ 7 ∧ Hid (Row0 2 1 v5 k (N.lvls.toList.take k) B) ∧ Hid (Mem w (B ++ [(gO, .cells #[.int .i64 50, .int .i64 50, .int .i64 50, .int .i64 0, .int .i64 50, .int .i64 0, .int .i64 0] 2 (0, 0)), (gN, .cells #[.string pnm0, .string pnm1, .string pnm2, .string pnm3, .string pnm4, .string pnm5, .string pnm6] 9 (0, 0)), (b1, .cells ca 25 (0, 0))]) wr)) (fun _ v6 _ => 7 - (Go.RowKit.intOf v6).toNat)
  case atStart => exact ⟨0, [], rfl, by decide, Lib.hid .nil, HM3⟩
  case round =>
    obtain ⟨k, B, rfl, hk, HR, HM⟩ := hrel
    clear HM3
    by_cases hlt : k < 7
    · have b1b : decide ((k : Int) < 7) = true := decide_eq_true (by omega)
      have hsz := lvls_size N
      obtain ⟨nk, enk⟩ : ∃ z, z = pnms.getD k ByteArray.empty := ⟨_, rfl⟩
      obtain ⟨dk, edk⟩ : ∃ z, z = pdefs.getD k 0 := ⟨_, rfl⟩
      have hnk := nm_at hlt
      have hdk := df_at hlt
      have hst := lv_step N hlt
      rw [← enk] at hnk hst
      rw [← edk] at hdk hst
      obtain ⟨lk, elk⟩ : ∃ z, z = N.lvl nk dk := ⟨_, rfl⟩
      rw [← elk] at hst
      have KL2 := Lib.hid (fun W hW => KL.out W hW nk dk)
      rw [← elk] at KL2
      have HST := Lib.hid hst
      clear enk edk elk hst
      have hSS : ∀ (M : List Blk) (W : World), (gO, Obj.cells #[Value.int .i64 50, Value.int .i64 50, Value.int .i64 50, Value.int .i64 0, Value.int .i64 50, Value.int .i64 0, Value.int .i64 0] 2 (0, 0)) ∈ M → (gN, Obj.cells #[Value.string pnm0, Value.string pnm1, Value.string pnm2, Value.string pnm3, Value.string pnm4, Value.string pnm5, Value.string pnm6] 9 (0, 0)) ∈ M → (b1, Obj.cells ca 25 (0, 0)) ∈ M → Mem w M W → W.heap[b1]? = some (.cells ca 25 (0, 0)) ∧ W.heap[gN]? = some (.cells #[.string pnm0, .string pnm1, .string pnm2, .string pnm3, .string pnm4, .string pnm5, .string pnm6] 9 (0, 0)) ∧ W.heap[gO]? = some (.cells #[.int .i64 50, .int .i64 50, .int .i64 50, .int .i64 0, .int .i64 50, .int .i64 0, .int .i64 0] 2 (0, 0)) := fun M W h1 h2 h3 hW => ⟨hW.at_ _ h3, hW.at_ _ h2, hW.at_ _ h1⟩
      have hMb := HM.out
      go_upto_region 7 with fail
      have hMd := hMb.drew
      refine wp_region_noPanic (hold_begin (S := fun W => W.heap[b1]? = some (.cells ca 25 (0, 0)) ∧ W.heap[gN]? = some (.cells #[.string pnm0, .string pnm1, .string pnm2, .string pnm3, .string pnm4, .string pnm5, .string pnm6] 9 (0, 0)) ∧ W.heap[gO]? = some (.cells #[.int .i64 50, .int .i64 50, .int .i64 50, .int .i64 0, .int .i64 50, .int .i64 0, .int .i64 0] 2 (0, 0))) (st := 10) HMIX.out ?_)
      change Hold _ _ _ _ _ _ 14 _ _ _
      generalize eV0 : wr.drew = V0 at hMd ⊢
      have hV0 := hMd
      clear hMd
      have hS0 := hSS _ V0 (by simp) (by simp) (by simp) hV0
      refine hl_pure 0 13 #[true, false, false, false, false, false, false, false, false, false, false, false, false, false] (by kernel_rfl) (v := u5) rfl rfl (by kernel_rfl) rfl (by kernel_rfl) (by kernel_rfl) rfl (fun W => rfl) (hS0) ?_
      simp only [nm0, nm1, nm2, nm3]
      refine hl_take 1 14 [10] #[true, true, false, false, false, false, false, false, false, false, false, false, false, false] (by kernel_rfl) (v := .agg ca) rfl rfl (by kernel_rfl) (by kernel_rfl) (by kernel_rfl) (by kernel_rfl) (by kernel_rfl) (by kernel_rfl) rfl (fun W hW => run_load_row rfl rfl hW.1 (by rw [hcs]; exact rowNd)) (hS0) ?_
      simp only [nm0, nm1, nm2, nm3]
      refine hl_pure 2 15 #[true, true, true, false, false, false, false, false, false, false, false, false, false, false] (by kernel_rfl) (v := .slice (some ⟨gN, 0, none⟩) 7 7) rfl rfl (by kernel_rfl) rfl (by kernel_rfl) (by kernel_rfl) rfl (fun W => rfl) (hS0) ?_
      simp only [nm0, nm1, nm2, nm3]
      refine hl_pure 3 16 #[true, true, true, true, false, false, false, false, false, false, false, false, false, false] (by kernel_rfl) (v := .int .i64 (k : Int)) rfl rfl (by kernel_rfl) rfl (by kernel_rfl) (by kernel_rfl) rfl (fun W => rfl) (hS0) ?_
      simp only [nm0, nm1, nm2, nm3]
      refine hl_pure 4 17 #[true, true, true, true, true, false, false, false, false, false, false, false, false, false] (by kernel_rfl) (v := .pointer (some ⟨gN, k, none⟩)) rfl rfl (by kernel_rfl) rfl (by kernel_rfl) (by kernel_rfl) rfl (fun W => run_index_of rfl rfl rfl (ix_S gN k 7 7 hlt W)) (hS0) ?_
      simp only [nm0, nm1, nm2, nm3]
      refine hl_take 5 18 [10] #[true, true, true, true, true, true, false, false, false, false, false, false, false, false] (by kernel_rfl) (v := .string nk) rfl rfl (by kernel_rfl) (by kernel_rfl) (by kernel_rfl) (by kernel_rfl) (by kernel_rfl) (by kernel_rfl) rfl (fun W hW => run_load_cell rfl rfl hW.2.1 hnk cellS) (hS0) ?_
      simp only [nm0, nm1, nm2, nm3]
      refine hl_pure 6 19 #[true, true, true, true, true, true, true, false, false, false, false, false, false, false] (by kernel_rfl) (v := .slice (some ⟨gO, 0, none⟩) 7 7) rfl rfl (by kernel_rfl) rfl (by kernel_rfl) (by kernel_rfl) rfl (fun W => rfl) (hS0) ?_
      simp only [nm0, nm1, nm2, nm3]
      refine hl_pure 7 20 #[true, true, true, true, true, true, true, true, false, false, false, false, false, false] (by kernel_rfl) (v := .int .i64 (k : Int)) rfl rfl (by kernel_rfl) rfl (by kernel_rfl) (by kernel_rfl) rfl (fun W => rfl) (hS0) ?_
      simp only [nm0, nm1, nm2, nm3]
      refine hl_pure 8 21 #[true, true, true, true, true, true, true, true, true, false, false, false, false, false] (by kernel_rfl) (v := .pointer (some ⟨gO, k, none⟩)) rfl rfl (by kernel_rfl) rfl (by kernel_rfl) (by kernel_rfl) rfl (fun W => run_index_of rfl rfl rfl (ix_J gO k 7 7 hlt W)) (hS0) ?_
      simp only [nm0, nm1, nm2, nm3]
      refine hl_take 9 22 [10] #[true, true, true, true, true, true, true, true, true, true, false, false, false, false] (by kernel_rfl) (v := .int .i64 dk) rfl rfl (by kernel_rfl) (by kernel_rfl) (by kernel_rfl) (by kernel_rfl) (by kernel_rfl) (by kernel_rfl) rfl (fun W hW => run_load_cell rfl rfl hW.2.2 hdk cellJ) (hS0) ?_
      simp only [nm0, nm1, nm2, nm3]
      refine hold_next (rs := [10]) (by kernel_rfl) (by simp) ?_
      intro i hi
      simp only [List.mem_cons, List.not_mem_nil, or_false] at hi
      subst hi
      refine hop_call (d := 23) (args := #[.agg ca, .string nk, .int .i64 dk]) rfl rfl rfl (fun W => run_call_fn W (enters_of Try.func58 (by kernel_rfl) rfl) rfl (by simp [Act.eval]; try rfl)) (KL2.out V0 hV0.below) #[true, true, true, true, true, true, true, true, true, true, true, false, false, false] (by kernel_rfl) ?_
      rintro e V1 ⟨rfl, hb1⟩
      have hV1 := hV0.calls hb1
      refine ⟨_, rfl, fun _ => hSS _ V1 (by simp) (by simp) (by simp) hV1, ?_⟩
      simp only [nm0, nm1, nm2, nm3]
      refine hold_next (rs := [11]) (by kernel_rfl) (by simp) ?_
      intro i hi
      simp only [List.mem_cons, List.not_mem_nil, or_false] at hi
      subst hi
      refine hop_new (d := 24) (f := fun b => .slice (some ⟨b, 0, none⟩) 1 1) (ob := .cells #[.int .i64 lk] 2 (0, 0)) rfl rfl rfl hV1 (fun W => run_slice_of rfl (by simp [Act.eval]) (bs_J lk W)) #[true, true, true, true, true, true, true, true, true, true, true, true, false, false] (by kernel_rfl) fun g2 V2 hV2 => ⟨hSS _ V2 (by simp) (by simp) (by simp) hV2, ?_⟩
      simp only [nm0, nm1, nm2, nm3]
      have hV2b : Mem w (B ++ ([(g2, .cells #[.int .i64 lk] 2 (0, 0))] ++ [(gO, .cells #[.int .i64 50, .int .i64 50, .int .i64 50, .int .i64 0, .int .i64 50, .int .i64 0, .int .i64 0] 2 (0, 0)), (gN, .cells #[.string pnm0, .string pnm1, .string pnm2, .string pnm3, .string pnm4, .string pnm5, .string pnm6] 9 (0, 0)), (b1, .cells ca 25 (0, 0))])) V2 := hV2.perm (List.perm_append_comm_assoc _ _ _)
      refine hold_next (rs := [12]) (by kernel_rfl) (by simp) ?_
      intro i hi
      simp only [List.mem_cons, List.not_mem_nil, or_false] at hi
      subst hi
      refine hop_app (d := 25) rfl rfl rfl hV2b HR.out rfl Try.underlying55 hj hy0 hy1 hy2 rfl (by decide) rfl (news := [.int .i64 lk]) rfl (hV2.get 0 rfl) (by decide) rfl (by simp [Value.oneCell']) (by unfold maxLen; omega) (by omega) #[true, true, true, true, true, true, true, true, true, true, true, true, true, false] (by kernel_rfl) fun v5 B2 V3 hR3 hV3 => ⟨hSS _ V3 (by simp) (by simp) (by simp) hV3, ?_⟩
      simp only [nm0, nm1, nm2, nm3]
      refine hl_pureS 13 5 #[true, true, true, true, true, true, true, true, true, true, true, true, true, true] (by kernel_rfl) (v := v5) rfl rfl (by kernel_rfl) rfl (by kernel_rfl) (by kernel_rfl) rfl (fun W => rfl) (by kernel_rfl) ?_
      simp only [nm0, nm1, nm2, nm3]
      refine hold_done (by kernel_rfl) ?_ _
      refine NoPanic.normal ?_
      have HR3 : Hid (Row0 2 1 v5 (k + 1) (N.lvls.toList.take (k + 1)) B2) := Lib.hid (by rw [← HST.out]; exact hR3)
      have HM3 : Hid (Mem w (B2 ++ [(gO, .cells #[.int .i64 50, .int .i64 50, .int .i64 50, .int .i64 0, .int .i64 50, .int .i64 0, .int .i64 0] 2 (0, 0)), (gN, .cells #[.string pnm0, .string pnm1, .string pnm2, .string pnm3, .string pnm4, .string pnm5, .string pnm6] 9 (0, 0)), (b1, .cells ca 25 (0, 0))]) V3) := Lib.hid (Mem.tail (hV3.perm (List.perm_append_comm_assoc [(g2, .cells #[.int .i64 lk] 2 (0, 0))] B2 _)))
      clear hV0 hV1 hV2 hV2b hV3 hR3 hb1 hMb hSS hS0 eV0 HM HR KL KL2 HST hnk hdk
      go_wp2_with fail
      exact ⟨⟨k + 1, B2, rfl, hlt, HR3, HM3⟩, by show 7 - ((k : Int) + 1).toNat < 7 - (k : Int).toNat; omega⟩
    · have b1b : decide ((k : Int) < 7) = false := decide_eq_false (by omega)
      obtain rfl : k = 7 := by omega
      have hHR := HR.out
      have hHM := HM.out
      rw [show N.lvls.toList.take 7 = N.lvls.toList from rfl] at hHR
      obtain ⟨g, cap, r, rfl, hg, hgl⟩ : ∃ (g cap : Nat) (r : List Value), u5 = .slice (some ⟨g, 0, none⟩) 7 cap ∧ wr.heap[g]? = some (.cells (N.lvls.toList ++ r).toArray 2 (0, 0)) ∧ w.heap.size ≤ g := by
        cases hHR with
        | own ok => exact ⟨_, _, _, rfl, hHM.get 0 rfl, hHM.low _ (List.mem_cons_self ..)⟩
      have HG := Lib.hid hg
      have HB := Lib.hid hHM.below
      clear hHR hHM HR HM hg KL
      go_wp2_with fail
      exact bodyPost_ret (results_slot rfl rfl) rfl ⟨g, cap, r, rfl, HG.out, hgl, HB.out⟩
end Go.Proofs.Ytbheiglbejokmaa
