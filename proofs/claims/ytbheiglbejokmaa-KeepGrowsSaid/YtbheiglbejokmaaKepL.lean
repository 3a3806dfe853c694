/- The reference's Inner and Top (layer 32). Written by kp_gen_l.py. -/
import Derived.Test.YtbheiglbejokmaaKepK
namespace Go.Proofs.Ytbheiglbejokmaa
set_option maxRecDepth 20000
set_option linter.unusedSimpArgs false
set_option linter.unusedVariables false
open Go.RowKit Go.Sort Go.Lib Go.MapKept
attribute [local go_sem] Oper.semAt_some
theorem gF_out {v : Int} (hv : verB v = false) : gF v = false := by
  have h : ¬ (1 ≤ v ∧ v ≤ 11) := by simpa [verB] using hv
  unfold gF
  rw [decide_eq_false_iff_not]
  omega
theorem rof_not (v : Int) (w : World) (hv : verB v = false) : Calls Try.prog 51 #[.int .i64 v] w fun e w' => e = .returned (.tuple #[.slice none 0 0, .bool false]) ∧ w = w' :=
  rof_out v w (by
    have h : ¬ (1 ≤ v ∧ v ≤ 11) := by simpa [verB] using hv
    omega)
theorem rinner_any (w : World) (v : Int) (kind key : ByteArray) :
    Calls Try.prog 25 #[.int .i64 v, .string kind, .string key] w fun e w' => ∃ x, e = .returned (.tuple #[x, .bool (innerB v kind key)]) ∧ TxAt w' x (innerL (innerB v kind key)) ∧ Below w.heap.size w w' := by
  rcases hv : verB v with _ | _
  · have hB : innerB v kind key = false := by simp [innerB, gF_out hv]
    rw [hB]
    have KO := Lib.hid (rof_not v w hv)
    clear hv hB
    go_enter Try.func25, Try.ntmps25
    go_wp2_with (go_at_call 51; refine KO.out.mono ?_; rintro e w1 ⟨rfl, rfl⟩)
    exact bodyPost_ret (results_tt rfl rfl rfl) rfl ⟨_, rfl, .inl ⟨rfl, rfl⟩, Below.refl _ _⟩
  · have KO := Lib.hid (rof_mem v w hv)
    have h1 := is_mem kind
    have h2 := is_inv3 key
    have hB : innerB v kind key = (gF v && (decide (kind = kk_mem) && decide (key = kk_inv3))) := rfl
    rw [hB]
    generalize decide (kind = kk_mem) = p at h1 ⊢
    generalize decide (key = kk_inv3) = q at h2 ⊢
    generalize gA v = p1 at KO
    generalize gB v = p2 at KO
    generalize gC v = p3 at KO
    generalize gD v = p4 at KO
    generalize gE v = p5 at KO
    generalize gF v = p6 at KO ⊢
    clear hB hv
    cases p <;> cases q <;> cases p6 <;>
    · go_enter Try.func25, Try.ntmps25
      go_wp2_with (go_at_call 51; refine KO.out.mono ?_; rintro e w1 ⟨rb, rfl, hM1⟩; have hc6 := cell_of_row w1 rb 6 _ _ _ (hM1.get 0 rfl); have HB := Lib.hid hM1.below; clear hM1)
      first
        | exact bodyPost_ret (results_tt rfl rfl rfl) rfl ⟨_, rfl, .inl ⟨rfl, rfl⟩, HB.out⟩
        | exact bodyPost_ret (results_tt rfl rfl rfl) rfl ⟨_, rfl, .inr ⟨_, 1, #[.string kk_signed], rfl, Nat.le_refl _, by decide, alloc_at _ _ _ (by simp), rfl, rfl⟩, gr_alloc HB.out _⟩
def all15 : List ByteArray := [kt_auth_events, kt_content, kt_depth, kt_event_id, kt_hashes, kk_membership, kt_origin, kt_origin_server_ts, kt_prev_events, kt_prev_state, kt_room_id, kt_sender, kt_signatures, kt_state_key, kt_type]
def ysT (mo : Bool) : List Bool := (List.range 15).map fun i => (!(i == 5) && (!(i == 6) && !(i == 9))) || !mo
theorem fin_top : ∀ mo : Bool, srtB (if mo then top12 else top12 ++ top3) (selT all15 (ysT mo) 15) = true := by decide +kernel
theorem ysT_at {mo : Bool} {k : Nat} (hk : k < 15) : (ysT mo).getD k false = ((!(k == 5) && (!(k == 6) && !(k == 9))) || !mo) := by
  rw [List.getD_eq_getElem?_getD, ysT, List.getElem?_map, List.getElem?_range hk]
  rfl
theorem bs_all15 (W : World) : (Instr.buildSlice 22 15 #[(0, .string kt_auth_events), (1, .string kt_content), (2, .string kt_depth), (3, .string kt_event_id), (4, .string kt_hashes), (5, .string kk_membership), (6, .string kt_origin), (7, .string kt_origin_server_ts), (8, .string kt_prev_events), (9, .string kt_prev_state), (10, .string kt_room_id), (11, .string kt_sender), (12, .string kt_signatures), (13, .string kt_state_key), (14, .string kt_type)]).run Try.prog W = .ok (.slice (some ⟨W.heap.size, 0, none⟩) 15 15) (W.alloc (.cells (vsT all15 ++ []).toArray 9 (0, 0))) := by go_simp; rfl
theorem mem_left {w0 w : World} (B M : List Blk) (h : Mem w0 (B ++ M) w) : Mem w0 B w := by
  induction M generalizing B with
  | nil => simpa using h
  | cons x M ih => exact ih B (h.perm (List.perm_middle (l₁ := B)).symm).tail
set_option maxHeartbeats 4000000 in
set_option maxRecDepth 20000 in
theorem rtop_true (w : World) (v : Int) (hv : verB v = true) (hF : gF v = true) :
    Calls Try.prog 20 #[.int .i64 v] w fun e w' => ∃ x, e = .returned (.tuple #[x, .bool true]) ∧ TxAt w' x (selT all15 (ysT true) 15) ∧ Below w.heap.size w w' := by
  obtain ⟨i1, hj, hy0, hy1, hy2⟩ := info_parts Try.info_str
  have HJ := Lib.hid (And.intro hj (And.intro hy0 (And.intro hy1 hy2)))
  clear hj hy0 hy1 hy2
  have KO := Lib.hid (rof_mem v w hv)
  rw [hF] at KO
  generalize gA v = p1 at KO
  generalize gB v = p2 at KO
  generalize gC v = p3 at KO
  generalize gD v = p4 at KO
  generalize gE v = p5 at KO
  clear hv hF
  obtain ⟨ys, eys⟩ : ∃ z, z = ysT true := ⟨_, rfl⟩
  rw [← eys]
  have EYS := Lib.hid eys
  clear eys
  go_enter Try.func20, Try.ntmps20
  go_upto_region 4 with (go_at_call 51; refine KO.out.mono ?_; rintro e w1 ⟨rb, rfl, hM1⟩)
  refine wp_region_lit ?_
  refine wl_new hM1 (f := fun b => .slice (some ⟨b, 0, none⟩) 15 15) (ob := .cells (vsT all15 ++ []).toArray 9 (0, 0)) (fun W => run_slice_of rfl (by simp [Act.eval]; exact ⟨rfl, rfl, rfl, rfl, rfl, rfl, rfl, rfl, rfl, rfl, rfl, rfl, rfl, rfl, rfl⟩) (bs_all15 W)) rfl fun g W2 hM2 => ?_
  simp only [nm0, nm1, nm2, nm3]
  refine wl_pure (v := .slice (some ⟨g, 0, none⟩) 15 15) (fun W => rfl) rfl ?_
  simp only [nm0, nm1, nm2, nm3]
  refine wpList_nil ?_
  have HM2 := Lib.hid hM2
  clear hM1 hM2
  go_upto_region 7 with fail
  go_loopw [7, 8] (fun v7 v8 wr => ∃ (k m : Nat) (B : List Blk), v8 = .int .i64 (k : Int) ∧ k ≤ 15 ∧ Hid (m = (selT all15 ys k).length) ∧ Hid (Row0 9 1 v7 m (vsT (selT all15 ys k)) B) ∧ Hid (Mem w (B ++ [(g, .cells (vsT all15 ++ []).toArray 9 (0, 0)), (rb, .cells #[.bool p1, .bool p1, .bool p2, .bool p3, .bool p4, .bool p5, .bool true] 4 (0, 0))]) wr)) (fun _ v8 _ => 15 - (Go.RowKit.intOf v8).toNat)
  case atStart => exact ⟨0, 0, [], rfl, Nat.zero_le _, Lib.hid rfl, Lib.hid .nil, HM2⟩
  case round =>
    obtain ⟨k, m, B, rfl, hk, HM, HR, HW⟩ := hrel
    clear HM2
    have hle : m ≤ k := by rw [HM.out]; exact selT_le all15 ys k
    by_cases hlt : k < 15
    · have b1b : decide ((k : Int) < 15) = true := decide_eq_true (by omega)
      have hlti : (k : Int) < 15 := by omega
      obtain ⟨s, es⟩ : ∃ z, z = all15.getD k ByteArray.empty := ⟨_, rfl⟩
      have hcr : wr.cell? ⟨rb, 6, none⟩ = some (.bool true) := cell_of_row wr rb 6 _ _ _ (HW.out.at_ (rb, .cells #[.bool p1, .bool p1, .bool p2, .bool p3, .bool p4, .bool p5, .bool true] 4 (0, 0)) (by simp))
      have HCG : Hid (((vsT all15 ++ []).toArray : Array Value)[k]? = some (.string s)) := Lib.hid (by
        rw [es, List.append_nil]
        have h15 : k < all15.length := hlt
        simp [vsT, List.getD_eq_getElem?_getD, List.getElem?_eq_getElem h15])
      have HST : Hid (selT all15 ys (k + 1) = selT all15 ys k ++ (if (!(k == 5) && (!(k == 6) && !(k == 9))) || !true then [s] else [])) := Lib.hid (by rw [selT, ← es, EYS.out, ysT_at hlt])
      have hGr : Hid (wr.heap[g]? = some (.cells (vsT all15 ++ []).toArray 9 (0, 0))) := Lib.hid (HW.out.at_ (g, .cells (vsT all15 ++ []).toArray 9 (0, 0)) (by simp))
      clear es
      by_cases c5 : k = 5
      · subst c5
        go_wp2_with fail
        go_roundw
        case rel => exact ⟨6, m, B, by go_num, by omega, Lib.hid (by rw [HST.out]; simpa using HM.out), Lib.hid (by rw [HST.out]; simpa using HR.out), HW⟩
        case measure => show 15 - ((6 : Int)).toNat < 15 - (5 : Int).toNat; decide
      by_cases c6 : k = 6
      · subst c6
        go_wp2_with fail
        go_roundw
        case rel => exact ⟨7, m, B, by go_num, by omega, Lib.hid (by rw [HST.out]; simpa using HM.out), Lib.hid (by rw [HST.out]; simpa using HR.out), HW⟩
        case measure => show 15 - ((7 : Int)).toNat < 15 - (6 : Int).toNat; decide
      by_cases c9 : k = 9
      · subst c9
        go_wp2_with fail
        go_roundw
        case rel => exact ⟨10, m, B, by go_num, by omega, Lib.hid (by rw [HST.out]; simpa using HM.out), Lib.hid (by rw [HST.out]; simpa using HR.out), HW⟩
        case measure => show 15 - ((10 : Int)).toNat < 15 - (9 : Int).toNat; decide
      have e5 : ((k : Int) == 5) = false := by simp; omega
      have e6 : ((k : Int) == 6) = false := by simp; omega
      have e9 : ((k : Int) == 9) = false := by simp; omega
      have f5 : ¬ (k : Int) = 5 := by omega
      have f6 : ¬ (k : Int) = 6 := by omega
      have f9 : ¬ (k : Int) = 9 := by omega
      have HYT : ((!(k == 5) && (!(k == 6) && !(k == 9))) || !true) = true := by simp [c5, c6, c9]
      have HYT2 := Lib.hid HYT
      clear HYT c5 c6 c9
      go_upto_region 10 with fail
      refine wp_region_lit ?_
      refine wl_pure (v := u7) (fun W => rfl) rfl ?_
      simp only [nm0, nm1, nm2, nm3]
      refine wl_pure (v := .slice (some ⟨g, 0, none⟩) 15 15) (fun W => rfl) rfl ?_
      simp only [nm0, nm1, nm2, nm3]
      refine wl_pure (v := .int .i64 (k : Int)) (fun W => rfl) rfl ?_
      simp only [nm0, nm1, nm2, nm3]
      refine wl_pure (v := .pointer (some ⟨g, k, none⟩)) (fun W => run_index_of rfl rfl rfl (ix_strs g 15 15 k hlt W)) rfl ?_
      simp only [nm0, nm1, nm2, nm3]
      refine wl_val (v := .string s) (run_load_cell rfl rfl hGr.out HCG.out cellStrK) rfl ?_
      simp only [nm0, nm1, nm2, nm3]
      refine wl_new HW.out (f := fun b => .slice (some ⟨b, 0, none⟩) 1 1) (ob := .cells #[.string s] 9 (0, 0)) (fun W => run_slice_of rfl (by simp [Act.eval]; try rfl) (bs_str s W)) rfl fun bs W1 hW1 => ?_
      simp only [nm0, nm1, nm2, nm3]
      have hb1 := hW1.get 0 rfl
      have hW2 := hW1.perm (List.perm_middle (l₁ := B) (a := (bs, .cells #[.string s] 9 (0, 0))))
      obtain ⟨hj, hy0, hy1, hy2⟩ := HJ.out
      refine wl_app (d := 43) rfl rfl hW2 HR.out rfl Try.underlying22 hj hy0 hy1 hy2 rfl (by decide) rfl (news := [.string s]) rfl (fun j u hu => news_at hb1 j u hu) (by decide) rfl (by simp [Value.oneCell']) (by unfold maxLen; omega) (by omega) fun v7 B7 W7 hR7 hM7 => ?_
      simp only [nm0, nm1, nm2, nm3]
      refine wl_pure (v := v7) (fun W => rfl) rfl ?_
      simp only [nm0, nm1, nm2, nm3]
      refine wpList_nil ?_
      have HR7 : Hid (Row0 9 1 v7 (m + 1) (vsT (selT all15 ys (k + 1))) B7) := Lib.hid (by rw [HST.out, if_pos HYT2.out, vsT_app]; exact hR7)
      have HM7 : Hid (Mem w (B7 ++ [(g, .cells (vsT all15 ++ []).toArray 9 (0, 0)), (rb, .cells #[.bool p1, .bool p1, .bool p2, .bool p3, .bool p4, .bool p5, .bool true] 4 (0, 0))]) W7) := Lib.hid (hM7.perm (List.perm_middle (l₁ := B7)).symm).tail
      have HMM : Hid (m + 1 = (selT all15 ys (k + 1)).length) := Lib.hid (by rw [HST.out, if_pos HYT2.out, List.length_append, ← HM.out]; rfl)
      clear hR7 hM7 hW2 hb1 hW1 hj hy0 hy1 hy2 hcr
      go_wp2_with fail
      go_roundw
      case rel => exact ⟨k + 1, m + 1, B7, by go_num, by omega, HMM, HR7, HM7⟩
      case measure => show 15 - ((k : Int) + 1).toNat < 15 - (k : Int).toNat; omega
    · have b1b : decide ((k : Int) < 15) = false := decide_eq_false (by omega)
      obtain rfl : k = 15 := by omega
      have HX := Lib.hid (row0_tx HR.out HM.out.symm (mem_left B _ HW.out))
      have HB := Lib.hid HW.out.below
      clear HR HM HW
      go_wp2_with fail
      exact bodyPost_ret (results_tt rfl rfl rfl) rfl ⟨_, rfl, HX.out, HB.out⟩
set_option maxHeartbeats 4000000 in
set_option maxRecDepth 20000 in
theorem rtop_false (w : World) (v : Int) (hv : verB v = true) (hF : gF v = false) :
    Calls Try.prog 20 #[.int .i64 v] w fun e w' => ∃ x, e = .returned (.tuple #[x, .bool true]) ∧ TxAt w' x (selT all15 (ysT false) 15) ∧ Below w.heap.size w w' := by
  obtain ⟨i1, hj, hy0, hy1, hy2⟩ := info_parts Try.info_str
  have HJ := Lib.hid (And.intro hj (And.intro hy0 (And.intro hy1 hy2)))
  clear hj hy0 hy1 hy2
  have KO := Lib.hid (rof_mem v w hv)
  rw [hF] at KO
  generalize gA v = p1 at KO
  generalize gB v = p2 at KO
  generalize gC v = p3 at KO
  generalize gD v = p4 at KO
  generalize gE v = p5 at KO
  clear hv hF
  obtain ⟨ys, eys⟩ : ∃ z, z = ysT false := ⟨_, rfl⟩
  rw [← eys]
  have EYS := Lib.hid eys
  clear eys
  go_enter Try.func20, Try.ntmps20
  go_upto_region 4 with (go_at_call 51; refine KO.out.mono ?_; rintro e w1 ⟨rb, rfl, hM1⟩)
  refine wp_region_lit ?_
  refine wl_new hM1 (f := fun b => .slice (some ⟨b, 0, none⟩) 15 15) (ob := .cells (vsT all15 ++ []).toArray 9 (0, 0)) (fun W => run_slice_of rfl (by simp [Act.eval]; exact ⟨rfl, rfl, rfl, rfl, rfl, rfl, rfl, rfl, rfl, rfl, rfl, rfl, rfl, rfl, rfl⟩) (bs_all15 W)) rfl fun g W2 hM2 => ?_
  simp only [nm0, nm1, nm2, nm3]
  refine wl_pure (v := .slice (some ⟨g, 0, none⟩) 15 15) (fun W => rfl) rfl ?_
  simp only [nm0, nm1, nm2, nm3]
  refine wpList_nil ?_
  have HM2 := Lib.hid hM2
  clear hM1 hM2
  go_upto_region 7 with fail
  go_loopw [7, 8] (fun v7 v8 wr => ∃ (k m : Nat) (B : List Blk), v8 = .int .i64 (k : Int) ∧ k ≤ 15 ∧ Hid (m = (selT all15 ys k).length) ∧ Hid (Row0 9 1 v7 m (vsT (selT all15 ys k)) B) ∧ Hid (Mem w (B ++ [(g, .cells (vsT all15 ++ []).toArray 9 (0, 0)), (rb, .cells #[.bool p1, .bool p1, .bool p2, .bool p3, .bool p4, .bool p5, .bool false] 4 (0, 0))]) wr)) (fun _ v8 _ => 15 - (Go.RowKit.intOf v8).toNat)
  case atStart => exact ⟨0, 0, [], rfl, Nat.zero_le _, Lib.hid rfl, Lib.hid .nil, HM2⟩
  case round =>
    obtain ⟨k, m, B, rfl, hk, HM, HR, HW⟩ := hrel
    clear HM2
    have hle : m ≤ k := by rw [HM.out]; exact selT_le all15 ys k
    by_cases hlt : k < 15
    · have b1b : decide ((k : Int) < 15) = true := decide_eq_true (by omega)
      have hlti : (k : Int) < 15 := by omega
      obtain ⟨s, es⟩ : ∃ z, z = all15.getD k ByteArray.empty := ⟨_, rfl⟩
      have hcr : wr.cell? ⟨rb, 6, none⟩ = some (.bool false) := cell_of_row wr rb 6 _ _ _ (HW.out.at_ (rb, .cells #[.bool p1, .bool p1, .bool p2, .bool p3, .bool p4, .bool p5, .bool false] 4 (0, 0)) (by simp))
      have HCG : Hid (((vsT all15 ++ []).toArray : Array Value)[k]? = some (.string s)) := Lib.hid (by
        rw [es, List.append_nil]
        have h15 : k < all15.length := hlt
        simp [vsT, List.getD_eq_getElem?_getD, List.getElem?_eq_getElem h15])
      have HST : Hid (selT all15 ys (k + 1) = selT all15 ys k ++ (if (!(k == 5) && (!(k == 6) && !(k == 9))) || !false then [s] else [])) := Lib.hid (by rw [selT, ← es, EYS.out, ysT_at hlt])
      have hGr : Hid (wr.heap[g]? = some (.cells (vsT all15 ++ []).toArray 9 (0, 0))) := Lib.hid (HW.out.at_ (g, .cells (vsT all15 ++ []).toArray 9 (0, 0)) (by simp))
      clear es
      by_cases c5 : k = 5
      · subst c5
        have HYT2 : Hid (((!(5 == 5) && (!(5 == 6) && !(5 == 9))) || !false) = true) := Lib.hid (by decide)
        go_upto_region 10 with fail
        refine wp_region_lit ?_
        refine wl_pure (v := u7) (fun W => rfl) rfl ?_
        simp only [nm0, nm1, nm2, nm3]
        refine wl_pure (v := .slice (some ⟨g, 0, none⟩) 15 15) (fun W => rfl) rfl ?_
        simp only [nm0, nm1, nm2, nm3]
        refine wl_pure (v := .int .i64 5) (fun W => rfl) rfl ?_
        simp only [nm0, nm1, nm2, nm3]
        refine wl_pure (v := .pointer (some ⟨g, 5, none⟩)) (fun W => run_index_of rfl rfl rfl (ix_strs g 15 15 5 (by decide) W)) rfl ?_
        simp only [nm0, nm1, nm2, nm3]
        refine wl_val (v := .string s) (run_load_cell rfl rfl hGr.out HCG.out cellStrK) rfl ?_
        simp only [nm0, nm1, nm2, nm3]
        refine wl_new HW.out (f := fun b => .slice (some ⟨b, 0, none⟩) 1 1) (ob := .cells #[.string s] 9 (0, 0)) (fun W => run_slice_of rfl (by simp [Act.eval]; try rfl) (bs_str s W)) rfl fun bs W1 hW1 => ?_
        simp only [nm0, nm1, nm2, nm3]
        have hb1 := hW1.get 0 rfl
        have hW2 := hW1.perm (List.perm_middle (l₁ := B) (a := (bs, .cells #[.string s] 9 (0, 0))))
        obtain ⟨hj, hy0, hy1, hy2⟩ := HJ.out
        refine wl_app (d := 43) rfl rfl hW2 HR.out rfl Try.underlying22 hj hy0 hy1 hy2 rfl (by decide) rfl (news := [.string s]) rfl (fun j u hu => news_at hb1 j u hu) (by decide) rfl (by simp [Value.oneCell']) (by unfold maxLen; omega) (by omega) fun v7 B7 W7 hR7 hM7 => ?_
        simp only [nm0, nm1, nm2, nm3]
        refine wl_pure (v := v7) (fun W => rfl) rfl ?_
        simp only [nm0, nm1, nm2, nm3]
        refine wpList_nil ?_
        have HR7 : Hid (Row0 9 1 v7 (m + 1) (vsT (selT all15 ys (5 + 1))) B7) := Lib.hid (by rw [HST.out, if_pos HYT2.out, vsT_app]; exact hR7)
        have HM7 : Hid (Mem w (B7 ++ [(g, .cells (vsT all15 ++ []).toArray 9 (0, 0)), (rb, .cells #[.bool p1, .bool p1, .bool p2, .bool p3, .bool p4, .bool p5, .bool false] 4 (0, 0))]) W7) := Lib.hid (hM7.perm (List.perm_middle (l₁ := B7)).symm).tail
        have HMM : Hid (m + 1 = (selT all15 ys (5 + 1)).length) := Lib.hid (by rw [HST.out, if_pos HYT2.out, List.length_append, ← HM.out]; rfl)
        clear hR7 hM7 hW2 hb1 hW1 hj hy0 hy1 hy2 hcr
        go_wp2_with fail
        go_roundw
        case rel => exact ⟨6, m + 1, B7, by go_num, by omega, HMM, HR7, HM7⟩
        case measure => show 15 - (6 : Int).toNat < 15 - (5 : Int).toNat; decide
      by_cases c6 : k = 6
      · subst c6
        have HYT2 : Hid (((!(6 == 5) && (!(6 == 6) && !(6 == 9))) || !false) = true) := Lib.hid (by decide)
        go_upto_region 10 with fail
        refine wp_region_lit ?_
        refine wl_pure (v := u7) (fun W => rfl) rfl ?_
        simp only [nm0, nm1, nm2, nm3]
        refine wl_pure (v := .slice (some ⟨g, 0, none⟩) 15 15) (fun W => rfl) rfl ?_
        simp only [nm0, nm1, nm2, nm3]
        refine wl_pure (v := .int .i64 6) (fun W => rfl) rfl ?_
        simp only [nm0, nm1, nm2, nm3]
        refine wl_pure (v := .pointer (some ⟨g, 6, none⟩)) (fun W => run_index_of rfl rfl rfl (ix_strs g 15 15 6 (by decide) W)) rfl ?_
        simp only [nm0, nm1, nm2, nm3]
        refine wl_val (v := .string s) (run_load_cell rfl rfl hGr.out HCG.out cellStrK) rfl ?_
        simp only [nm0, nm1, nm2, nm3]
        refine wl_new HW.out (f := fun b => .slice (some ⟨b, 0, none⟩) 1 1) (ob := .cells #[.string s] 9 (0, 0)) (fun W => run_slice_of rfl (by simp [Act.eval]; try rfl) (bs_str s W)) rfl fun bs W1 hW1 => ?_
        simp only [nm0, nm1, nm2, nm3]
        have hb1 := hW1.get 0 rfl
        have hW2 := hW1.perm (List.perm_middle (l₁ := B) (a := (bs, .cells #[.string s] 9 (0, 0))))
        obtain ⟨hj, hy0, hy1, hy2⟩ := HJ.out
        refine wl_app (d := 43) rfl rfl hW2 HR.out rfl Try.underlying22 hj hy0 hy1 hy2 rfl (by decide) rfl (news := [.string s]) rfl (fun j u hu => news_at hb1 j u hu) (by decide) rfl (by simp [Value.oneCell']) (by unfold maxLen; omega) (by omega) fun v7 B7 W7 hR7 hM7 => ?_
        simp only [nm0, nm1, nm2, nm3]
        refine wl_pure (v := v7) (fun W => rfl) rfl ?_
        simp only [nm0, nm1, nm2, nm3]
        refine wpList_nil ?_
        have HR7 : Hid (Row0 9 1 v7 (m + 1) (vsT (selT all15 ys (6 + 1))) B7) := Lib.hid (by rw [HST.out, if_pos HYT2.out, vsT_app]; exact hR7)
        have HM7 : Hid (Mem w (B7 ++ [(g, .cells (vsT all15 ++ []).toArray 9 (0, 0)), (rb, .cells #[.bool p1, .bool p1, .bool p2, .bool p3, .bool p4, .bool p5, .bool false] 4 (0, 0))]) W7) := Lib.hid (hM7.perm (List.perm_middle (l₁ := B7)).symm).tail
        have HMM : Hid (m + 1 = (selT all15 ys (6 + 1)).length) := Lib.hid (by rw [HST.out, if_pos HYT2.out, List.length_append, ← HM.out]; rfl)
        clear hR7 hM7 hW2 hb1 hW1 hj hy0 hy1 hy2 hcr
        go_wp2_with fail
        go_roundw
        case rel => exact ⟨7, m + 1, B7, by go_num, by omega, HMM, HR7, HM7⟩
        case measure => show 15 - (7 : Int).toNat < 15 - (6 : Int).toNat; decide
      by_cases c9 : k = 9
      · subst c9
        have HYT2 : Hid (((!(9 == 5) && (!(9 == 6) && !(9 == 9))) || !false) = true) := Lib.hid (by decide)
        go_upto_region 10 with fail
        refine wp_region_lit ?_
        refine wl_pure (v := u7) (fun W => rfl) rfl ?_
        simp only [nm0, nm1, nm2, nm3]
        refine wl_pure (v := .slice (some ⟨g, 0, none⟩) 15 15) (fun W => rfl) rfl ?_
        simp only [nm0, nm1, nm2, nm3]
        refine wl_pure (v := .int .i64 9) (fun W => rfl) rfl ?_
        simp only [nm0, nm1, nm2, nm3]
        refine wl_pure (v := .pointer (some ⟨g, 9, none⟩)) (fun W => run_index_of rfl rfl rfl (ix_strs g 15 15 9 (by decide) W)) rfl ?_
        simp only [nm0, nm1, nm2, nm3]
        refine wl_val (v := .string s) (run_load_cell rfl rfl hGr.out HCG.out cellStrK) rfl ?_
        simp only [nm0, nm1, nm2, nm3]
        refine wl_new HW.out (f := fun b => .slice (some ⟨b, 0, none⟩) 1 1) (ob := .cells #[.string s] 9 (0, 0)) (fun W => run_slice_of rfl (by simp [Act.eval]; try rfl) (bs_str s W)) rfl fun bs W1 hW1 => ?_
        simp only [nm0, nm1, nm2, nm3]
        have hb1 := hW1.get 0 rfl
        have hW2 := hW1.perm (List.perm_middle (l₁ := B) (a := (bs, .cells #[.string s] 9 (0, 0))))
        obtain ⟨hj, hy0, hy1, hy2⟩ := HJ.out
        refine wl_app (d := 43) rfl rfl hW2 HR.out rfl Try.underlying22 hj hy0 hy1 hy2 rfl (by decide) rfl (news := [.string s]) rfl (fun j u hu => news_at hb1 j u hu) (by decide) rfl (by simp [Value.oneCell']) (by unfold maxLen; omega) (by omega) fun v7 B7 W7 hR7 hM7 => ?_
        simp only [nm0, nm1, nm2, nm3]
        refine wl_pure (v := v7) (fun W => rfl) rfl ?_
        simp only [nm0, nm1, nm2, nm3]
        refine wpList_nil ?_
        have HR7 : Hid (Row0 9 1 v7 (m + 1) (vsT (selT all15 ys (9 + 1))) B7) := Lib.hid (by rw [HST.out, if_pos HYT2.out, vsT_app]; exact hR7)
        have HM7 : Hid (Mem w (B7 ++ [(g, .cells (vsT all15 ++ []).toArray 9 (0, 0)), (rb, .cells #[.bool p1, .bool p1, .bool p2, .bool p3, .bool p4, .bool p5, .bool false] 4 (0, 0))]) W7) := Lib.hid (hM7.perm (List.perm_middle (l₁ := B7)).symm).tail
        have HMM : Hid (m + 1 = (selT all15 ys (9 + 1)).length) := Lib.hid (by rw [HST.out, if_pos HYT2.out, List.length_append, ← HM.out]; rfl)
        clear hR7 hM7 hW2 hb1 hW1 hj hy0 hy1 hy2 hcr
        go_wp2_with fail
        go_roundw
        case rel => exact ⟨10, m + 1, B7, by go_num, by omega, HMM, HR7, HM7⟩
        case measure => show 15 - (10 : Int).toNat < 15 - (9 : Int).toNat; decide
      have e5 : ((k : Int) == 5) = false := by simp; omega
      have e6 : ((k : Int) == 6) = false := by simp; omega
      have e9 : ((k : Int) == 9) = false := by simp; omega
      have f5 : ¬ (k : Int) = 5 := by omega
      have f6 : ¬ (k : Int) = 6 := by omega
      have f9 : ¬ (k : Int) = 9 := by omega
      have HYT : ((!(k == 5) && (!(k == 6) && !(k == 9))) || !false) = true := by simp [c5, c6, c9]
      have HYT2 := Lib.hid HYT
      clear HYT c5 c6 c9
      go_upto_region 10 with fail
      refine wp_region_lit ?_
      refine wl_pure (v := u7) (fun W => rfl) rfl ?_
      simp only [nm0, nm1, nm2, nm3]
      refine wl_pure (v := .slice (some ⟨g, 0, none⟩) 15 15) (fun W => rfl) rfl ?_
      simp only [nm0, nm1, nm2, nm3]
      refine wl_pure (v := .int .i64 (k : Int)) (fun W => rfl) rfl ?_
      simp only [nm0, nm1, nm2, nm3]
      refine wl_pure (v := .pointer (some ⟨g, k, none⟩)) (fun W => run_index_of rfl rfl rfl (ix_strs g 15 15 k hlt W)) rfl ?_
      simp only [nm0, nm1, nm2, nm3]
      refine wl_val (v := .string s) (run_load_cell rfl rfl hGr.out HCG.out cellStrK) rfl ?_
      simp only [nm0, nm1, nm2, nm3]
      refine wl_new HW.out (f := fun b => .slice (some ⟨b, 0, none⟩) 1 1) (ob := .cells #[.string s] 9 (0, 0)) (fun W => run_slice_of rfl (by simp [Act.eval]; try rfl) (bs_str s W)) rfl fun bs W1 hW1 => ?_
      simp only [nm0, nm1, nm2, nm3]
      have hb1 := hW1.get 0 rfl
      have hW2 := hW1.perm (List.perm_middle (l₁ := B) (a := (bs, .cells #[.string s] 9 (0, 0))))
      obtain ⟨hj, hy0, hy1, hy2⟩ := HJ.out
      refine wl_app (d := 43) rfl rfl hW2 HR.out rfl Try.underlying22 hj hy0 hy1 hy2 rfl (by decide) rfl (news := [.string s]) rfl (fun j u hu => news_at hb1 j u hu) (by decide) rfl (by simp [Value.oneCell']) (by unfold maxLen; omega) (by omega) fun v7 B7 W7 hR7 hM7 => ?_
      simp only [nm0, nm1, nm2, nm3]
      refine wl_pure (v := v7) (fun W => rfl) rfl ?_
      simp only [nm0, nm1, nm2, nm3]
      refine wpList_nil ?_
      have HR7 : Hid (Row0 9 1 v7 (m + 1) (vsT (selT all15 ys (k + 1))) B7) := Lib.hid (by rw [HST.out, if_pos HYT2.out, vsT_app]; exact hR7)
      have HM7 : Hid (Mem w (B7 ++ [(g, .cells (vsT all15 ++ []).toArray 9 (0, 0)), (rb, .cells #[.bool p1, .bool p1, .bool p2, .bool p3, .bool p4, .bool p5, .bool false] 4 (0, 0))]) W7) := Lib.hid (hM7.perm (List.perm_middle (l₁ := B7)).symm).tail
      have HMM : Hid (m + 1 = (selT all15 ys (k + 1)).length) := Lib.hid (by rw [HST.out, if_pos HYT2.out, List.length_append, ← HM.out]; rfl)
      clear hR7 hM7 hW2 hb1 hW1 hj hy0 hy1 hy2 hcr
      go_wp2_with fail
      go_roundw
      case rel => exact ⟨k + 1, m + 1, B7, by go_num, by omega, HMM, HR7, HM7⟩
      case measure => show 15 - ((k : Int) + 1).toNat < 15 - (k : Int).toNat; omega
    · have b1b : decide ((k : Int) < 15) = false := decide_eq_false (by omega)
      obtain rfl : k = 15 := by omega
      have HX := Lib.hid (row0_tx HR.out HM.out.symm (mem_left B _ HW.out))
      have HB := Lib.hid HW.out.below
      clear HR HM HW
      go_wp2_with fail
      exact bodyPost_ret (results_tt rfl rfl rfl) rfl ⟨_, rfl, HX.out, HB.out⟩
end Go.Proofs.Ytbheiglbejokmaa
