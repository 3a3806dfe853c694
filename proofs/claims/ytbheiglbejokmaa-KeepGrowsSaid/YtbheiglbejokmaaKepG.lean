/- keep.Top (layer 32). Written by kp_gen_g.py. -/
import Derived.Test.YtbheiglbejokmaaKepF
import Derived.Test.YtbheiglbejokmaaNodG
namespace Go.Proofs.Ytbheiglbejokmaa
set_option maxRecDepth 20000
set_option linter.unusedSimpArgs false
set_option linter.unusedVariables false
open Go.RowKit Go.Sort Go.Lib Go.MapKept
attribute [local go_sem] Oper.semAt_some
def kt_auth_events : ByteArray := ⟨#[97, 117, 116, 104, 95, 101, 118, 101, 110, 116, 115]⟩
def kt_content : ByteArray := ⟨#[99, 111, 110, 116, 101, 110, 116]⟩
def kt_depth : ByteArray := ⟨#[100, 101, 112, 116, 104]⟩
def kt_event_id : ByteArray := ⟨#[101, 118, 101, 110, 116, 95, 105, 100]⟩
def kt_hashes : ByteArray := ⟨#[104, 97, 115, 104, 101, 115]⟩
def kt_origin_server_ts : ByteArray := ⟨#[111, 114, 105, 103, 105, 110, 95, 115, 101, 114, 118, 101, 114, 95, 116, 115]⟩
def kt_prev_events : ByteArray := ⟨#[112, 114, 101, 118, 95, 101, 118, 101, 110, 116, 115]⟩
def kt_room_id : ByteArray := ⟨#[114, 111, 111, 109, 95, 105, 100]⟩
def kt_sender : ByteArray := ⟨#[115, 101, 110, 100, 101, 114]⟩
def kt_signatures : ByteArray := ⟨#[115, 105, 103, 110, 97, 116, 117, 114, 101, 115]⟩
def kt_state_key : ByteArray := ⟨#[115, 116, 97, 116, 101, 95, 107, 101, 121]⟩
def kt_type : ByteArray := ⟨#[116, 121, 112, 101]⟩
def kt_origin : ByteArray := ⟨#[111, 114, 105, 103, 105, 110]⟩
def kt_prev_state : ByteArray := ⟨#[112, 114, 101, 118, 95, 115, 116, 97, 116, 101]⟩
def top12 : List ByteArray := [kt_auth_events, kt_content, kt_depth, kt_event_id, kt_hashes, kt_origin_server_ts, kt_prev_events, kt_room_id, kt_sender, kt_signatures, kt_state_key, kt_type]
def top3 : List ByteArray := [kk_membership, kt_origin, kt_prev_state]
def topL (v : Int) : List ByteArray := if verB v then srt (if gF v then top12 else top12 ++ top3) else []
theorem bs_top12 (W : World) : (Instr.buildSlice 22 12 #[(0, .string kt_auth_events), (1, .string kt_content), (2, .string kt_depth), (3, .string kt_event_id), (4, .string kt_hashes), (5, .string kt_origin_server_ts), (6, .string kt_prev_events), (7, .string kt_room_id), (8, .string kt_sender), (9, .string kt_signatures), (10, .string kt_state_key), (11, .string kt_type)]).run Try.prog W = .ok (.slice (some ⟨W.heap.size, 0, none⟩) 12 12) (W.alloc (.cells (vsT top12 ++ []).toArray 9 (0, 0))) := by go_simp; rfl
theorem bs_top3 (W : World) : (Instr.buildSlice 22 3 #[(0, .string kk_membership), (1, .string kt_origin), (2, .string kt_prev_state)]).run Try.prog W = .ok (.slice (some ⟨W.heap.size, 0, none⟩) 3 3) (W.alloc (.cells (vsT top3 ++ []).toArray 9 (0, 0))) := by go_simp; rfl
theorem row_tx {w : World} {g cap n : Nat} {l : List ByteArray} {r : List Value} (hok : RowOk (vsT l) r 1 n cap) (hn : l.length = n) (h : w.heap[g]? = some (.cells (vsT l ++ r).toArray 9 (0, 0))) : TxAt w (.slice (some ⟨g, 0, none⟩) n cap) l := by
  subst hn
  refine .inr ⟨g, cap, _, rfl, hok.le, hok.max, h, by rw [List.size_toArray, hok.all, Nat.mul_one], ?_⟩
  show List.take l.length (vsT l ++ r) = vsT l
  rw [← vsT_len l]
  exact List.take_left
theorem row0_own {T : TypeId} {size n : Nat} {v : Value} {xs : List Value} {B : List Blk} (h : Row0 T size v n xs B) (hn : 0 < n) : ∃ q cap r, v = .slice (some ⟨q, 0, none⟩) n cap ∧ RowOk xs r size n cap ∧ B = [(q, .cells (xs ++ r).toArray T (0, 0))] := by
  cases h with
  | nil => omega
  | own hok => exact ⟨_, _, _, rfl, hok, rfl⟩
set_option maxHeartbeats 2000000 in
set_option maxRecDepth 20000 in
theorem top_any (w : World) (v : Int) :
    Calls Try.prog 19 #[.int .i64 v] w fun e w' => ∃ x, e = .returned (.tuple #[x, .int .i64 (ev v)]) ∧ TxAt w' x (topL v) ∧ Below w.heap.size w w' := by
  rcases hv : verB v with _ | _
  · have hn : ¬ (1 ≤ v ∧ v ≤ 11) := by simpa [verB] using hv
    have hx : ev v = 24 := if_neg hn
    have hL : topL v = [] := by simp [topL, hv]
    rw [hL, hx]
    clear hv hL hn
    go_enter Try.func19, Try.ntmps19
    go_wp2_with (go_at_call 49; refine (vof_any _ _).mono ?_; rintro e w' ⟨rfl, rfl⟩; rw [hx])
    exact bodyPost_ret (results_tt rfl rfl rfl) rfl ⟨_, rfl, .inl ⟨rfl, rfl⟩, gr_alloc (gr_alloc (Below.refl _ _) _) _⟩
  · have hn : 1 ≤ v ∧ v ≤ 11 := by simpa [verB] using hv
    have hx : ev v = 0 := if_pos hn
    rw [hx]
    have HX := Lib.hid hx
    obtain ⟨i0, hi, hz0, hz1, hz2⟩ := info_parts Try.info_str
    have HI := Lib.hid (And.intro hi (And.intro hz0 (And.intro hz1 hz2)))
    clear hi hz0 hz1 hz2 hn hx
    rcases hF : gF v with _ | _
    · obtain ⟨l, el⟩ : ∃ z, z = srt (top12 ++ top3) := ⟨_, rfl⟩
      have hL : topL v = l := by simp [topL, hv, hF, el]
      rw [hL]
      have EL := Lib.hid el
      have HF := Lib.hid hF
      clear hL el hF hv
      go_enter Try.func19, Try.ntmps19
      go_upto_region 4 with (go_at_call 49; refine (vof_any _ _).mono ?_; rintro e w1 ⟨rfl, hw1⟩; rw [HF.out] at hw1 ⊢; rw [HX.out]; have hb1 : Below w.heap.size w w1 := hw1 ▸ gr_alloc (Below.refl _ _) _; clear hw1)
      have hM2 := ((Mem.start w).calls hb1).new1 (.cells #[.bool (gA v), .bool (gA v), .bool (gB v), .bool (gC v), .bool (gD v), .bool (gE v), .bool false] 80 (0, 0))
      generalize eW2 : w1.alloc _ = W2 at hM2 ⊢
      generalize erb : w1.heap.size = rb at hM2 ⊢
      refine wp_region_lit ?_
      refine wl_new hM2 (f := fun b => .slice (some ⟨b, 0, none⟩) 12 12) (ob := .cells (vsT top12 ++ []).toArray 9 (0, 0)) (fun W => run_slice_of rfl (by simp [Act.eval]; exact ⟨rfl, rfl, rfl, rfl, rfl, rfl, rfl, rfl, rfl, rfl, rfl, rfl⟩) (bs_top12 W)) rfl fun g W3 hM3 => ?_
      simp only [nm0, nm1, nm2, nm3]
      refine wl_pure (v := .slice (some ⟨g, 0, none⟩) 12 12) (fun W => rfl) rfl ?_
      simp only [nm0, nm1, nm2, nm3]
      refine wpList_nil ?_
      go_upto_region 5 with fail
      refine wp_region_lit ?_
      refine wl_pure (v := .pointer (some ⟨rb, 6, none⟩)) (fun W => run_field_of rfl rfl (fl_ru6 _ W)) rfl ?_
      simp only [nm0, nm1, nm2, nm3]
      refine wl_cell hM3 1 (v := .bool false) rfl rfl rfl rfl cellBoolK rfl ?_
      simp only [nm0, nm1, nm2, nm3]
      refine wl_pure (v := .bool true) (fun W => rfl) rfl ?_
      simp only [nm0, nm1, nm2, nm3]
      refine wpList_nil ?_
      go_upto_region 6 with fail
      refine wp_region_lit ?_
      refine wl_pure (v := .slice (some ⟨g, 0, none⟩) 12 12) (fun W => rfl) rfl ?_
      simp only [nm0, nm1, nm2, nm3]
      refine wl_new hM3 (f := fun b => .slice (some ⟨b, 0, none⟩) 3 3) (ob := .cells (vsT top3 ++ []).toArray 9 (0, 0)) (fun W => run_slice_of rfl (by simp [Act.eval]; exact ⟨rfl, rfl, rfl⟩) (bs_top3 W)) rfl fun h W4 hM4 => ?_
      simp only [nm0, nm1, nm2, nm3]
      have hM4b := hM4.swap
      have hbh := hM4.get 0 rfl
      obtain ⟨hi, hz0, hz1, hz2⟩ := HI.out
      refine wl_app (d := 21) (B := [_]) rfl rfl hM4b (.own (ok_row top12 12 rfl (by decide))) rfl Try.underlying22 hi hz0 hz1 hz2 rfl (by decide) rfl rfl (news := vsT top3) (fun j u hu => news_at hbh j u hu) (by decide) rfl (fun u hu => by obtain ⟨s, _, rfl⟩ := List.mem_map.1 hu; rfl) (by unfold maxLen; omega) (by decide) fun x B W5 hR hM5 => ?_
      simp only [nm0, nm1, nm2, nm3]
      refine wl_pure (v := x) (fun W => rfl) rfl ?_
      simp only [nm0, nm1, nm2, nm3]
      refine wpList_nil ?_
      rw [← vsT_app] at hR
      obtain ⟨q, cap, r, rfl, hok, rfl⟩ := row0_own hR (by decide)
      have CS := Lib.hid (sort_any w W5 (.slice (some ⟨q, 0, none⟩) (12 + 3) cap) (top12 ++ top3) (row_tx hok rfl (hM5.get 0 rfl)) hM5.below (fun g' a c h => by cases h; exact hM5.low _ (List.mem_cons_self ..)) (by decide))
      rw [← EL.out] at CS
      generalize 12 + 3 = n15 at CS ⊢
      clear hM2 hM3 hM4 hM4b hM5 hbh hR hok HI hi hz0 hz1 hz2 eW2 erb hb1
      go_wp2_with (go_at_call 50; refine CS.out.mono ?_; rintro e W6 ⟨rfl, hT4, hb4⟩)
      exact bodyPost_ret (results_tt rfl rfl rfl) rfl ⟨_, rfl, hT4, hb4⟩
    · obtain ⟨l, el⟩ : ∃ z, z = srt top12 := ⟨_, rfl⟩
      have hL : topL v = l := by simp [topL, hv, hF, el]
      rw [hL]
      have EL := Lib.hid el
      have HF := Lib.hid hF
      clear hL el hF hv
      go_enter Try.func19, Try.ntmps19
      go_upto_region 4 with (go_at_call 49; refine (vof_any _ _).mono ?_; rintro e w1 ⟨rfl, hw1⟩; rw [HF.out] at hw1 ⊢; rw [HX.out]; have hb1 : Below w.heap.size w w1 := hw1 ▸ gr_alloc (Below.refl _ _) _; clear hw1)
      have hM2 := ((Mem.start w).calls hb1).new1 (.cells #[.bool (gA v), .bool (gA v), .bool (gB v), .bool (gC v), .bool (gD v), .bool (gE v), .bool true] 80 (0, 0))
      generalize eW2 : w1.alloc _ = W2 at hM2 ⊢
      generalize erb : w1.heap.size = rb at hM2 ⊢
      refine wp_region_lit ?_
      refine wl_new hM2 (f := fun b => .slice (some ⟨b, 0, none⟩) 12 12) (ob := .cells (vsT top12 ++ []).toArray 9 (0, 0)) (fun W => run_slice_of rfl (by simp [Act.eval]; exact ⟨rfl, rfl, rfl, rfl, rfl, rfl, rfl, rfl, rfl, rfl, rfl, rfl⟩) (bs_top12 W)) rfl fun g W3 hM3 => ?_
      simp only [nm0, nm1, nm2, nm3]
      refine wl_pure (v := .slice (some ⟨g, 0, none⟩) 12 12) (fun W => rfl) rfl ?_
      simp only [nm0, nm1, nm2, nm3]
      refine wpList_nil ?_
      go_upto_region 5 with fail
      refine wp_region_lit ?_
      refine wl_pure (v := .pointer (some ⟨rb, 6, none⟩)) (fun W => run_field_of rfl rfl (fl_ru6 _ W)) rfl ?_
      simp only [nm0, nm1, nm2, nm3]
      refine wl_cell hM3 1 (v := .bool true) rfl rfl rfl rfl cellBoolK rfl ?_
      simp only [nm0, nm1, nm2, nm3]
      refine wl_pure (v := .bool false) (fun W => rfl) rfl ?_
      simp only [nm0, nm1, nm2, nm3]
      refine wpList_nil ?_
      have CS := Lib.hid (sort_any w W3 (.slice (some ⟨g, 0, none⟩) 12 12) top12 (row_tx (ok_row top12 12 rfl (by decide)) rfl (hM3.get 0 rfl)) hM3.below (fun g' a c h => by cases h; exact hM3.low _ (List.mem_cons_self ..)) (by decide))
      rw [← EL.out] at CS
      clear hM2 hM3 eW2 erb hb1
      go_wp2_with (go_at_call 50; refine CS.out.mono ?_; rintro e W4 ⟨rfl, hT4, hb4⟩)
      exact bodyPost_ret (results_tt rfl rfl rfl) rfl ⟨_, rfl, hT4, hb4⟩
end Go.Proofs.Ytbheiglbejokmaa
