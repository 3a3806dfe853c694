/- (*sha5.Hash).Len, Copy and sha5.New (layer 18): what they come to. sha5.New (layer 18): what it comes to. (*sha5.Hash).Sum, sha5.Of and the document's example (layer 18). sha5.Of and the document's example (layer 18). -/
import Derived.Test.YtmjbhmpogpagjaaS5K
import Derived.Test.YtmjbhmpogpagjaaRooGl
import Derived.Test.YtmjbhmpogpagjaaS5Octh
namespace Go.Proofs.Ytmjbhmpogpagjaa
set_option maxRecDepth 20000
set_option linter.unusedSimpArgs false
set_option linter.unusedVariables false
open Go.RowKit
theorem hlen_nil (w : World) : Calls Try.prog 10 #[.pointer none] w fun e w' => e = .returned (.int .i64 0) ∧ w = w' := by
  go_enter Try.func10, Try.ntmps10
  go_wp2_with fail
  go_ret
  exact ⟨rfl, rfl⟩
theorem hlen_any (h g : Nat) (L : List UInt8) (w : World) (hH : IsHash w h g L) : Calls Try.prog 10 #[.pointer (some ⟨h, 0, none⟩)] w fun e w' => e = .returned (.int .i64 (L.length : Int)) ∧ w = w' := by
  obtain ⟨hne, bl0, q0, hc0, hh, hb⟩ := hH
  obtain ⟨c0, _⟩ := arr_get (i := 0) (v := .pointer (some ⟨g, 0, none⟩)) hh rfl
  have KL := Lib.hid (len_any g 128 L.length q0 w hb)
  clear hb hh hc0
  go_enter Try.func10, Try.ntmps10
  go_wp2_with fail
  refine KL.out.mono ?_
  rintro e w1 ⟨rfl, rfl⟩
  go_wp2_with fail
  go_ret
  exact ⟨rfl, rfl⟩
theorem hcopy_nil (w : World) : Calls Try.prog 11 #[.pointer none] w fun e w' => e = .returned (.pointer none) ∧ w = w' := by
  go_enter Try.func11, Try.ntmps11
  go_wp2_with fail
  go_ret
  exact ⟨rfl, rfl⟩
theorem hrow_len (g : Nat) (hs ks : List Nat) (h8 : hs.length = 8) (k64 : ks.length = 80) : (hrow g hs ks).length = 89 := by
  unfold hrow
  rw [List.length_cons, List.length_append, rowV_len, rowV_len, h8, k64]
theorem hrow_one (g : Nat) (hs ks : List Nat) : ∀ v ∈ hrow g hs ks, v.oneCell' = true := fun v hv => by
  unfold hrow rowV at hv
  rcases List.mem_cons.1 hv with rfl | hv
  · rfl
  · rcases List.mem_append.1 hv with hv | hv
    · obtain ⟨x, _, rfl⟩ := List.mem_map.1 hv
      rfl
    · obtain ⟨x, _, rfl⟩ := List.mem_map.1 hv
      rfl
set_option maxRecDepth 20000 in
set_option maxHeartbeats 4000000 in
theorem hcopy_any (h g : Nat) (L : List UInt8) (w : World) (hH : IsHash w h g L) : Calls Try.prog 11 #[.pointer (some ⟨h, 0, none⟩)] w fun e w' => ∃ c g', e = .returned (.pointer (some ⟨c, 0, none⟩)) ∧ w.heap.size ≤ c ∧ w.heap.size ≤ g' ∧ IsHash w' c g' L ∧ Below w.heap.size w w' := by
  have hlt := hH.lt
  obtain ⟨hne, bl0, q0, hc0, hh, hb⟩ := hH
  have hok := hashL_ok begin8 keys80 begin_ok.1 begin_ok.2 bl0
  obtain ⟨S0, hS0⟩ : ∃ S0, hashL begin8 keys80 bl0 = S0 := ⟨_, rfl⟩
  rw [hS0] at hok hh
  have hl := hrow_len g S0 keys80 hok.1 keys_ok.1
  have ho := hrow_one g S0 keys80
  have HH := Lib.hid hh
  have HS0 := Lib.hid hS0
  have HC0 := Lib.hid hc0
  have HB := Lib.hid hb
  have HLT := Lib.hid hlt
  obtain ⟨R, hR⟩ : ∃ R, hrow g S0 keys80 = R := ⟨_, rfl⟩
  rw [hR] at HH hl ho
  have HR := Lib.hid hR
  have HL := Lib.hid hl
  have HO := Lib.hid ho
  clear hS0 hok hh hb hc0 hne hl ho hR hlt
  go_enter Try.func11, Try.ntmps11
  have eB := below_setRow (mk_at w (.cells Try.zeroCells42 42)).2 (Nat.le_refl _) R.toArray
  have EC := Lib.hid (setRow_heap _ w.heap.size _ R.toArray _ _ (mk_at w (.cells Try.zeroCells42 42)).1)
  have e0 := (arr_get (i := 0) (v := .pointer (some ⟨g, 0, none⟩)) (keepI HH.out eB) (by rw [← HR.out]; rfl)).1
  have KC := Lib.hid (Copy_any g 128 L.length q0 _ (HB.out.of_block (eB.block g HLT.out.2)))
  have EB := Lib.hid eB
  have E0 := Lib.hid e0
  have ES : Hid (w.heap.size < ((w.alloc (.cells Try.zeroCells42 42)).setRow w.heap.size R.toArray).heap.size) := (Array.getElem?_eq_some_iff.1 EC.out).1
  clear eB e0
  repeat (first
    | (refine wp_load_row 42 (.tmp 7) rfl h (by simp [Act.eval]; done) 42 R.toArray (0, 0) _ HH.out Try.underlying42 rfl (by rw [List.size_toArray, HL.out]; kernel_rfl) ?_; simp only [Act.put, List.setIfInBounds_toArray, List.set_cons_zero, List.set_cons_succ])
    | (refine wp_store_row 42 (.tmp 3) (.tmp 8) rfl w.heap.size R.toArray (by simp [Act.eval]; done) (by simp [Act.eval]; done) 42 Try.zeroCells42 (mk_at w (.cells Try.zeroCells42 42)).1 (by rw [List.size_toArray, HL.out]; kernel_rfl) (by rw [show R.toArray.size = 89 from HL.out]; kernel_rfl) (Array.all_eq_true_iff_forall_mem.2 (fun v hv => HO.out v (by simpa using hv))) ?_
       generalize (w.alloc (.cells Try.zeroCells42 42)).setRow w.heap.size R.toArray = W1 at *
       have c1 := E0.out)
    | go_step)
  clear c1
  refine KC.out.mono ?_
  rintro e w2 ⟨rfl, hb2, hB2⟩
  have e2 := keepI EC.out hB2
  obtain ⟨s1, s2⟩ := arr_get (i := 0) (v := .pointer (some ⟨g, 0, none⟩)) e2 (by rw [← HR.out]; rfl)
  have GC := arr_set (i := 0) e2 (.pointer (some ⟨W1.heap.size, 0, none⟩))
  rw [show R.set 0 (.pointer (some ⟨W1.heap.size, 0, none⟩)) = hrow W1.heap.size S0 keys80 by rw [← HR.out]; rfl] at GC
  have hne2 : W1.heap.size ≠ w.heap.size := by have := ES.out; omega
  have GB := hb2.of_block (heap_setCell_other w2 ⟨w.heap.size, 0, none⟩ W1.heap.size (.pointer (some ⟨W1.heap.size, 0, none⟩)) hne2)
  have GE := (EB.out.trans (hB2.mono (Nat.le_of_lt ES.out))).setCell (p := ⟨w.heap.size, 0, none⟩) (Nat.le_refl _) (.pointer (some ⟨W1.heap.size, 0, none⟩))
  have GC := Lib.hid GC
  have GB := Lib.hid GB
  have GE := Lib.hid GE
  clear hb2 hB2 e2 KC EC EB hne2
  go_wp2_with fail
  go_ret
  refine ⟨_, W1.heap.size, rfl, Nat.le_refl _, Nat.le_of_lt ES.out, ⟨by have := ES.out; omega, bl0, q0, HC0.out, ?_, GB.out⟩, GE.out⟩
  rw [HS0.out]
  exact GC.out
end Go.Proofs.Ytmjbhmpogpagjaa
namespace Go.Proofs.Ytmjbhmpogpagjaa
open Go.RowKit
theorem prime_at (t : Nat) (ht : t < 80) (w : World) : Calls Try.prog 25 #[.int .i64 (t : Int)] w fun e w' => e = .returned (.int .i64 (primes80.getD t 0 : Int)) ∧ Below w.heap.size w w' := by
  have h := List.all_eq_true.1 prim_ok t (List.mem_range.2 ht)
  simp only [Bool.and_eq_true, decide_eq_true_eq] at h
  have : ∀ x ∈ primes80, x ≤ 9000 := by decide +kernel
  have ht2 : t < primes80.length := ht
  refine (prime_any t (primes80.getD t 0) w h.1.1.1 h.1.1.2 ?_ (by omega)).mono ?_
  · rw [List.getD_eq_getElem?_getD, List.getElem?_eq_getElem ht2]
    exact Nat.le_trans (this _ (List.getElem_mem ht2)) (by decide)
  · rintro e w' ⟨rfl, rfl⟩
    exact ⟨rfl, Below.refl _ _⟩
theorem small_roots : (∀ x ∈ squares8, x < 4722366482869645213696) ∧ ∀ x ∈ cubes80, x < 4722366482869645213696 := by decide +kernel
theorem B64_pows : B64 ^ 2 = 65536 ^ 8 ∧ B64 ^ 3 = 65536 ^ 12 := by decide +kernel
theorem square_at (t : Nat) (ht : t < 8) (w : World) : Calls Try.prog 24 #[.int .i64 (primes80.getD t 0 : Int)] w fun e w' => e = .returned (.int .u64 (squares8.getD t 0 % 18446744073709551616 : Nat)) ∧ Below w.heap.size w w' := by
  have h := List.all_eq_true.1 prim_ok t (List.mem_range.2 (by omega))
  have c := List.all_eq_true.1 square_ok8 t (List.mem_range.2 ht)
  simp only [Bool.and_eq_true, decide_eq_true_eq] at h c
  refine (square_in (primes80.getD t 0) w h.1.2 h.2).mono ?_
  rintro e w' ⟨x, hx, rfl, hb⟩
  have e1 : x = squares8.getD t 0 := by
    refine top_one hx (sq_mono _) ?_ ?_ ?_
    · show _ * _ ≤ _
      rw [B64_pows.1, ← Nat.pow_two]
      exact c.1.1
    · show ¬ _ * _ ≤ _
      rw [B64_pows.1, ← Nat.pow_two]
      exact Nat.not_le.2 c.1.2
    · have ht2 : t < squares8.length := ht
      rw [List.getD_eq_getElem?_getD, List.getElem?_eq_getElem ht2]
      exact small_roots.1 _ (List.getElem_mem ht2)
  rw [e1, wd0]
  exact ⟨rfl, hb⟩
theorem cube_at (t : Nat) (ht : t < 80) (w : World) : Calls Try.prog 26 #[.int .i64 (primes80.getD t 0 : Int)] w fun e w' => e = .returned (.int .u64 (cubes80.getD t 0 % 18446744073709551616 : Nat)) ∧ Below w.heap.size w w' := by
  have h := List.all_eq_true.1 prim_ok t (List.mem_range.2 ht)
  have c := List.all_eq_true.1 cube_ok t (List.mem_range.2 ht)
  simp only [Bool.and_eq_true, decide_eq_true_eq] at h c
  have e3 : ∀ a : Nat, a * a * a = a ^ 3 := fun a => by rw [Nat.pow_succ, Nat.pow_two]
  refine (cube_in (primes80.getD t 0) w h.1.2 h.2).mono ?_
  rintro e w' ⟨x, hx, rfl, hb⟩
  have e1 : x = cubes80.getD t 0 := by
    refine top_one hx (cu_mono _) ?_ ?_ ?_
    · show _ * _ * _ ≤ _
      rw [B64_pows.2, e3]
      exact c.1.1
    · show ¬ _ * _ * _ ≤ _
      rw [B64_pows.2, e3]
      exact Nat.not_le.2 c.1.2
    · have ht2 : t < cubes80.length := ht
      rw [List.getD_eq_getElem?_getD, List.getElem?_eq_getElem ht2]
      exact small_roots.2 _ (List.getElem_mem ht2)
  rw [e1, wd0]
  exact ⟨rfl, hb⟩
/-- The first i stand there, noughts behind them. -/
def fill (l : List Nat) (n i : Nat) : List Nat := l.take i ++ List.replicate (n - i) 0
theorem fill_len (l : List Nat) (n i : Nat) (hl : l.length = n) (hi : i ≤ n) : (fill l n i).length = n := by
  unfold fill
  rw [List.length_append, List.length_take, List.length_replicate]
  omega
theorem fill_all (l : List Nat) (n : Nat) (hl : l.length = n) : fill l n n = l := by
  unfold fill
  rw [List.take_of_length_le (by omega)]
  simp
theorem fill_set (l : List Nat) (n i : Nat) (hl : l.length = n) (h : i < n) : (fill l n i).set i (l.getD i 0) = fill l n (i + 1) := by
  unfold fill
  obtain ⟨d, hd⟩ : ∃ d, n - i = d + 1 := ⟨n - i - 1, by omega⟩
  rw [take_next l i (by omega), hd, show n - (i + 1) = d by omega, List.replicate_succ, List.set_append_right _ _ (by rw [List.length_take]; omega), List.length_take, show i - min i l.length = 0 by omega, List.set_cons_zero, List.append_assoc]
  rfl
theorem hrow_setk (g : Nat) (hs ks : List Nat) (i x : Nat) (h8 : hs.length = 8) : (hrow g hs ks).set (9 + i) (.int .u64 (x : Int)) = hrow g hs (ks.set i x) := by
  unfold hrow rowV
  rw [show 9 + i = (8 + i) + 1 by omega, List.set_cons_succ, List.set_append_right _ _ (by rw [List.length_map]; omega), List.length_map, show 8 + i - hs.length = i by omega, List.map_set]
theorem keepI_buf {w w' : World} {g size wr : Nat} {q : List UInt8} (h : IsBuf w g size q wr) (hb : Below w.heap.size w w') : IsBuf w' g size q wr := h.of_block (hb.block g h.lt)
theorem new_cells (v : Value) : Array.foldl (fun (cs : Array Value) (x : Value × Nat) => cs.setIfInBounds x.snd x.fst) Try.zeroCells42 (Try.zeroCells40.setIfInBounds 0 v).zipIdx 0 89 = (v :: (rowV (List.replicate 8 0) ++ rowV (List.replicate 80 0))).toArray := by kernel_rfl
set_option maxRecDepth 20000 in
set_option maxHeartbeats 8000000 in
theorem hnew_any (w : World) : Calls Try.prog 12 #[] w fun e w' => ∃ c g', e = .returned (.pointer (some ⟨c, 0, none⟩)) ∧ w.heap.size ≤ c ∧ w.heap.size ≤ g' ∧ IsHash w' c g' [] ∧ Below w.heap.size w w' := by
  have KN := Lib.hid (new_in 128 w (by decide) (by decide))
  have HMIX := Lib.hid (show Try.prog.follows .mixedOrders = true by kernel_rfl)
  go_enter Try.func12, Try.ntmps12
  go_wp2_with fail
  refine KN.out.mono ?_
  rintro e w1 ⟨rfl, hb1, hB1⟩
  have HB1 := Lib.hid hb1
  have BB1 := Lib.hid hB1
  clear hb1 hB1 KN
  go_wp2_with fail
  rw [new_cells]
  generalize Value.agg (Value.pointer (some ⟨w.heap.size, 0, none⟩) :: (rowV (List.replicate 8 0) ++ rowV (List.replicate 80 0))).toArray = z6
  generalize Value.agg (Try.zeroCells40.setIfInBounds 0 (Value.pointer (some ⟨w.heap.size, 0, none⟩))) = z5
  have x1 := (mk_at w1 (.cells (hrow w.heap.size (fill begin8 8 0) (List.replicate 80 0)).toArray 42)).1
  have xB := (mk_at w1 (.cells (hrow w.heap.size (fill begin8 8 0) (List.replicate 80 0)).toArray 42)).2
  have xg := keepI_buf HB1.out xB
  have xE := BB1.out.trans (xB.mono BB1.out.size)
  have xl := HB1.out.lt
  have xs := BB1.out.size
  change Code.wp _ _ _ _ (w1.alloc (.cells (hrow w.heap.size (fill begin8 8 0) (List.replicate 80 0)).toArray 42))
  generalize w1.alloc (.cells (hrow w.heap.size (fill begin8 8 0) (List.replicate 80 0)).toArray 42) = X at x1 xg xE ⊢
  have hne : w1.heap.size ≠ w.heap.size := by omega
  generalize w1.heap.size = c at *
  have HC := Lib.hid (And.intro hne xs)
  have X1 := Lib.hid x1
  have XG := Lib.hid xg
  have XE := Lib.hid xE
  clear x1 xB xg xE xl xs HB1 BB1
  obtain ⟨g, hg⟩ : ∃ g, w.heap.size = g := ⟨_, rfl⟩
  have HG := Lib.hid hg
  rw [hg] at X1 XG hne ⊢
  clear hg
  go_loopw [8] (fun v W => ∃ i : Nat, i ≤ 8 ∧ v = .int .i64 (i : Int) ∧ W.heap[c]? = some (.cells (hrow g (fill begin8 8 i) (List.replicate 80 0)).toArray 42 (0, 0)) ∧ IsBuf W g 128 [] 0 ∧ Below w.heap.size w W) (fun v _ => 8 - (intOf v).toNat)
  case atStart => exact ⟨0, by omega, rfl, X1.out, XG.out, by have := XE.out; exact this⟩
  case round =>
    clear X1 XG XE
    obtain ⟨i, hi, rfl, rc, rg, rb⟩ := hrel
    by_cases hlt : i < 8
    · have p1 : (i : Int) < 8 := by omega
      have KP := Lib.hid (fun w => prime_at i (by omega) w)
      have KR := Lib.hid (fun w => square_at i hlt w)
      have c8 := List.all_eq_true.1 square_ok8 i (List.mem_range.2 hlt)
      simp only [Bool.and_eq_true, decide_eq_true_eq] at c8
      have hst := hrow_set g (fill begin8 8 i) (List.replicate 80 0) i (begin8.getD i 0) (by rw [fill_len _ _ _ begin_ok.1 hi]; exact hlt)
      rw [fill_set _ _ _ begin_ok.1 hlt] at hst
      have hv0 := hrow_sum g (fill begin8 8 i) (List.replicate 80 0) i (by rw [fill_len _ _ _ begin_ok.1 hi]; exact hlt)
      generalize primes80.getD i 0 = p at *
      rw [c8.2] at KR
      generalize begin8.getD i 0 = y at *
      have HV0 := Lib.hid hv0
      have HST := Lib.hid hst
      have RC := Lib.hid rc
      have RG := Lib.hid rg
      have RB := Lib.hid rb
      have HLI := Lib.hid hlt
      have wi : IntKind.i64.wrap ((i : Int) + 1) = (i : Int) + 1 := by rw [IntKind.wrap_i64]; omega
      clear c8 hst hv0 rc rg rb hi hlt
      go_wp2_with fail
      refine wp_region_inw 9 HMIX.out (by decide) (by kernel_rfl) (by kernel_rfl) ?_
      repeat (first
        | (refine inw_skip (by rfl) (by rfl) ?_; simp only [Act.put, List.setIfInBounds_toArray, List.set_cons_zero, List.set_cons_succ])
        | (refine inw_val (v := ?_) (by rfl) (by rfl) (fun d os => ?_) ?_; rotate_left; (focus (go_simp; (try with_reducible rfl); done)); simp only [Act.put, List.setIfInBounds_toArray, List.set_cons_zero, List.set_cons_succ]))
      refine inw_call (args := ?_) (v := ?_) (f := 25) (by rfl) (by rfl) (fun d os => ?_) (fun d os => ?_) ?_; rotate_left 3; (focus (with_reducible exact KP.out _; done)); rotate_left; (focus (go_simp; done)); simp only [Act.put, List.setIfInBounds_toArray, List.set_cons_zero, List.set_cons_succ]
      repeat (first
        | (refine inw_skip (by rfl) (by rfl) ?_; simp only [Act.put, List.setIfInBounds_toArray, List.set_cons_zero, List.set_cons_succ])
        | (refine inw_val (v := ?_) (by rfl) (by rfl) (fun d os => ?_) ?_; rotate_left; (focus (go_simp; (try with_reducible rfl); done)); simp only [Act.put, List.setIfInBounds_toArray, List.set_cons_zero, List.set_cons_succ]))
      refine inw_call (args := ?_) (v := ?_) (f := 24) (by rfl) (by rfl) (fun d os => ?_) (fun d os => ?_) ?_; rotate_left 3; (focus (with_reducible exact KR.out _; done)); rotate_left; (focus (go_simp; done)); simp only [Act.put, List.setIfInBounds_toArray, List.set_cons_zero, List.set_cons_succ]
      repeat (first
        | (refine inw_skip (by rfl) (by rfl) ?_; simp only [Act.put, List.setIfInBounds_toArray, List.set_cons_zero, List.set_cons_succ])
        | (refine inw_val (v := ?_) (by rfl) (by rfl) (fun d os => ?_) ?_; rotate_left; (focus (go_simp; (try with_reducible rfl); done)); simp only [Act.put, List.setIfInBounds_toArray, List.set_cons_zero, List.set_cons_succ]))
      repeat (first
        | (refine inw_skip (by rfl) (by rfl) ?_; simp only [Act.put, List.setIfInBounds_toArray, List.set_cons_zero, List.set_cons_succ])
        | (refine inw_val (v := ?_) (by rfl) (by rfl) (fun d os => ?_) ?_; rotate_left; (focus (go_simp; (try with_reducible rfl); done)); simp only [Act.put, List.setIfInBounds_toArray, List.set_cons_zero, List.set_cons_succ]))
      refine inw_end (fun d os => ?_)
      have BW := below_regrown wr d os
      have ec := keepI RC.out BW
      have eg := keepI_buf RG.out BW
      have eb := RB.out.trans (BW.mono RB.out.size)
      generalize Sort.grow (redrawn wr d) os = W at ec eg eb ⊢
      obtain ⟨s1, s2⟩ := arr_get ec HV0.out
      have VC := Lib.hid (arr_set ec (.int .u64 (y : Int)) (i := 1 + i))
      have VG := Lib.hid (eg.of_block (heap_setCell_other W ⟨c, 1 + i, none⟩ g (.int .u64 (y : Int)) (Ne.symm hne)))
      have VB := Lib.hid (eb.setCell (p := ⟨c, 1 + i, none⟩) HC.out.2 (.int .u64 (y : Int)))
      clear BW RC RG RB ec eg eb
      change wpAny _ _ _ _ 1 _ _ _
      refine any_one (i := 9) (by kernel_rfl) rfl (fun K hK => ?_)
      go_simp
      refine hK _ _ ?_
      clear hK K s1 s2
      refine wpAny_done (by kernel_rfl) ?_ _
      go_wp2_with fail
      have h1 := HLI.out
      have vc := VC.out
      rw [HST.out] at vc
      first
        | exact ⟨⟨i + 1, by omega, rfl, vc, VG.out, VB.out⟩, by simp [intOf]; omega⟩
        | (go_roundw
           case rel => exact ⟨i + 1, by omega, rfl, vc, VG.out, VB.out⟩
           case measure => (simp [intOf]; omega))
    · have hi8 : i = 8 := by omega
      subst hi8
      have p1 : ¬ ((8 : Nat) : Int) < 8 := by omega
      rw [fill_all _ _ begin_ok.1] at rc
      rw [show List.replicate 80 0 = fill keys80 80 0 from rfl] at rc
      have X1 := Lib.hid rc
      have XG := Lib.hid rg
      have XE := Lib.hid rb
      clear rc rg rb hi hlt
      go_wp2_with fail
      go_loopw [21] (fun v W => ∃ i : Nat, i ≤ 80 ∧ v = .int .i64 (i : Int) ∧ W.heap[c]? = some (.cells (hrow g begin8 (fill keys80 80 i)).toArray 42 (0, 0)) ∧ IsBuf W g 128 [] 0 ∧ Below w.heap.size w W) (fun v _ => 80 - (intOf v).toNat)
      case atStart => exact ⟨0, by omega, rfl, X1.out, XG.out, XE.out⟩
      case round =>
        clear X1 XG XE
        obtain ⟨i, hi, rfl, rc, rg, rb⟩ := hrel
        by_cases hlt : i < 80
        · have p2 : (i : Int) < 80 := by omega
          have KP := Lib.hid (fun w => prime_at i hlt w)
          have KR := Lib.hid (fun w => cube_at i hlt w)
          have c8 := List.all_eq_true.1 cube_ok i (List.mem_range.2 hlt)
          simp only [Bool.and_eq_true, decide_eq_true_eq] at c8
          have hst := hrow_setk g begin8 (fill keys80 80 i) i (keys80.getD i 0) begin_ok.1
          rw [fill_set _ _ _ keys_ok.1 hlt] at hst
          have hv0 := hrow_key g begin8 (fill keys80 80 i) i begin_ok.1 (by rw [fill_len _ _ _ keys_ok.1 hi]; exact hlt)
          generalize primes80.getD i 0 = p at *
          rw [c8.2] at KR
          generalize keys80.getD i 0 = y at *
          have HV0 := Lib.hid hv0
          have HST := Lib.hid hst
          have RC := Lib.hid rc
          have RG := Lib.hid rg
          have RB := Lib.hid rb
          have HLI := Lib.hid hlt
          have wi : IntKind.i64.wrap ((i : Int) + 1) = (i : Int) + 1 := by rw [IntKind.wrap_i64]; omega
          clear c8 hst hv0 rc rg rb hi hlt
          go_wp2_with fail
          refine wp_region_inw 9 HMIX.out (by decide) (by kernel_rfl) (by kernel_rfl) ?_
          repeat (first
            | (refine inw_skip (by rfl) (by rfl) ?_; simp only [Act.put, List.setIfInBounds_toArray, List.set_cons_zero, List.set_cons_succ])
            | (refine inw_val (v := ?_) (by rfl) (by rfl) (fun d os => ?_) ?_; rotate_left; (focus (go_simp; (try with_reducible rfl); done)); simp only [Act.put, List.setIfInBounds_toArray, List.set_cons_zero, List.set_cons_succ]))
          refine inw_call (args := ?_) (v := ?_) (f := 25) (by rfl) (by rfl) (fun d os => ?_) (fun d os => ?_) ?_; rotate_left 3; (focus (with_reducible exact KP.out _; done)); rotate_left; (focus (go_simp; done)); simp only [Act.put, List.setIfInBounds_toArray, List.set_cons_zero, List.set_cons_succ]
          repeat (first
            | (refine inw_skip (by rfl) (by rfl) ?_; simp only [Act.put, List.setIfInBounds_toArray, List.set_cons_zero, List.set_cons_succ])
            | (refine inw_val (v := ?_) (by rfl) (by rfl) (fun d os => ?_) ?_; rotate_left; (focus (go_simp; (try with_reducible rfl); done)); simp only [Act.put, List.setIfInBounds_toArray, List.set_cons_zero, List.set_cons_succ]))
          refine inw_call (args := ?_) (v := ?_) (f := 26) (by rfl) (by rfl) (fun d os => ?_) (fun d os => ?_) ?_; rotate_left 3; (focus (with_reducible exact KR.out _; done)); rotate_left; (focus (go_simp; done)); simp only [Act.put, List.setIfInBounds_toArray, List.set_cons_zero, List.set_cons_succ]
          repeat (first
            | (refine inw_skip (by rfl) (by rfl) ?_; simp only [Act.put, List.setIfInBounds_toArray, List.set_cons_zero, List.set_cons_succ])
            | (refine inw_val (v := ?_) (by rfl) (by rfl) (fun d os => ?_) ?_; rotate_left; (focus (go_simp; (try with_reducible rfl); done)); simp only [Act.put, List.setIfInBounds_toArray, List.set_cons_zero, List.set_cons_succ]))
          repeat (first
            | (refine inw_skip (by rfl) (by rfl) ?_; simp only [Act.put, List.setIfInBounds_toArray, List.set_cons_zero, List.set_cons_succ])
            | (refine inw_val (v := ?_) (by rfl) (by rfl) (fun d os => ?_) ?_; rotate_left; (focus (go_simp; (try with_reducible rfl); done)); simp only [Act.put, List.setIfInBounds_toArray, List.set_cons_zero, List.set_cons_succ]))
          refine inw_end (fun d os => ?_)
          have BW := below_regrown wr d os
          have ec := keepI RC.out BW
          have eg := keepI_buf RG.out BW
          have eb := RB.out.trans (BW.mono RB.out.size)
          generalize Sort.grow (redrawn wr d) os = W at ec eg eb ⊢
          obtain ⟨s1, s2⟩ := arr_get ec HV0.out
          have VC := Lib.hid (arr_set ec (.int .u64 (y : Int)) (i := 9 + i))
          have VG := Lib.hid (eg.of_block (heap_setCell_other W ⟨c, 9 + i, none⟩ g (.int .u64 (y : Int)) (Ne.symm hne)))
          have VB := Lib.hid (eb.setCell (p := ⟨c, 9 + i, none⟩) HC.out.2 (.int .u64 (y : Int)))
          clear BW RC RG RB ec eg eb
          change wpAny _ _ _ _ 1 _ _ _
          refine any_one (i := 9) (by kernel_rfl) rfl (fun K hK => ?_)
          go_simp
          refine hK _ _ ?_
          clear hK K s1 s2
          refine wpAny_done (by kernel_rfl) ?_ _
          go_wp2_with fail
          have h1 := HLI.out
          have vc := VC.out
          rw [HST.out] at vc
          first
            | exact ⟨⟨i + 1, by omega, rfl, vc, VG.out, VB.out⟩, by simp [intOf]; omega⟩
            | (go_roundw
               case rel => exact ⟨i + 1, by omega, rfl, vc, VG.out, VB.out⟩
               case measure => (simp [intOf]; omega))
        · have hi8 : i = 80 := by omega
          subst hi8
          have p2 : ¬ ((80 : Nat) : Int) < 80 := by omega
          rw [fill_all _ _ keys_ok.1] at rc
          have X1 := Lib.hid rc
          have XG := Lib.hid rg
          have XE := Lib.hid rb
          clear rc rg rb hi hlt
          go_wp2_with fail
          go_ret
          refine ⟨c, rfl, HC.out.2, g, Nat.le_of_eq HG.out, ⟨by rw [← HG.out]; exact HC.out.1, [], [], Cuts.nil (by decide), X1.out, XG.out⟩, XE.out⟩
end Go.Proofs.Ytmjbhmpogpagjaa
namespace Go.Proofs.Ytmjbhmpogpagjaa
open Go.RowKit
theorem cuts_exist : ∀ (n : Nat) (L : List UInt8), L.length ≤ n → ∃ bl q, Cuts 128 L bl q
  | 0, L, h => ⟨[], L, Cuts.nil (by omega)⟩
  | n + 1, L, h => by
    by_cases hl : L.length < 128
    · exact ⟨[], L, Cuts.nil hl⟩
    · obtain ⟨bl, q, h1, h2, h3⟩ := cuts_exist n (L.drop 128) (by rw [List.length_drop]; omega)
      refine ⟨L.take 128 :: bl, q, ?_, ?_, h3⟩
      · rw [List.flatten_cons, List.append_assoc, ← h1, List.take_append_drop]
      · intro b hb
        rcases List.mem_cons.1 hb with rfl | hb
        · rw [List.length_take]; omega
        · exact h2 b hb
/-- What fills up the last block. -/
def padL (L : List UInt8) : List UInt8 := (padS L.length 128 16).data.toList
theorem padL_len (L : List UInt8) : (padL L).length ≤ 400 := by
  unfold padL padS
  simp only [List.length_map, List.length_range]
  exact padN_le _
/-- Two hashes that are under way: what one does leaves what was there before. -/
theorem Two.below {a b c : World} {h g N : Nat} (x : Below N a b) (y : Two b c h g) (hN : N ≤ b.heap.size) (h1 : N ≤ h) (h2 : N ≤ g) : Below N a c :=
  x.trans ⟨y.os, y.tape, y.output, y.size, fun i hi => y.block i (Nat.lt_of_lt_of_le hi hN) (by omega) (by omega)⟩
theorem hsum_nil (w : World) : Calls Try.prog 9 #[.pointer none] w fun e w' => e = .returned (.string ByteArray.empty) ∧ w = w' := by
  go_enter Try.func9, Try.ntmps9
  go_wp2_with fail
  go_ret
  exact ⟨rfl, rfl⟩
theorem str_cells (W : World) (l : List (List UInt8)) (i : Nat) (hi : i < l.length) : (W.alloc (.cells (l.map strV).toArray 9)).cell? ⟨W.heap.size, 0 + i, none⟩ = some (strV l[i]) := by
  rw [Nat.zero_add]
  exact (arr_get (mk_at W (.cells (l.map strV).toArray 9)).1 (by simp [hi])).1
theorem hwrite_new (h g : Nat) (L : List UInt8) (ss : List (List UInt8)) (W : World) (hH : IsHash W h g L) (hss : ss.length ≤ 1000) (hn : L.length + ss.flatten.length ≤ 1099511627776) :
    Calls Try.prog 8 #[.pointer (some ⟨h, 0, none⟩), .slice (some ⟨W.heap.size, 0, none⟩) ss.length ss.length] (W.alloc (.cells (ss.map strV).toArray 9)) fun e w' => e = .returned (.tuple #[]) ∧ IsHash w' h g (L ++ ss.flatten) ∧ Two W w' h g := by
  have hb := (mk_at W (.cells (ss.map strV).toArray 9)).2
  have hl := hH.lt
  refine (hwrite_any h g ss.length _ L ss _ (hH.below hb) (.inr ⟨W.heap.size, 0, rfl, by omega, by omega, fun i hi => str_cells W ss i hi⟩) hss hn).mono ?_
  rintro e w' ⟨rfl, h1, h2⟩
  exact ⟨rfl, h1, (Two.of_below hb).trans h2⟩
theorem pad_at (L : List UInt8) (hn : L.length ≤ 1000000) (w : World) : Calls Try.prog 19 #[.int .i64 (L.length : Int), .int .i64 128, .int .i64 16] w fun e w' => e = .returned (strV (padL L)) ∧ Below w.heap.size w w' := by
  refine (pad_in L.length 128 16 w (by omega) (by decide) (by decide) (by decide) (by decide)).mono ?_
  rintro e w' ⟨rfl, hb⟩
  refine ⟨?_, hb⟩
  show Ending.returned (Value.string _) = Ending.returned (Value.string ⟨(padS L.length 128 16).data.toList.toArray⟩)
  rw [bytes_self]
set_option maxRecDepth 20000 in
set_option maxHeartbeats 4000000 in
theorem hsum_any (h g : Nat) (L : List UInt8) (w : World) (hH : IsHash w h g L) (hn : L.length ≤ 1000000) (bl : List (List UInt8)) (q : List UInt8) (hc : Cuts 128 (L ++ padL L) bl q) :
    Calls Try.prog 9 #[.pointer (some ⟨h, 0, none⟩)] w fun e w' => e = .returned (strV (digL (hashL begin8 keys80 bl))) ∧ Below w.heap.size w w' := by
  have KC := Lib.hid (hcopy_any h g L w hH)
  have HH := Lib.hid hH
  have HN := Lib.hid hn
  have HC := Lib.hid hc
  clear hH hn hc
  go_enter Try.func9, Try.ntmps9
  go_wp2_with fail
  refine KC.out.mono ?_
  rintro e w1 ⟨c, g', rfl, hc1, hg1, hH1, hB1⟩
  have KL := Lib.hid (hlen_any h g L w1 (HH.out.below hB1))
  have H1 := Lib.hid hH1
  have B1 := Lib.hid hB1
  have HCG := Lib.hid (And.intro hc1 hg1)
  clear hH1 hB1 hc1 hg1 KC HH
  go_wp2_with fail
  refine KL.out.mono ?_
  rintro e w2 ⟨rfl, rfl⟩
  go_wp2_with fail
  refine (pad_at L HN.out _).mono ?_
  rintro e w3 ⟨rfl, hB3⟩
  have H3 := H1.out.below hB3
  have hp := padL_len L
  have KW : Hid (Calls Try.prog 8 #[.pointer (some ⟨c, 0, none⟩), .slice (some ⟨w3.heap.size, 0, none⟩) 1 1] (w3.alloc (.cells #[strV (padL L)] 9)) fun e w' => e = .returned (.tuple #[]) ∧ IsHash w' c g' (L ++ [padL L].flatten) ∧ Two w3 w' c g') :=
    hwrite_new c g' L [padL L] w3 H3 (by simp) (by have := HN.out; simp; omega)
  have B3 := Lib.hid (B1.out.trans (hB3.mono B1.out.size))
  clear hB3 H3 H1 B1 KL hp
  obtain ⟨P, hP⟩ : ∃ P : ByteArray, strV (padL L) = .string P := ⟨_, rfl⟩
  rw [hP] at KW ⊢
  clear hP
  go_wp2_with fail
  refine KW.out.mono ?_
  rintro e w4 ⟨rfl, hH4, hT4⟩
  rw [List.flatten_cons, List.flatten_nil, List.append_nil] at hH4
  have B4 := Lib.hid (Two.below B3.out hT4 B3.out.size HCG.out.1 HCG.out.2)
  obtain ⟨hne4, bl4, q4, hc4, hh4, hb4⟩ := hH4
  obtain ⟨rfl, rfl⟩ := Cuts.one HC.out hc4
  have hok := hashL_ok begin8 keys80 begin_ok.1 begin_ok.2 bl
  have KP := Lib.hid (put64_dig c 1 8 (hashL begin8 keys80 bl) w4 hok.1 (Array.getElem?_eq_some_iff.1 hh4).1 (Nat.le_refl _) (fun i hi => (arr_get hh4 (hrow_sum g' _ keys80 i (by rw [hok.1]; exact hi))).1))
  clear hne4 hc4 hh4 hb4 hT4 hok HC KW
  go_wp2_with fail
  refine KP.out.mono ?_
  rintro e w5 ⟨rfl, hB5⟩
  have B5 := Lib.hid (B4.out.trans (hB5.mono B4.out.size))
  clear hB5 B4 KP
  go_wp2_with fail
  go_ret
  exact ⟨rfl, B5.out⟩
end Go.Proofs.Ytmjbhmpogpagjaa
namespace Go.Proofs.Ytmjbhmpogpagjaa
open Go.RowKit
/-- Texts that came in. -/
def StrsAt (w : World) (a : Option Addr) (ss : List (List UInt8)) : Prop :=
  ss = [] ∨ ∃ b off, a = some ⟨b, off, none⟩ ∧ b < w.heap.size ∧ ∀ i, (hi : i < ss.length) → w.cell? ⟨b, off + i, none⟩ = some (strV ss[i])
theorem StrsAt.below {w w' : World} {a : Option Addr} {ss : List (List UInt8)} (h : StrsAt w a ss) (hb : Below w.heap.size w w') : StrsAt w' a ss :=
  h.imp id fun ⟨b, off, e, hl, hc⟩ => ⟨b, off, e, Nat.lt_of_lt_of_le hl hb.size, fun i hi => (hb.cell (p := ⟨b, off + i, none⟩) hl).trans (hc i hi)⟩
theorem StrsAt.new (W : World) (ss : List (List UInt8)) : StrsAt (W.alloc (.cells (ss.map strV).toArray 9)) (some ⟨W.heap.size, 0, none⟩) ss :=
  .inr ⟨W.heap.size, 0, rfl, (Array.getElem?_eq_some_iff.1 (mk_at W (.cells (ss.map strV).toArray 9)).1).1, fun i hi => str_cells W ss i hi⟩
set_option maxRecDepth 20000 in
theorem hof_any (cap : Nat) (a : Option Addr) (ss : List (List UInt8)) (w : World) (hs : StrsAt w a ss) (hss : ss.length ≤ 1000) (hn : ss.flatten.length ≤ 1000000) (bl : List (List UInt8)) (q : List UInt8) (hc : Cuts 128 (ss.flatten ++ padL ss.flatten) bl q) :
    Calls Try.prog 6 #[.slice a ss.length cap] w fun e w' => e = .returned (strV (digL (hashL begin8 keys80 bl))) ∧ Below w.heap.size w w' := by
  have HS := Lib.hid hs
  have HN := Lib.hid hn
  have HSS := Lib.hid hss
  have HC := Lib.hid hc
  clear hs hn hss hc
  go_enter Try.func6, Try.ntmps6
  go_wp2_with fail
  refine (hnew_any _).mono ?_
  rintro e w1 ⟨c, g', rfl, hc1, hg1, hH1, hB1⟩
  have KW := Lib.hid (hwrite_any c g' cap a [] ss w1 hH1 (HS.out.imp id fun ⟨b, off, e, hl, hcl⟩ => ⟨b, off, e, by omega, by omega, fun i hi => (hB1.cell (p := ⟨b, off + i, none⟩) hl).trans (hcl i hi)⟩) HSS.out (by rw [List.length_nil, Nat.zero_add]; exact Nat.le_trans HN.out (by decide)))
  have B1 := Lib.hid hB1
  have HCG := Lib.hid (And.intro hc1 hg1)
  clear hH1 hB1 hc1 hg1 HS
  go_wp2_with fail
  refine KW.out.mono ?_
  rintro e w2 ⟨rfl, hH2, hT2⟩
  rw [List.nil_append] at hH2
  have KS := Lib.hid (hsum_any c g' ss.flatten w2 hH2 HN.out bl q HC.out)
  have B2 := Lib.hid (Two.below B1.out hT2 B1.out.size HCG.out.1 HCG.out.2)
  clear hH2 hT2 B1 KW
  go_wp2_with fail
  refine KS.out.mono ?_
  rintro e w3 ⟨rfl, hB3⟩
  have B3 := Lib.hid (B2.out.trans (hB3.mono B2.out.size))
  clear hB3 B2 KS
  go_wp2_with fail
  go_ret
  exact ⟨rfl, B3.out⟩
def abcL : List UInt8 := [97, 98, 99]
theorem abc_cuts : Cuts 128 (abcL ++ padL abcL) [abcL ++ padL abcL] [] := ⟨by simp, by
  intro b hb
  obtain rfl := List.mem_singleton.1 hb
  decide +kernel, by decide⟩
theorem abc_block : blockM ⟨(abcL ++ padL abcL).toArray⟩ 16 = [0x6162638000000000, 0, 0, 0, 0, 0, 0, 0, 0, 0, 0, 0, 0, 0, 0, 24] := by decide +kernel
theorem abc_dig : hashL begin8 keys80 [abcL ++ padL abcL] = [0xddaf35a193617aba, 0xcc417349ae204131, 0x12e6fa4e89a97ea2, 0xa9eeee64b55d39a, 0x2192992a274fc1a8, 0x36ba3c23a3feebbd, 0x454d4423643ce80e, 0x2a9ac94fa54ca49f] := by
  show stepN begin8 keys80 (blockM ⟨(abcL ++ padL abcL).toArray⟩ 16) = _
  rw [abc_block, abc_step]
theorem abc_hex : hexL (digL [0xddaf35a193617aba, 0xcc417349ae204131, 0x12e6fa4e89a97ea2, 0xa9eeee64b55d39a, 0x2192992a274fc1a8, 0x36ba3c23a3feebbd, 0x454d4423643ce80e, 0x2a9ac94fa54ca49f]) = [100, 100, 97, 102, 51, 53, 97, 49, 57, 51, 54, 49, 55, 97, 98, 97, 99, 99, 52, 49, 55, 51, 52, 57, 97, 101, 50, 48, 52, 49, 51, 49, 49, 50, 101, 54, 102, 97, 52, 101, 56, 57, 97, 57, 55, 101, 97, 50, 48, 97, 57, 101, 101, 101, 101, 54, 52, 98, 53, 53, 100, 51, 57, 97, 50, 49, 57, 50, 57, 57, 50, 97, 50, 55, 52, 102, 99, 49, 97, 56, 51, 54, 98, 97, 51, 99, 50, 51, 97, 51, 102, 101, 101, 98, 98, 100, 52, 53, 52, 100, 52, 52, 50, 51, 54, 52, 51, 99, 101, 56, 48, 101, 50, 97, 57, 97, 99, 57, 52, 102, 97, 53, 52, 99, 97, 52, 57, 102] := by decide +kernel
theorem of_abc (w : World) : Calls Try.prog 6 #[.slice (some ⟨w.heap.size, 0, none⟩) 1 1] (w.alloc (.cells #[.string ⟨#[97, 98, 99]⟩] 9)) fun e w' => e = .returned (strV (digL [0xddaf35a193617aba, 0xcc417349ae204131, 0x12e6fa4e89a97ea2, 0xa9eeee64b55d39a, 0x2192992a274fc1a8, 0x36ba3c23a3feebbd, 0x454d4423643ce80e, 0x2a9ac94fa54ca49f])) ∧ Below w.heap.size w w' := by
  have h := hof_any 1 (some ⟨w.heap.size, 0, none⟩) [abcL] _ (StrsAt.new w [abcL]) (by simp) (by decide) [abcL ++ padL abcL] [] (by simpa using abc_cuts)
  rw [abc_dig] at h
  have hb := (mk_at w (.cells ([abcL].map strV).toArray 9)).2
  refine (show Calls Try.prog 6 #[.slice (some ⟨w.heap.size, 0, none⟩) 1 1] (w.alloc (.cells #[.string ⟨#[97, 98, 99]⟩] 9)) _ from h).mono ?_
  rintro e w' ⟨rfl, h2⟩
  exact ⟨rfl, hb.trans (h2.mono hb.size)⟩
theorem hex_abc (w : World) : Calls Try.prog 13 #[strV (digL [0xddaf35a193617aba, 0xcc417349ae204131, 0x12e6fa4e89a97ea2, 0xa9eeee64b55d39a, 0x2192992a274fc1a8, 0x36ba3c23a3feebbd, 0x454d4423643ce80e, 0x2a9ac94fa54ca49f])] w fun e w' => e = .returned (.string ⟨#[100, 100, 97, 102, 51, 53, 97, 49, 57, 51, 54, 49, 55, 97, 98, 97, 99, 99, 52, 49, 55, 51, 52, 57, 97, 101, 50, 48, 52, 49, 51, 49, 49, 50, 101, 54, 102, 97, 52, 101, 56, 57, 97, 57, 55, 101, 97, 50, 48, 97, 57, 101, 101, 101, 101, 54, 52, 98, 53, 53, 100, 51, 57, 97, 50, 49, 57, 50, 57, 57, 50, 97, 50, 55, 52, 102, 99, 49, 97, 56, 51, 54, 98, 97, 51, 99, 50, 51, 97, 51, 102, 101, 101, 98, 98, 100, 52, 53, 52, 100, 52, 52, 50, 51, 54, 52, 51, 99, 101, 56, 48, 101, 50, 97, 57, 97, 99, 57, 52, 102, 97, 53, 52, 99, 97, 52, 57, 102]⟩) ∧ Below w.heap.size w w' := by
  refine (hex_any ⟨(digL [0xddaf35a193617aba, 0xcc417349ae204131, 0x12e6fa4e89a97ea2, 0xa9eeee64b55d39a, 0x2192992a274fc1a8, 0x36ba3c23a3feebbd, 0x454d4423643ce80e, 0x2a9ac94fa54ca49f]).toArray⟩ w (by decide +kernel)).mono ?_
  rintro e w' ⟨rfl, hb⟩
  refine ⟨?_, hb⟩
  rw [show (⟨(digL [0xddaf35a193617aba, 0xcc417349ae204131, 0x12e6fa4e89a97ea2, 0xa9eeee64b55d39a, 0x2192992a274fc1a8, 0x36ba3c23a3feebbd, 0x454d4423643ce80e, 0x2a9ac94fa54ca49f]).toArray⟩ : ByteArray).data.toList = digL [0xddaf35a193617aba, 0xcc417349ae204131, 0x12e6fa4e89a97ea2, 0xa9eeee64b55d39a, 0x2192992a274fc1a8, 0x36ba3c23a3feebbd, 0x454d4423643ce80e, 0x2a9ac94fa54ca49f] by simp, abc_hex]
set_option maxRecDepth 20000 in
theorem lives18 (w : World) : Calls Try.prog 5 #[] w fun e w' => e = .returned (.bool true) ∧ Below w.heap.size w w' := by
  have KO := Lib.hid of_abc
  have KH := Lib.hid hex_abc
  obtain ⟨D, hD⟩ : ∃ D : ByteArray, strV (digL [0xddaf35a193617aba, 0xcc417349ae204131, 0x12e6fa4e89a97ea2, 0xa9eeee64b55d39a, 0x2192992a274fc1a8, 0x36ba3c23a3feebbd, 0x454d4423643ce80e, 0x2a9ac94fa54ca49f]) = .string D := ⟨_, rfl⟩
  rw [hD] at KO KH
  clear hD
  go_enter Try.func5, Try.ntmps5
  go_wp2_with fail
  refine (KO.out _).mono ?_
  rintro e w1 ⟨rfl, hb1⟩
  have B1 := Lib.hid hb1
  clear hb1
  go_wp2_with fail
  refine (KH.out _).mono ?_
  rintro e w2 ⟨rfl, hb2⟩
  have B2 := Lib.hid (B1.out.trans (hb2.mono B1.out.size))
  clear hb2 B1
  go_wp2_with fail
  go_ret
  exact ⟨rfl, B2.out⟩
end Go.Proofs.Ytmjbhmpogpagjaa
