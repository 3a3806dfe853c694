/- sha5.spread (layer 18): what it answers. -/
import Derived.Test.YtmjbhmpogpagjaaS5H
import Derived.Test.YtmjbhmpogpagjaaS5Oct
import Derived.Test.YtmjbhmpogpagjaaWidC
import Derived.Test.YtmjbhmpogpagjaaWidMb
import Derived.Laws.CopyRow
import Derived.Laws.CopyOwn
import Derived.Lib.SlBuf
import Derived.Deep.DeepCutAuto
namespace Go.Proofs.Ytmjbhmpogpagjaa
set_option maxRecDepth 20000
set_option linter.unusedSimpArgs false
set_option linter.unusedVariables false
open Go.RowKit
/-- The 80 words, the first of them filled. -/
def rowZ (l : List Nat) : List Value := rowV (l ++ List.replicate (80 - l.length) 0)
def zobj : Obj := .cells (rowZ []).toArray 38
theorem rowV_len (l : List Nat) : (rowV l).length = l.length := List.length_map _
theorem rowV_get (l : List Nat) (i : Nat) (h : i < l.length) : (rowV l)[i]? = some (.int .u64 (l.getD i 0 : Int)) := by
  unfold rowV
  rw [List.getElem?_map, List.getElem?_eq_getElem h, List.getD_eq_getElem?_getD, List.getElem?_eq_getElem h]
  rfl
theorem rowZ_get (l : List Nat) (i : Nat) (h : i < l.length) : (rowZ l)[i]? = some (.int .u64 (l.getD i 0 : Int)) := by
  unfold rowZ
  rw [rowV_get _ i (by simp; omega), List.getD_eq_getElem?_getD, List.getElem?_append_left h, ← List.getD_eq_getElem?_getD]
theorem rowZ_set (l : List Nat) (x : Nat) (h : l.length < 80) : (rowZ l).set l.length (.int .u64 (x : Int)) = rowZ (l ++ [x]) := by
  unfold rowZ rowV
  obtain ⟨d, hd⟩ : ∃ d, 80 - l.length = d + 1 := ⟨80 - l.length - 1, by omega⟩
  rw [hd, List.length_append, List.length_singleton, show 80 - (l.length + 1) = d by omega, List.replicate_succ]
  simp [List.map_append, List.set_append]
theorem rowZ_len (l : List Nat) (h : l.length ≤ 80) : (rowZ l).length = 80 := by
  unfold rowZ
  rw [rowV_len, List.length_append, List.length_replicate]
  omega
theorem own_cellsV {w : World} {base n : Nat} {v : Value} {l : List Nat} (h : w.ownsRow base 36 1 v n (rowV l)) (h0 : 0 < n) (hl : l.length = n) :
    ∃ g cap, v = .slice (some ⟨g, 0, none⟩) n cap ∧ base ≤ g ∧ g < w.heap.size ∧ ∀ i, i < n → w.cell? ⟨g, i, none⟩ = some (.int .u64 (l.getD i 0 : Int)) := by
  obtain ⟨_, ⟨_, h1⟩ | ⟨g, cap, cur, rfl, h1, h2, h3, h4, h5, h6⟩⟩ := h
  · omega
  · refine ⟨g, cap, rfl, h1, ?_, fun i hi => ?_⟩
    · apply Nat.lt_of_not_le
      intro hle
      rw [Array.getElem?_eq_none hle] at h2
      simp at h2
    · have hx : (cur.toList.take (n * 1))[i]? = (rowV l)[i]? := congrArg (fun l : List Value => l[i]?) h6
      rw [List.getElem?_take, if_pos (by omega), rowV_get l i (by omega)] at hx
      have hc : w.cell? ⟨g, i, none⟩ = cur.toList[i]? := by simp [World.cell?, h2]
      rw [hc, hx]
theorem copy16 (w : World) (b g cap : Nat) (m : List Nat) (hm : m.length = 16) (hb : w.heap[b]? = some zobj) (hc : ∀ i, i < 16 → w.cell? ⟨g, i, none⟩ = some (.int .u64 (m.getD i 0 : Int))) :
    (Builtin.copy_ #[33, 33] 3 #[.slice (some ⟨b, 0, none⟩) 80 80, .slice (some ⟨g, 0, none⟩) 16 cap]).run Try.prog w = .ok (.int .i64 16) (w.setRow b (rowZ m).toArray) := by
  have h := run_copy_row (P := Try.prog) w 33 33 3 36 b 0 80 80 ⟨g, 0, none⟩ 16 cap (rowZ []).toArray 38 (rowV m) Try.underlying33 (by kernel_rfl) hb (by rw [rowV_len, hm]; rfl)
    (fun j v hj => by
      have hj2 : j < 16 := by
        have := (List.getElem?_eq_some_iff.1 hj).1
        rw [rowV_len, hm] at this
        exact this
      rw [rowV_get m j (by omega)] at hj
      cases hj
      have e : (⟨g, 0, none⟩ : Addr).add j = ⟨g, j, none⟩ := by
        unfold Addr.add
        split
        · simp_all
        · simp
      rw [e]
      exact hc j hj2) (by rw [rowV_len, hm]; decide) (fun v hv => by
      unfold rowV at hv
      obtain ⟨x, _, rfl⟩ := List.mem_map.1 hv
      rfl)
  rw [rowV_len, hm] at h
  rw [h]
  have e : ((rowZ []).toArray.toList.take 0 ++ rowV m ++ (rowZ []).toArray.toList.drop (0 + 16)) = rowZ m := by
    unfold rowZ rowV
    rw [hm]
    simp
  rw [e]
  rfl
theorem keepI {w w' : World} {b : Nat} {o : Obj} (r : w.heap[b]? = some o) (hb : Below w.heap.size w w') : w'.heap[b]? = some o := by
  rw [hb.block b (Array.getElem?_eq_some_iff.1 r).1]
  exact r
set_option maxRecDepth 20000 in
set_option maxHeartbeats 1600000 in
theorem spread_any (s : ByteArray) (w : World) (hs : s.size = 128) :
    Calls Try.prog 36 #[.string s] w fun e w' => e = .returned (.agg (rowV (wsN (blockM s 16) 64)).toArray) ∧ Below w.heap.size w w' := by
  have KG := Lib.hid (fun w => get64_words s w hs)
  have hM : ∀ x ∈ blockM s 16, x < M64 := fun x hx => by
    unfold blockM at hx
    obtain ⟨t, ht, rfl⟩ := List.mem_map.1 hx
    have := List.mem_range.1 ht
    exact blockW_lt s t (by omega)
  have hml := blockM_len s 16
  have HLT := Lib.hid (wsN_lt (blockM s 16) hM)
  obtain ⟨m, hmm⟩ : ∃ m, blockM s 16 = m := ⟨_, rfl⟩
  rw [hmm] at KG hml HLT ⊢
  have HLEN : Hid (∀ k, (wsN m k).length = 16 + k) := fun k => by rw [wsN_len, hml]
  have HML := Lib.hid hml
  clear hM hmm hml
  go_enter Try.func36, Try.ntmps36
  go_wp2_with fail
  change Code.wp _ _ _ _ ((w.alloc zobj).alloc zobj)
  have x2 : ((w.alloc zobj).alloc zobj).heap[w.heap.size]? = some zobj := keepI (mk_at w zobj).1 (mk_at _ zobj).2
  have x3 : ((w.alloc zobj).alloc zobj).heap[w.heap.size + 1]? = some zobj := by
    have h := (mk_at (w.alloc zobj) zobj).1
    rwa [show (w.alloc zobj).heap.size = w.heap.size + 1 from Array.size_push ..] at h
  have xB : Below w.heap.size w ((w.alloc zobj).alloc zobj) := (mk_at w zobj).2.trans ((mk_at _ zobj).2.mono (mk_at w zobj).2.size)
  generalize (w.alloc zobj).alloc zobj = X at x2 x3 xB ⊢
  have X2 := Lib.hid x2
  have X3 := Lib.hid x3
  have XB := Lib.hid xB
  clear x2 x3 xB
  go_region_held3 (fun _ => True) (trivial) (first
    | (go_at_call 58; go_must (refine (KG.out _).mono ?_); rintro e w1 ⟨v1, rfl, hown1, hb1⟩
       obtain ⟨g1, cp1, rfl, hg1, hgl1, hc1⟩ := own_cellsV hown1 (by omega) HML.out)
    | (rw [if_pos (by rfl)]; refine Lib.wp_copy_run _ (.tmp 7) (.tmp 9) 33 33 rfl _ _ (by simp [Act.eval]) (by simp [Act.eval]) (copy16 _ (w.heap.size + 1) g1 cp1 m HML.out (keepI (w := X.drew) X3.out hb1) hc1) ?_))
  have y3 : (w1.setRow (w.heap.size + 1) (rowZ m).toArray).heap[w.heap.size + 1]? = some (.cells (rowZ m).toArray 38 (0, 0)) := setRow_heap _ _ _ _ _ _ (keepI (w := X.drew) X3.out hb1)
  have y2 : (w1.setRow (w.heap.size + 1) (rowZ m).toArray).heap[w.heap.size]? = some zobj := (setRow_other _ _ _ _ (by omega)).trans (keepI (w := X.drew) X2.out hb1)
  have yB : Below w.heap.size w (w1.setRow (w.heap.size + 1) (rowZ m).toArray) := below_setRow (XB.out.trans ((Below.trans (b := X.drew) (B := X.heap.size) (a := X) ⟨rfl, rfl, rfl, Nat.le_refl _, fun _ _ => rfl⟩ hb1).mono XB.out.size)) (Nat.le_succ _) _
  generalize w1.setRow (w.heap.size + 1) (rowZ m).toArray = Y at y2 y3 yB ⊢
  have Y2 := Lib.hid y2
  have Y3 := Lib.hid y3
  have YB := Lib.hid yB
  clear y2 y3 yB X2 X3 XB hb1 hown1 hg1 hgl1 hc1 KG
  go_wp2_with fail
  go_loopw [4] (fun v W => ∃ k : Nat, k ≤ 64 ∧ v = .int .i64 ((16 + k : Nat) : Int) ∧ W.heap[w.heap.size + 1]? = some (.cells (rowZ (wsN m k)).toArray 38 (0, 0)) ∧ W.heap[w.heap.size]? = some zobj ∧ Below w.heap.size w W) (fun v _ => 80 - (intOf v).toNat)
  case atStart => exact ⟨0, by omega, rfl, Y3.out, Y2.out, YB.out⟩
  case round =>
    clear Y2 Y3 YB
    obtain ⟨k, hk, rfl, r3, r2, rb⟩ := hrel
    have hL := HLEN.out k
    have hLB := HLT.out k
    have hNX := HLEN.out (k + 1)
    have hcell : ∀ j, j < 16 + k → wr.cell? ⟨w.heap.size + 1, j, none⟩ = some (.int .u64 ((wsN m k).getD j 0 : Int)) := fun j hj => by
      rw [cell_blk r3]
      exact rowZ_get _ j (by omega)
    have hset : 16 + k < 80 → (rowZ (wsN m k)).set (16 + k) (.int .u64 (nextW (wsN m k) : Int)) = rowZ (wsN m (k + 1)) := fun h => by
      have := rowZ_set (wsN m k) (nextW (wsN m k)) (by omega)
      rw [hL] at this
      exact this
    have hnx : nextW (wsN m k) = (sg1 ((wsN m k).getD (16 + k - 2) 0) + (wsN m k).getD (16 + k - 7) 0 + sg0 ((wsN m k).getD (16 + k - 15) 0) + (wsN m k).getD (16 + k - 16) 0) % M64 := by
      unfold nextW
      rw [hL]
    have R3 := Lib.hid r3
    have R2 := Lib.hid r2
    have RB := Lib.hid rb
    clear r3 r2 rb
    obtain ⟨b3, hb3⟩ : ∃ b3, w.heap.size + 1 = b3 := ⟨_, rfl⟩
    obtain ⟨b2, hb2⟩ : ∃ b2, w.heap.size = b2 := ⟨_, rfl⟩
    have HBB := Lib.hid (And.intro hb2 hb3)
    rw [hb3] at R3 hcell ⊢
    rw [hb2] at R2 ⊢
    by_cases hlt : 16 + k < 80
    · have hset := hset hlt
      rw [hnx] at hset
      have hg : ∀ j, (wsN m k).getD j 0 < M64 := fun j => getD_lt hLB j
      have i15 : ∃ j : Nat, j = 16 + k - 15 := ⟨_, rfl⟩
      obtain ⟨j15, h15⟩ := i15
      obtain ⟨j2, h2⟩ : ∃ j : Nat, j = 16 + k - 2 := ⟨_, rfl⟩
      obtain ⟨j7, h7⟩ : ∃ j : Nat, j = 16 + k - 7 := ⟨_, rfl⟩
      obtain ⟨j16, h16⟩ : ∃ j : Nat, j = 16 + k - 16 := ⟨_, rfl⟩
      rw [← h15, ← h2, ← h7, ← h16] at hset
      have c15 := hcell j15 (by omega)
      have c2 := hcell j2 (by omega)
      have c7 := hcell j7 (by omega)
      have c16 := hcell j16 (by omega)
      have hx := hg j15
      have hy := hg j2
      have hz := hg j7
      have hv := hg j16
      clear hcell hg hnx hLB
      generalize (wsN m k).getD j15 0 = x at *
      generalize (wsN m k).getD j2 0 = y at *
      generalize (wsN m k).getD j7 0 = z at *
      generalize (wsN m k).getD j16 0 = v at *
      obtain ⟨t, ht⟩ : ∃ t : Nat, t = 16 + k := ⟨_, rfl⟩
      rw [← ht] at hset ⊢
      have HSET := Lib.hid hset
      have HT := Lib.hid (And.intro hk ht)
      have p1 : (t : Int) < 80 := by omega
      have w15 : IntKind.i64.wrap ((t : Int) - 15) = (t : Int) - 15 := by rw [IntKind.wrap_i64]; omega
      have w2 : IntKind.i64.wrap ((t : Int) - 2) = (t : Int) - 2 := by rw [IntKind.wrap_i64]; omega
      have w7 : IntKind.i64.wrap ((t : Int) - 7) = (t : Int) - 7 := by rw [IntKind.wrap_i64]; omega
      have w16 : IntKind.i64.wrap ((t : Int) - 16) = (t : Int) - 16 := by rw [IntKind.wrap_i64]; omega
      have l15 : ((15 : Int) ≤ (t : Int)) := by omega
      have l16 : ((16 : Int) ≤ (t : Int)) := by omega
      have l2 : ((2 : Int) ≤ (t : Int)) := by omega
      have l7 : ((7 : Int) ≤ (t : Int)) := by omega
      have u15 : (t : Int) - 15 < 80 := by omega
      have u16 : (t : Int) - 16 < 80 := by omega
      have u2 : (t : Int) - 2 < 80 := by omega
      have u7 : (t : Int) - 7 < 80 := by omega
      have n15 : ((t : Int) - 15).toNat = j15 := by omega
      have n16 : ((t : Int) - 16).toNat = j16 := by omega
      have n2 : ((t : Int) - 2).toNat = j2 := by omega
      have n7 : ((t : Int) - 7).toNat = j7 := by omega
      have HV0 : Hid (∃ v0, (rowZ (wsN m k))[t]? = some v0) := ⟨_, List.getElem?_eq_getElem (by rw [rowZ_len _ (by omega)]; omega)⟩
      have HV0 : Hid (∃ v0, (rowZ (wsN m k))[t]? = some v0) := ⟨_, List.getElem?_eq_getElem (by rw [rowZ_len _ (by omega)]; omega)⟩
      have HV0 : Hid (∃ v0, (rowZ (wsN m k))[t]? = some v0) := ⟨_, List.getElem?_eq_getElem (by rw [rowZ_len _ (by omega)]; omega)⟩
      have HV0 : Hid (∃ v0, (rowZ (wsN m k))[t]? = some v0) := ⟨_, List.getElem?_eq_getElem (by rw [rowZ_len _ (by omega)]; omega)⟩
      have HV0 : Hid (∃ v0, (rowZ (wsN m k))[t]? = some v0) := ⟨_, List.getElem?_eq_getElem (by rw [rowZ_len _ (by omega)]; omega)⟩
      have HV0 : Hid (∃ v0, (rowZ (wsN m k))[t]? = some v0) := ⟨_, List.getElem?_eq_getElem (by rw [rowZ_len _ (by omega)]; omega)⟩
      have HV0 : Hid (∃ v0, (rowZ (wsN m k))[t]? = some v0) := ⟨_, List.getElem?_eq_getElem (by rw [rowZ_len _ (by omega)]; omega)⟩
      have HV0 : Hid (∃ v0, (rowZ (wsN m k))[t]? = some v0) := ⟨_, List.getElem?_eq_getElem (by rw [rowZ_len _ (by omega)]; omega)⟩
      have HV0 : Hid (∃ v0, (rowZ (wsN m k))[t]? = some v0) := ⟨_, List.getElem?_eq_getElem (by rw [rowZ_len _ (by omega)]; omega)⟩
      have HV0 : Hid (∃ v0, (rowZ (wsN m k))[t]? = some v0) := ⟨_, List.getElem?_eq_getElem (by rw [rowZ_len _ (by omega)]; omega)⟩
      have HV0 : Hid (∃ v0, (rowZ (wsN m k))[t]? = some v0) := ⟨_, List.getElem?_eq_getElem (by rw [rowZ_len _ (by omega)]; omega)⟩
      clear ht hk h15 h2 h7 h16 hlt
      clear hset
      try clear hset
      go_wp2_with fail
      have HMIX := Lib.hid (show Try.prog.follows .mixedOrders = true by kernel_rfl)
      have C7 := Lib.hid c7
      have C16 := Lib.hid c16
      have XY := Lib.hid (And.intro hx hy)
      have ZV := Lib.hid (And.intro hz hv)
      have d15 := fun d os => cell_regrown c15 d os
      have d2 := fun d os => cell_regrown c2 d os
      clear c15 c2 c7 c16 hx hy hz hv
      refine wp_region_inv HMIX.out (by kernel_rfl) ?_
      repeat (first
        | (refine inv_skip (by rfl) (by rfl) ?_; simp only [Act.put, List.setIfInBounds_toArray, List.set_cons_zero, List.set_cons_succ])
        | (refine inv_val (v := ?_) (by rfl) (by rfl) (fun d os => ?_) ?_; rotate_left; (focus (go_simp; (try with_reducible rfl); done)); simp only [Act.put, List.setIfInBounds_toArray, List.set_cons_zero, List.set_cons_succ]))
      refine inv_end (fun d os => ?_)
      have BW := below_regrown wr d os
      have e3 := keepI R3.out BW
      have e2 := keepI R2.out BW
      have e7 := cell_regrown C7.out d os
      have e16 := cell_regrown C16.out d os
      have eB := RB.out.trans (BW.mono RB.out.size)
      generalize Sort.grow (redrawn wr d) os = W at e3 e2 e7 e16 eB ⊢
      clear BW R3 R2 RB d15 d2 C7 C16
      have E3 := Lib.hid e3
      have E2 := Lib.hid e2
      have EB := Lib.hid eB
      clear e3 e2 eB
      have KY := Lib.hid (turns_two y 19 61 XY.out.2 (by decide) (by decide))
      have KX := Lib.hid (turns_two x 1 8 XY.out.1 (by decide) (by decide))
      have ry : rotN 64 y 19 ^^^ rotN 64 y 61 < M64 := xor_lt (rot_lt y 19 XY.out.2) (rot_lt y 61 XY.out.2)
      have rx : rotN 64 x 1 ^^^ rotN 64 x 8 < M64 := xor_lt (rot_lt x 1 XY.out.1) (rot_lt x 8 XY.out.1)
      have sy : y / 64 < M64 := Nat.lt_of_le_of_lt (Nat.div_le_self _ _) XY.out.2
      have sx : x / 128 < M64 := Nat.lt_of_le_of_lt (Nat.div_le_self _ _) XY.out.1
      have vy := xor_u64 _ _ ry sy
      have vx := xor_u64 _ _ rx sx
      have gy : sg1 y < M64 := xor_lt ry sy
      rw [show rotN 64 y 19 ^^^ rotN 64 y 61 ^^^ y / 64 = sg1 y from rfl] at vy
      rw [show rotN 64 x 1 ^^^ rotN 64 x 8 ^^^ x / 128 = sg0 x from rfl] at vx
      have KS := Lib.hid (sum_four (sg1 y) z (sg0 x) v gy)
      have qy : (y : Int) / 64 = ((y / 64 : Nat) : Int) := by omega
      have qx : (x : Int) / 128 = ((x / 128 : Nat) : Int) := by omega
      generalize (sg1 y + z + sg0 x + v) % M64 = r at *
      generalize sg1 y = gy1 at *
      generalize sg0 x = gx0 at *
      generalize rotN 64 y 19 ^^^ rotN 64 y 61 = ty at *
      generalize rotN 64 x 1 ^^^ rotN 64 x 8 = tx at *
      generalize y / 64 = ys at *
      generalize x / 128 = xs at *
      clear ry rx sy sx gy XY ZV
      go_wp2_with fail
      have d7 := fun d os => cell_regrown e7 d os
      have d16 := fun d os => cell_regrown e16 d os
      clear e7 e16
      refine wp_region_inw 24 HMIX.out (by decide) (by kernel_rfl) (by kernel_rfl) ?_
      repeat (first
        | (refine inw_skip (by rfl) (by rfl) ?_; simp only [Act.put, List.setIfInBounds_toArray, List.set_cons_zero, List.set_cons_succ])
        | (refine inw_val (v := ?_) (by rfl) (by rfl) (fun d os => ?_) ?_; rotate_left; (focus (go_simp; (try with_reducible rfl); done)); simp only [Act.put, List.setIfInBounds_toArray, List.set_cons_zero, List.set_cons_succ]))
      refine inw_mk (fun b => .slice (some ⟨b, 0, none⟩) 2 2) (.cells #[.int .i64 ((19 : Nat) : Int), .int .i64 ((61 : Nat) : Int)] 3 (0, 0)) (by rfl) (by rfl) (fun d os => ?_) ?_; (focus (go_simp; done)); simp only [List.nil_append, List.cons_append]
      repeat (first
        | (refine inw_skip (by rfl) (by rfl) ?_; simp only [Act.put, List.setIfInBounds_toArray, List.set_cons_zero, List.set_cons_succ])
        | (refine inw_val (v := ?_) (by rfl) (by rfl) (fun d os => ?_) ?_; rotate_left; (focus (go_simp; (try with_reducible rfl); done)); simp only [Act.put, List.setIfInBounds_toArray, List.set_cons_zero, List.set_cons_succ]))
      refine inw_callp (v := _) (f := 38) (args := fun b => #[.int .u64 (y : Int), .slice (some ⟨b, 0, none⟩) 2 2]) (by rfl) (by rfl) (fun b => by rfl) (fun b d os => by (simp only [Act.put, List.setIfInBounds_toArray, List.set_cons_zero, List.set_cons_succ]; go_simp; done)) KY.out ?_; simp only [Act.put, List.setIfInBounds_toArray, List.set_cons_zero, List.set_cons_succ]
      repeat (first
        | (refine inw_skip (by rfl) (by rfl) ?_; simp only [Act.put, List.setIfInBounds_toArray, List.set_cons_zero, List.set_cons_succ])
        | (refine inw_val (v := ?_) (by rfl) (by rfl) (fun d os => ?_) ?_; rotate_left; (focus (go_simp; (try with_reducible rfl); done)); simp only [Act.put, List.setIfInBounds_toArray, List.set_cons_zero, List.set_cons_succ]))
      refine inw_mk (fun b => .slice (some ⟨b, 0, none⟩) 2 2) (.cells #[.int .i64 ((1 : Nat) : Int), .int .i64 ((8 : Nat) : Int)] 3 (0, 0)) (by rfl) (by rfl) (fun d os => ?_) ?_; (focus (go_simp; done)); simp only [List.nil_append, List.cons_append]
      repeat (first
        | (refine inw_skip (by rfl) (by rfl) ?_; simp only [Act.put, List.setIfInBounds_toArray, List.set_cons_zero, List.set_cons_succ])
        | (refine inw_val (v := ?_) (by rfl) (by rfl) (fun d os => ?_) ?_; rotate_left; (focus (go_simp; (try with_reducible rfl); done)); simp only [Act.put, List.setIfInBounds_toArray, List.set_cons_zero, List.set_cons_succ]))
      refine inw_callp (v := _) (f := 38) (args := fun b => #[.int .u64 (x : Int), .slice (some ⟨b, 0, none⟩) 2 2]) (by rfl) (by rfl) (fun b => by rfl) (fun b d os => by (simp only [Act.put, List.setIfInBounds_toArray, List.set_cons_zero, List.set_cons_succ]; go_simp; done)) KX.out ?_; simp only [Act.put, List.setIfInBounds_toArray, List.set_cons_zero, List.set_cons_succ]
      repeat (first
        | (refine inw_skip (by rfl) (by rfl) ?_; simp only [Act.put, List.setIfInBounds_toArray, List.set_cons_zero, List.set_cons_succ])
        | (refine inw_val (v := ?_) (by rfl) (by rfl) (fun d os => ?_) ?_; rotate_left; (focus (go_simp; (try with_reducible rfl); done)); simp only [Act.put, List.setIfInBounds_toArray, List.set_cons_zero, List.set_cons_succ]))
      refine inw_mk (fun b => .slice (some ⟨b, 0, none⟩) 4 4) (.cells #[.int .u64 (gy1 : Int), .int .u64 (z : Int), .int .u64 (gx0 : Int), .int .u64 (v : Int)] 36 (0, 0)) (by rfl) (by rfl) (fun d os => ?_) ?_; (focus (go_simp; done)); simp only [List.nil_append, List.cons_append]
      repeat (first
        | (refine inw_skip (by rfl) (by rfl) ?_; simp only [Act.put, List.setIfInBounds_toArray, List.set_cons_zero, List.set_cons_succ])
        | (refine inw_val (v := ?_) (by rfl) (by rfl) (fun d os => ?_) ?_; rotate_left; (focus (go_simp; (try with_reducible rfl); done)); simp only [Act.put, List.setIfInBounds_toArray, List.set_cons_zero, List.set_cons_succ]))
      refine inw_callp (v := _) (f := 37) (args := fun b => #[.slice (some ⟨b, 0, none⟩) 4 4]) (by rfl) (by rfl) (fun b => by rfl) (fun b d os => by (simp only [Act.put, List.setIfInBounds_toArray, List.set_cons_zero, List.set_cons_succ]; go_simp; done)) KS.out ?_; simp only [Act.put, List.setIfInBounds_toArray, List.set_cons_zero, List.set_cons_succ]
      repeat (first
        | (refine inw_skip (by rfl) (by rfl) ?_; simp only [Act.put, List.setIfInBounds_toArray, List.set_cons_zero, List.set_cons_succ])
        | (refine inw_val (v := ?_) (by rfl) (by rfl) (fun d os => ?_) ?_; rotate_left; (focus (go_simp; (try with_reducible rfl); done)); simp only [Act.put, List.setIfInBounds_toArray, List.set_cons_zero, List.set_cons_succ]))
      refine inw_end3 (t1 := 25) (t2 := 35) (t3 := 44) (by rfl) (by rfl) (by rfl) (fun n1 n2 n3 d os => ?_)
      have BW := below_regrown W d os
      have f3 := keepI E3.out BW
      have f2 := keepI E2.out BW
      have fB := EB.out.trans (BW.mono EB.out.size)
      generalize Sort.grow (redrawn W d) os = V at f3 f2 fB ⊢
      clear BW E3 E2 EB d7 d16
      simp only [Act.put, List.setIfInBounds_toArray, List.set_cons_zero, List.set_cons_succ]
      have F2 := Lib.hid f2
      have FB := Lib.hid fB
      have F3 := Lib.hid f3
      obtain ⟨v0, hv0⟩ := HV0.out
      have ft := arr_get f3 hv0
      obtain ⟨ft1, ft2⟩ := ft
      clear f2 fB f3 hv0
      change wpAny _ _ _ _ 1 _ _ _
      refine any_one (i := 24) (by kernel_rfl) rfl (fun K hK => ?_)
      go_simp
      refine hK _ _ ?_
      clear hK K ft1 ft2
      have G3 := Lib.hid (arr_set F3.out (.int .u64 (r : Int)) (i := t))
      have hne : b2 ≠ b3 := by have := HBB.out.1; have := HBB.out.2; omega
      have hle : w.heap.size ≤ b3 := by have := HBB.out.2; omega
      have G2 := Lib.hid ((heap_setCell_other V ⟨b3, t, none⟩ b2 (.int .u64 (r : Int)) hne).trans F2.out)
      have GB := Lib.hid (FB.out.setCell (p := ⟨b3, t, none⟩) hle (.int .u64 (r : Int)))
      clear hne hle
      clear F3 F2 FB
      refine wpAny_done (by kernel_rfl) ?_ _
      go_wp2_with fail
      have g3 := G3.out
      rw [HSET.out] at g3
      have gB := GB.out
      rw [HBB.out.1] at gB
      have h1 := HT.out.1
      have h2 := HT.out.2
      exact ⟨⟨k + 1, by omega, by rw [show (16 + (k + 1) : Nat) = t + 1 by omega]; rfl, g3, G2.out, gB⟩, by simp [intOf]; omega⟩
    · have hk48 : k = 64 := by omega
      subst hk48
      have p1 : ¬ ((16 + 64 : Nat) : Int) < 80 := by omega
      have hl := HLEN.out 64
      have hz0 : rowZ (wsN m 64) = rowV (wsN m 64) := by
        unfold rowZ
        rw [hl]
        simp
      have hz1 : (rowV (wsN m 64)).length = 80 := by rw [rowV_len, hl]
      have hz2 : ∀ v ∈ rowV (wsN m 64), v.oneCell' = true := fun v hv => by
        unfold rowV at hv
        obtain ⟨x, _, rfl⟩ := List.mem_map.1 hv
        rfl
      have r3 := R3.out
      have r2 := R2.out
      rw [hz0] at r3
      clear hcell hset hnx hL hLB hNX hz0 hl R3 R2 hlt
      obtain ⟨L, hLL⟩ : ∃ L, L = rowV (wsN m 64) := ⟨_, rfl⟩
      rw [← hLL] at r3 hz1 hz2
      have HLL := Lib.hid hLL
      clear hLL
      have R3 := Lib.hid r3
      have R2 := Lib.hid r2
      have Z1 := Lib.hid hz1
      have Z2 := Lib.hid hz2
      have hle : w.heap.size ≤ b2 := Nat.le_of_eq HBB.out.1
      have G2 := Lib.hid (setRow_heap wr b2 _ L.toArray _ _ (show wr.heap[b2]? = some (.cells (rowZ []).toArray 38 (0, 0)) from r2))
      have GB := Lib.hid (below_setRow RB.out hle L.toArray)
      clear r3 r2 hz1 hz2 hle RB
      iterate 22 go_step
      refine wp_load_row 38 (.tmp 3) rfl b3 (by simp [Act.eval]) 38 L.toArray (0, 0) _ R3.out Try.underlying38 rfl (by rw [List.size_toArray, Z1.out]; kernel_rfl) ?_
      simp only [Act.put, List.setIfInBounds_toArray, List.set_cons_zero, List.set_cons_succ]
      go_step
      go_step
      refine wp_store_row 38 (.tmp 2) (.tmp 47) rfl b2 L.toArray (by simp [Act.eval]) (by simp [Act.eval]) 38 _ R2.out (by rw [List.size_toArray, Z1.out]; kernel_rfl) (by rw [show L.toArray.size = 80 from Z1.out]; kernel_rfl) (Array.all_eq_true_iff_forall_mem.2 (fun v hv => Z2.out v (by simpa using hv))) ?_
      simp only [Act.put, List.setIfInBounds_toArray, List.set_cons_zero, List.set_cons_succ]
      generalize wr.setRow b2 L.toArray = Y9 at *
      iterate 5 go_step
      have kl := run_loadVar_row (P := Try.prog) Y9 b2 38 38 _ (0, 0) _ G2.out Try.underlying38 rfl (by rw [List.size_toArray, Z1.out]; kernel_rfl)
      exact bodyPost_ret (v := .agg L.toArray) (results_arr_one Try.results36 (by rfl) kl) rfl ⟨by rw [HLL.out], GB.out⟩
end Go.Proofs.Ytmjbhmpogpagjaa
