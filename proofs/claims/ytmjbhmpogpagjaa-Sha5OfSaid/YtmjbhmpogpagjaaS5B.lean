/- The reference's words (layer 18): its contract. -/
import Derived.Test.YtmjbhmpogpagjaaS5A
import Derived.Deep.RegionHeld3
import Derived.Deep.AppendLies
namespace Go.Proofs.Ytmjbhmpogpagjaa
set_option maxRecDepth 20000
set_option linter.unusedSimpArgs false
set_option linter.unusedVariables false
open Go.RowKit
theorem Try.sinfo_u64 : (Try.prog.info? 36).map (fun i => (i.zero, i.size, i.bytes)) = some (some (.int .u64 0), 1, 8) := by kernel_rfl
def rowU (l : List Nat) : List Value := l.map fun x : Nat => Value.int .u64 (x : Int)
theorem rowU_snoc (l : List Nat) (x : Nat) : rowU (l ++ [x]) = rowU l ++ [.int .u64 (x : Int)] := by simp [rowU]
theorem rowU_len (l : List Nat) : (rowU l).length = l.length := List.length_map _
/-- A slice of words that a callee made: where its cells lie. -/
theorem own_cells {w : World} {base n : Nat} {v : Value} {l : List Nat} (h : w.ownsRow base 36 1 v n (rowU l)) (h0 : 0 < n) :
    ∃ g cap, v = .slice (some ⟨g, 0, none⟩) n cap ∧ base ≤ g ∧ n ≤ cap ∧ g < w.heap.size ∧ ∀ i, i < n → w.cell? ⟨g, i, none⟩ = some (.int .u64 (l.getD i 0 : Int)) := by
  obtain ⟨hl, ⟨_, h1⟩ | ⟨g, cap, cur, rfl, h1, h2, h3, h4, h5, h6⟩⟩ := h
  · omega
  · refine ⟨g, cap, rfl, h1, h3, ?_, fun i hi => ?_⟩
    · apply Nat.lt_of_not_le
      intro hle
      rw [Array.getElem?_eq_none hle] at h2
      simp at h2
    · have hx : (cur.toList.take (n * 1))[i]? = (rowU l)[i]? := congrArg (fun l : List Value => l[i]?) h6
      have hil : i < l.length := by rw [rowU_len] at hl; omega
      rw [List.getElem?_take, if_pos (by omega)] at hx
      have hc : w.cell? ⟨g, i, none⟩ = cur.toList[i]? := by simp [World.cell?, h2]
      rw [hc, hx]
      simp [rowU, hil]
def blockW (s : ByteArray) (t : Nat) : Nat := beN (s.extract (8 * t) (8 * t + 8)).data.toList
def blockM (s : ByteArray) (k : Nat) : List Nat := (List.range k).map (blockW s)
theorem blockM_succ (s : ByteArray) (k : Nat) : blockM s (k + 1) = blockM s k ++ [blockW s k] := by unfold blockM; rw [List.range_succ, List.map_append]; rfl
theorem blockM_len (s : ByteArray) (k : Nat) : (blockM s k).length = k := by simp [blockM]
theorem blockW_lt (s : ByteArray) (t : Nat) (h : 8 * t + 8 ≤ s.size) : blockW s t < M64 := by
  unfold blockW
  have h1 := beN_lt 8 (s.extract (8 * t) (8 * t + 8)).data.toList
  rw [List.take_of_length_le (by rw [← Lib.size_eq, ByteArray.size_extract]; omega)] at h1
  exact h1
set_option linter.unusedSimpArgs false in
set_option maxRecDepth 20000 in
set_option maxHeartbeats 8000000 in
theorem words_any (s : ByteArray) (w : World) (hs : s.size = 128) :
    Calls Try.prog 49 #[.string s] w fun e w' => ∃ v, e = .returned v ∧ w'.ownsRow w.heap.size 36 1 v 80 (rowU (wsN (blockM s 16) 64)) ∧ Below w.heap.size w w' := by
  obtain ⟨i0, hi, hz0, hz1, hz2⟩ := info_parts Try.sinfo_u64
  have p64 : (s.size : Int) = 128 := by omega
  go_enter Try.func49, Try.ntmps49
  go_wp2_with fail
  go_loopw [3, 4] (fun v i wr => ∃ k : Nat, k ≤ 16 ∧ i = .int .i64 (k : Int) ∧ wr.ownsRow w.heap.size 36 1 v k (rowU (blockM s k)) ∧ Below w.heap.size w wr) (fun _ i _ => 16 - (Go.RowKit.intOf i).toNat)
  case atStart => exact ⟨0, by omega, rfl, World.ownsRow_nil _ _ _ _, Below.refl _ _⟩
  case round =>
    obtain ⟨k, hk, rfl, hown, hbe⟩ := hrel
    by_cases hlt : k < 16
    · have p1 : (k : Int) < 16 := by omega
      have n0 : (8 * (k : Int)).toNat = 8 * k := by omega
      have n1 : (8 * (k : Int) + 8).toNat = 8 * k + 8 := by omega
      have sz := hbe.size
      have KG := Lib.hid (fun w => rget_any (s.extract (8 * k) (8 * k + 8)) w (by rw [ByteArray.size_extract]; omega))
      have hbl := blockW_lt s k (by omega)
      rw [show beN (s.extract (8 * k) (8 * k + 8)).data.toList = blockW s k from rfl] at KG
      have HS := Lib.hid (blockM_succ s k)
      obtain ⟨c, hc⟩ : ∃ c, blockW s k = c := ⟨_, rfl⟩
      rw [hc] at KG HS
      clear hc hbl
      go_wp2_with fail
      refine (KG.out _).mono ?_
      rintro e w1 ⟨rfl, rfl⟩
      go_wp2_with (at_builtin; refine wpList_append_own _ (by rfl) (.tmp 14) (.tmp 23) 33 (by rfl) w.heap.size 36 i0 (.int .u64 0) 1 8 Try.underlying33 hi hz0 hz1 hz2 rfl (by decide) _ k _ (by simp [Act.eval]; rfl) (by exact hown.alloc _) ⟨wr.heap.size, 0, none⟩ 1 1 [.int .u64 (c : Int)] (by simp [Act.eval]) rfl (by exact news_new wr #[_] _) (by simp [Value.oneCell']) (by unfold maxLen; omega) (by omega) (by simp; omega) ?_; intro v3 w3 hown3 hgrow3 _)
      go_roundw
      case rel =>
        refine ⟨k + 1, by omega, congrArg (Value.int .i64) (by omega), ?_, (gr_alloc hbe _).grown hgrow3 (by simp; omega) (fun j hj => (hown.lt j hj).1)⟩
        rw [HS.out, rowU_snoc]
        exact hown3
      case measure =>
        simp [Go.RowKit.intOf]
        omega
    · obtain rfl : k = 16 := by omega
      have p1 : ¬ (16 : Int) < 16 := by omega
      change Code.wp _ _ _ _ _
      go_wp2_with fail
      go_loopw [3, 5] (fun v i wq => ∃ k t : Nat, t = 16 + k ∧ k ≤ 64 ∧ i = .int .i64 (t : Int) ∧ wq.ownsRow w.heap.size 36 1 v t (rowU (wsN (blockM s 16) k)) ∧ Below w.heap.size w wq) (fun _ i _ => 80 - (Go.RowKit.intOf i).toNat)
      case atStart => exact ⟨0, 16, rfl, by omega, rfl, hown, hbe⟩
      case round =>
        obtain ⟨k, t, ht, hk, rfl, hown, hbe⟩ := hrel
        by_cases hlt : k < 64
        · have p2 : (t : Int) < 80 := by omega
          obtain ⟨g, cap, rfl, hg, hcap, hgl, hc⟩ := own_cells hown (by omega)
          have hl := wsN_len (blockM s 16) k
          rw [blockM_len] at hl
          have hM : ∀ x ∈ blockM s 16, x < M64 := fun x hx => by
            unfold blockM at hx
            obtain ⟨t, ht, rfl⟩ := List.mem_map.1 hx
            have := List.mem_range.1 ht
            exact blockW_lt s t (by omega)
          have hall := wsN_lt (blockM s 16) hM k
          have hget : ∀ j, j < 16 + k → (wsN (blockM s 16) k).getD j 0 < M64 := fun j hj => by
            have hj2 : j < (wsN (blockM s 16) k).length := by omega
            rw [List.getD_eq_getElem?_getD, List.getElem?_eq_getElem hj2]
            exact hall _ (List.getElem_mem hj2)
          have hnext : wsN (blockM s 16) (k + 1) = wsN (blockM s 16) k ++ [(sg1 ((wsN (blockM s 16) k).getD (14 + k) 0) + (wsN (blockM s 16) k).getD (9 + k) 0 + sg0 ((wsN (blockM s 16) k).getD (1 + k) 0) + (wsN (blockM s 16) k).getD k 0) % M64] := by
            show wsN (blockM s 16) k ++ [nextW (wsN (blockM s 16) k)] = _
            unfold nextW
            rw [hl, show 16 + k - 2 = 14 + k by omega, show 16 + k - 7 = 9 + k by omega, show 16 + k - 15 = 1 + k by omega, show 16 + k - 16 = k by omega]
          have c1 := hc (1 + k) (by omega)
          have c2 := hc (14 + k) (by omega)
          have c3 := hc (9 + k) (by omega)
          have c4 := hc k (by omega)
          have b1 := hget (1 + k) (by omega)
          have b2 := hget (14 + k) (by omega)
          have b3 := hget (9 + k) (by omega)
          have b4 := hget k (by omega)
          obtain ⟨L, hL⟩ : ∃ L, wsN (blockM s 16) k = L := ⟨_, rfl⟩
          rw [hL] at c1 c2 c3 c4 b1 b2 b3 b4 hnext hown
          obtain ⟨x, hx⟩ : ∃ x, L.getD (1 + k) 0 = x := ⟨_, rfl⟩
          obtain ⟨y, hy⟩ : ∃ y, L.getD (14 + k) 0 = y := ⟨_, rfl⟩
          obtain ⟨u, hu⟩ : ∃ u, L.getD (9 + k) 0 = u := ⟨_, rfl⟩
          obtain ⟨z, hz⟩ : ∃ z, L.getD k 0 = z := ⟨_, rfl⟩
          rw [hx] at c1 b1 hnext
          rw [hy] at c2 b2 hnext
          rw [hu] at c3 b3 hnext
          rw [hz] at c4 b4 hnext
          have K1 : Hid (∀ w, Calls Try.prog 50 #[.int .u64 (x : Int), .int .i64 1] w fun e w' => e = .returned (.int .u64 (rotN 64 x 1 : Int)) ∧ w = w') := fun w => turn_any x 1 (by decide) w b1
          have K2 : Hid (∀ w, Calls Try.prog 50 #[.int .u64 (x : Int), .int .i64 8] w fun e w' => e = .returned (.int .u64 (rotN 64 x 8 : Int)) ∧ w = w') := fun w => turn_any x 8 (by decide) w b1
          have K3 : Hid (∀ w, Calls Try.prog 50 #[.int .u64 (y : Int), .int .i64 19] w fun e w' => e = .returned (.int .u64 (rotN 64 y 19 : Int)) ∧ w = w') := fun w => turn_any y 19 (by decide) w b2
          have K4 : Hid (∀ w, Calls Try.prog 50 #[.int .u64 (y : Int), .int .i64 61] w fun e w' => e = .returned (.int .u64 (rotN 64 y 61 : Int)) ∧ w = w') := fun w => turn_any y 61 (by decide) w b2
          have a1 := rot_lt x 1 b1
          have a2 := rot_lt x 8 b1
          have a3 := rot_lt y 19 b2
          have a4 := rot_lt y 61 b2
          have d1 : x / 128 < M64 := Nat.lt_of_le_of_lt (Nat.div_le_self _ _) b1
          have d2 : y / 64 < M64 := Nat.lt_of_le_of_lt (Nat.div_le_self _ _) b2
          have e1 := xor_u64 _ _ a1 a2
          have e2 := xor_u64 _ _ (xor_lt a1 a2) d1
          have e3 := xor_u64 _ _ a3 a4
          have e4 := xor_u64 _ _ (xor_lt a3 a4) d2
          have s0 := xor_lt (xor_lt a1 a2) d1
          have s1 := xor_lt (xor_lt a3 a4) d2
          have q1 : IntKind.u64.wrap ((x : Int) / 128) = ((x / 128 : Nat) : Int) := by rw [IntWalk.u64_in _ (by unfold M64 at b1; omega)]; omega
          have q2 : IntKind.u64.wrap ((y : Int) / 64) = ((y / 64 : Nat) : Int) := by rw [IntWalk.u64_in _ (by unfold M64 at b2; omega)]; omega
          have n1 : ((t : Int) - 15).toNat = 1 + k := by omega
          have n2 : ((t : Int) - 2).toNat = 14 + k := by omega
          have n3 : ((t : Int) - 7).toNat = 9 + k := by omega
          have n4 : ((t : Int) - 16).toNat = k := by omega
          obtain ⟨j15, hj15⟩ : ∃ j, 1 + k = j := ⟨_, rfl⟩
          obtain ⟨j2, hj2⟩ : ∃ j, 14 + k = j := ⟨_, rfl⟩
          obtain ⟨j7, hj7⟩ : ∃ j, 9 + k = j := ⟨_, rfl⟩
          rw [hj15] at c1 n1
          rw [hj2] at c2 n2
          rw [hj7] at c3 n3
          obtain ⟨B, hB⟩ : ∃ B, rotN 64 x 1 ^^^ rotN 64 x 8 ^^^ x / 128 = B := ⟨_, rfl⟩
          obtain ⟨A, hA⟩ : ∃ A, rotN 64 y 19 ^^^ rotN 64 y 61 ^^^ y / 64 = A := ⟨_, rfl⟩
          rw [show sg1 y = A from hA, show sg0 x = B from hB] at hnext
          have HN := Lib.hid hnext
          rw [hB] at e2 s0
          rw [hA] at e4 s1
          obtain ⟨x8, hx8⟩ : ∃ x8, x / 128 = x8 := ⟨_, rfl⟩
          obtain ⟨y10, hy10⟩ : ∃ y10, y / 64 = y10 := ⟨_, rfl⟩
          rw [hx8] at e2 q1
          rw [hy10] at e4 q2
          have K5 := Lib.hid (fun (w : World) => word_any ((((A + u + B + z) % M64 : Nat)) : Int) w)
          have v1 := wrap_add A u
          have v2 := wrap_add ((A + u) % M64) B
          have v3 := wrap_add (((A + u) % M64 + B) % M64) z
          rw [show (((A + u) % M64 + B) % M64 + z) % M64 = (A + u + B + z) % M64 by unfold M64; omega] at v3
          obtain ⟨nw, hnw⟩ : ∃ nw, (A + u + B + z) % M64 = nw := ⟨_, rfl⟩
          rw [hnw] at K5 HN v3
          obtain ⟨i2, hi2⟩ : ∃ i2, ((A + u) % M64 + B) % M64 = i2 := ⟨_, rfl⟩
          rw [hi2] at v2 v3
          obtain ⟨i1, hi1⟩ : ∃ i1, (A + u) % M64 = i1 := ⟨_, rfl⟩
          rw [hi1] at v1 v2
          clear hi2 hi1
          have bw : nw < M64 := by rw [← hnw]; exact Nat.mod_lt _ (by decide)
          have HOW := Lib.hid hown
          have HBE := Lib.hid hbe
          have hk2 : (k : Int) < 64 := by omega
          have sz := hbe.size
          have w7 : IntKind.i64.wrap ((t : Int) - 7) = (t : Int) - 7 := IntWalk.i64_in _ (by omega)
          have w16 : IntKind.i64.wrap ((t : Int) - 16) = (t : Int) - 16 := IntWalk.i64_in _ (by omega)
          have r7 : (0 : Int) ≤ (t : Int) - 7 := by omega
          have r8 : (t : Int) - 7 < (t : Int) := by omega
          have r9 : (0 : Int) ≤ (t : Int) - 16 := by omega
          have r10 : (t : Int) - 16 < (t : Int) := by omega
          have HT := Lib.hid ht
          have ht64 : (t : Int) ≤ 80 := by omega
          have ht16 : (16 : Int) ≤ (t : Int) := by omega
          have ht7 : (7 : Int) ≤ (t : Int) := by omega
          clear ht hj15 hj2 hj7 hx8 hy10 hnext hnw hB hA hx hy hu hz hget hall hM hl hc hown hbe a1 a2 a3 a4 d1 d2 s0 s1 b1 b2 b3 b4 hL
          go_wp2_with fail
          go_quiet (fail)
          go_wp2_with (first
            | (go_at_call_of 50 (Value.int .i64 1); refine (K1.out _).mono ?_; rintro e w1 ⟨rfl, rfl⟩)
            | (go_at_call_of 50 (Value.int .i64 8); refine (K2.out _).mono ?_; rintro e w1 ⟨rfl, rfl⟩)
            | (go_at_call_of 50 (Value.int .i64 19); refine (K3.out _).mono ?_; rintro e w1 ⟨rfl, rfl⟩)
            | (go_at_call_of 50 (Value.int .i64 61); refine (K4.out _).mono ?_; rintro e w1 ⟨rfl, rfl⟩))
          have g3 : (wr.drewN nq).cell? ⟨g, j7, none⟩ = _ := c3
          have g4 : (wr.drewN nq).cell? ⟨g, k, none⟩ = _ := c4
          have sz2 : w.heap.size ≤ (wr.drewN nq).heap.size := sz
          have HOQ : Hid ((wr.drewN nq).ownsRow w.heap.size 36 1 (.slice (some ⟨g, 0, none⟩) t cap) t (rowU L)) := HOW.out
          have HBQ : Hid (Below w.heap.size w (wr.drewN nq)) := HBE.out.trans ⟨rfl, rfl, rfl, Nat.le_refl _, fun _ _ => rfl⟩
          clear HOW HBE c1 c2 c3 c4 K1 K2 K3 K4
          generalize wr.drewN nq = V at g3 g4 sz2 HOQ HBQ ⊢
          refine wp_region_held_drew (S := fun _ => True) (by kernel_rfl) trivial (fun hHeld => ?_)
          refine wpAnyH_take (i := 0) (v := ?_) rfl (by kernel_rfl) (by kernel_rfl) (by kernel_rfl) (fun _ _ _ h => h) (Or.inl ⟨by rfl, ?_⟩) (by assumption) ?_
          rotate_left
          focus (intro w hSw; (try dsimp only at hSw); go_simp; (try (with_reducible rfl)); done)
          try simp only [Act.put, List.setIfInBounds_toArray, List.set_cons_zero, List.set_cons_succ]
          refine wpAnyH_take (i := 1) (v := ?_) rfl (by kernel_rfl) (by kernel_rfl) (by kernel_rfl) (fun _ _ _ h => h) (Or.inl ⟨by rfl, ?_⟩) (by assumption) ?_
          rotate_left
          focus (intro w hSw; (try dsimp only at hSw); go_simp; (try (with_reducible rfl)); done)
          try simp only [Act.put, List.setIfInBounds_toArray, List.set_cons_zero, List.set_cons_succ]
          refine wpAnyH_take (i := 2) (v := ?_) rfl (by kernel_rfl) (by kernel_rfl) (by kernel_rfl) (fun _ _ _ h => h) (Or.inl ⟨by rfl, ?_⟩) (by assumption) ?_
          rotate_left
          focus (intro w hSw; (try dsimp only at hSw); go_simp; (try (with_reducible rfl)); done)
          try simp only [Act.put, List.setIfInBounds_toArray, List.set_cons_zero, List.set_cons_succ]
          refine wpAnyH_take (i := 3) (v := ?_) rfl (by kernel_rfl) (by kernel_rfl) (by kernel_rfl) (fun _ _ _ h => h) (Or.inl ⟨by rfl, ?_⟩) (by assumption) ?_
          rotate_left
          focus (intro w hSw; (try dsimp only at hSw); go_simp; (try (with_reducible rfl)); done)
          try simp only [Act.put, List.setIfInBounds_toArray, List.set_cons_zero, List.set_cons_succ]
          refine wpAnyH_take (i := 4) (v := ?_) rfl (by kernel_rfl) (by kernel_rfl) (by kernel_rfl) (fun _ _ _ h => h) (Or.inl ⟨by rfl, ?_⟩) (by assumption) ?_
          rotate_left
          focus (intro w hSw; (try dsimp only at hSw); go_simp; (try (with_reducible rfl)); done)
          try simp only [Act.put, List.setIfInBounds_toArray, List.set_cons_zero, List.set_cons_succ]
          refine wpAnyH_take (i := 5) (v := ?_) rfl (by kernel_rfl) (by kernel_rfl) (by kernel_rfl) (fun _ _ _ h => h) (Or.inl ⟨by rfl, ?_⟩) (by assumption) ?_
          rotate_left
          focus (intro w hSw; (try dsimp only at hSw); go_simp; (try (with_reducible rfl)); done)
          try simp only [Act.put, List.setIfInBounds_toArray, List.set_cons_zero, List.set_cons_succ]
          refine wpAnyH_take (i := 8) (v := ?_) rfl (by kernel_rfl) (by kernel_rfl) (by kernel_rfl) (fun _ _ _ h => h) (Or.inl ⟨by rfl, ?_⟩) (by assumption) ?_
          rotate_left
          focus (intro w hSw; (try dsimp only at hSw); go_simp; (try (with_reducible rfl)); done)
          try simp only [Act.put, List.setIfInBounds_toArray, List.set_cons_zero, List.set_cons_succ]
          refine wpAnyH_take (i := 10) (v := ?_) rfl (by kernel_rfl) (by kernel_rfl) (by kernel_rfl) (fun _ _ _ h => h) (Or.inl ⟨by rfl, ?_⟩) (by assumption) ?_
          rotate_left
          focus (intro w hSw; (try dsimp only at hSw); go_simp; (try (with_reducible rfl)); done)
          try simp only [Act.put, List.setIfInBounds_toArray, List.set_cons_zero, List.set_cons_succ]
          refine wpAnyH_take (i := 11) (v := ?_) rfl (by kernel_rfl) (by kernel_rfl) (by kernel_rfl) (fun _ _ _ h => h) (Or.inl ⟨by rfl, ?_⟩) (by assumption) ?_
          rotate_left
          focus (intro w hSw; (try dsimp only at hSw); go_simp; (try (with_reducible rfl)); done)
          try simp only [Act.put, List.setIfInBounds_toArray, List.set_cons_zero, List.set_cons_succ]
          refine wpAnyH_take (i := 12) (v := ?_) rfl (by kernel_rfl) (by kernel_rfl) (by kernel_rfl) (fun _ _ _ h => h) (Or.inl ⟨by rfl, ?_⟩) (by assumption) ?_
          rotate_left
          focus (intro w hSw; (try dsimp only at hSw); go_simp; (try (with_reducible rfl)); done)
          try simp only [Act.put, List.setIfInBounds_toArray, List.set_cons_zero, List.set_cons_succ]
          refine wpAnyH_take (i := 13) (v := ?_) rfl (by kernel_rfl) (by kernel_rfl) (by kernel_rfl) (fun _ _ _ h => h) (Or.inl ⟨by rfl, ?_⟩) (by assumption) ?_
          rotate_left
          focus (intro w hSw; (try dsimp only at hSw); go_simp; (try (with_reducible rfl)); done)
          try simp only [Act.put, List.setIfInBounds_toArray, List.set_cons_zero, List.set_cons_succ]
          refine wpAnyH_ready (rs := [6, 14]) (by kernel_rfl) (by simp) ?_
          refine AllReadyH.cons rfl (fun K hK => ?_) (AllReadyH.cons rfl (fun K hK => ?_) AllReadyH.nil)
          go_simp
          refine hK.out _ _ trivial (fun hHeld => ?_)
          clear hK K
          try simp only [Act.put, List.setIfInBounds_toArray, List.set_cons_zero, List.set_cons_succ]
          refine wpAnyH_take (i := 7) (v := ?_) rfl (by kernel_rfl) (by kernel_rfl) (by kernel_rfl) (fun _ _ _ h => h) (Or.inl ⟨by rfl, ?_⟩) (by assumption) ?_
          rotate_left
          focus (intro w hSw; (try dsimp only at hSw); go_simp; (try (with_reducible rfl)); done)
          try simp only [Act.put, List.setIfInBounds_toArray, List.set_cons_zero, List.set_cons_succ]
          refine wpAnyH_take (i := 9) (v := ?_) rfl (by kernel_rfl) (by kernel_rfl) (by kernel_rfl) (fun _ _ _ h => h) (Or.inl ⟨by rfl, ?_⟩) (by assumption) ?_
          rotate_left
          focus (intro w hSw; (try dsimp only at hSw); go_simp; (try (with_reducible rfl)); done)
          try simp only [Act.put, List.setIfInBounds_toArray, List.set_cons_zero, List.set_cons_succ]
          refine wpAnyH_ready (rs := [14]) (by kernel_rfl) (by simp) ?_
          refine AllReadyH.cons rfl (fun K hK => ?_) AllReadyH.nil
          go_simp
          refine hK.out _ _ trivial (fun hHeld => ?_)
          clear hK K
          try simp only [Act.put, List.setIfInBounds_toArray, List.set_cons_zero, List.set_cons_succ]
          rotate_left
          go_simp
          refine hK.out _ _ trivial (fun hHeld => ?_)
          clear hK K
          try simp only [Act.put, List.setIfInBounds_toArray, List.set_cons_zero, List.set_cons_succ]
          refine wpAnyH_ready (rs := [6]) (by kernel_rfl) (by simp) ?_
          refine AllReadyH.cons rfl (fun K hK => ?_) AllReadyH.nil
          go_simp
          refine hK.out _ _ trivial (fun hHeld => ?_)
          clear hK K
          try simp only [Act.put, List.setIfInBounds_toArray, List.set_cons_zero, List.set_cons_succ]
          refine wpAnyH_take (i := 7) (v := ?_) rfl (by kernel_rfl) (by kernel_rfl) (by kernel_rfl) (fun _ _ _ h => h) (Or.inl ⟨by rfl, ?_⟩) (by assumption) ?_
          rotate_left
          focus (intro w hSw; (try dsimp only at hSw); go_simp; (try (with_reducible rfl)); done)
          try simp only [Act.put, List.setIfInBounds_toArray, List.set_cons_zero, List.set_cons_succ]
          refine wpAnyH_take (i := 9) (v := ?_) rfl (by kernel_rfl) (by kernel_rfl) (by kernel_rfl) (fun _ _ _ h => h) (Or.inl ⟨by rfl, ?_⟩) (by assumption) ?_
          rotate_left
          focus (intro w hSw; (try dsimp only at hSw); go_simp; (try (with_reducible rfl)); done)
          try simp only [Act.put, List.setIfInBounds_toArray, List.set_cons_zero, List.set_cons_succ]
          all_goals
            refine wpAnyH_take (i := 15) (v := ?_) rfl (by kernel_rfl) (by kernel_rfl) (by kernel_rfl) (fun _ _ _ h => h) (Or.inl ⟨by rfl, ?_⟩) (by assumption) ?_
            rotate_left
            focus (intro w hSw; (try dsimp only at hSw); go_simp; (try (with_reducible rfl)); done)
            try simp only [Act.put, List.setIfInBounds_toArray, List.set_cons_zero, List.set_cons_succ]
            refine wpAnyH_ready (rs := [16]) (by kernel_rfl) (by simp) ?_
            refine AllReadyH.cons rfl (fun K hK => ?_) AllReadyH.nil
            go_simp
            go_at_call 51
            refine (K5.out _).mono ?_
            rintro e w' ⟨rfl, rfl⟩
            go_wp2_with fail
            refine hK.out _ _ trivial (fun hHeld => ?_)
            clear hK K
            try simp only [Act.put, List.setIfInBounds_toArray, List.set_cons_zero, List.set_cons_succ]
            refine wpAnyH_ready (rs := [17]) (by kernel_rfl) (by simp) ?_
            refine AllReadyH.cons rfl (fun K hK => ?_) AllReadyH.nil
            go_simp
            refine hK.out _ _ trivial (fun hHeld => ?_)
            clear hK K
            try simp only [Act.put, List.setIfInBounds_toArray, List.set_cons_zero, List.set_cons_succ]
            refine wpAnyH_ready (rs := [18]) (by kernel_rfl) (by simp) ?_
            refine AllReadyH.cons rfl (fun K hK => ?_) AllReadyH.nil
            refine step_append_own (by rfl) (.tmp 55) (.tmp 72) 33 (by rfl) w.heap.size 36 i0 (.int .u64 0) 1 8 Try.underlying33 hi hz0 hz1 hz2 rfl (by decide) _ t _ (by simp [Act.eval]; rfl) (by exact HOQ.out.alloc _) ⟨V.heap.size, 0, none⟩ 1 1 [.int .u64 (nw : Int)] (by simp [Act.eval]) rfl (by exact news_new V #[_] _) (by simp [Value.oneCell']) (by unfold maxLen; omega) (by omega) (by simp; omega) ?_
            intro v2 w2 hown2 hgrow2
            refine hK.out _ _ trivial (fun hHeld => ?_)
            clear hK K
            try simp only [Act.put, List.setIfInBounds_toArray, List.set_cons_zero, List.set_cons_succ]
            refine wpAnyH_ready (rs := [19]) (by kernel_rfl) (by simp) ?_
            refine AllReadyH.cons rfl (fun K hK => ?_) AllReadyH.nil
            go_simp
            refine hK.out _ _ trivial (fun hHeld => ?_)
            clear hK K
            try simp only [Act.put, List.setIfInBounds_toArray, List.set_cons_zero, List.set_cons_succ]
            refine wpAnyH_done (by kernel_rfl) ?_ _
          all_goals
            go_wp2_with fail
            go_roundw
            case rel =>
              have ht := HT.out
              refine ⟨k + 1, t + 1, by omega, by omega, congrArg (Value.int .i64) (by omega), ?_, ((gr_alloc HBQ.out _).drew).grown hgrow2 (by simp; omega) (fun j hj => (HOQ.out.lt j hj).1)⟩
              rw [HN.out, rowU_snoc]
              exact hown2
            case measure =>
              have ht := HT.out
              simp [Go.RowKit.intOf]
              omega
        · obtain rfl : k = 64 := by omega
          subst ht
          have p2 : ¬ (80 : Int) < 80 := by omega
          change wr.ownsRow _ _ _ _ 80 _ at hown
          have HOW := Lib.hid hown
          have HBE := Lib.hid hbe
          clear hown hbe
          go_wp2_with fail
          go_ret
          exact ⟨_, rfl, HOW.out, HBE.out⟩
end Go.Proofs.Ytmjbhmpogpagjaa
