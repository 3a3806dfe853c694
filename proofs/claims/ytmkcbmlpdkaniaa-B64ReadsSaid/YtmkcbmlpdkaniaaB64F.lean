/- Encode: what it answers. -/
import Derived.Test.YtmkcbmlpdkaniaaB64E
namespace Go.Proofs.Ytmkcbmlpdkaniaa
open Go.RowKit
theorem row_set {w : World} {base : Nat} {e : TypeId} {g n cap i : Nat} {xs : List Value} (h : w.ownsRow base e 1 (.slice (some ⟨g, 0, none⟩) n cap) n xs) (u : Value) : (w.setCell ⟨g, i, none⟩ u).ownsRow base e 1 (.slice (some ⟨g, 0, none⟩) n cap) n (xs.set i u) := by
  obtain ⟨hl, ⟨h0, _⟩ | ⟨g', cap', cur, hv, hg, hh, hn, hc, hs, ht⟩⟩ := h
  · simp at h0
  · simp only [Value.slice.injEq, Option.some.injEq, Addr.mk.injEq] at hv
    obtain ⟨⟨rfl, _⟩, _, rfl⟩ := hv
    refine ⟨by rw [List.length_set]; exact hl, .inr ⟨g, cap, cur.setIfInBounds i u, rfl, hg, ?_, hn, hc, by rw [Array.size_setIfInBounds]; exact hs, ?_⟩⟩
    · have hlt := lt_of_block hh
      have h' : w.heap[g] = .cells cur e (0, 0) := by simpa [Array.getElem?_eq_getElem hlt] using hh
      show (w.heap.modify g _)[g]? = _
      rw [Array.getElem?_eq_getElem (by simpa using hlt), Array.getElem_modify_self, h']
      rfl
    · rw [Array.toList_setIfInBounds, List.take_set, ht]
theorem row_get {w : World} {base : Nat} {e : TypeId} {g n cap i : Nat} {xs : List Value} {v : Value} (h : w.ownsRow base e 1 (.slice (some ⟨g, 0, none⟩) n cap) n xs) (hi : xs[i]? = some v) : w.cell? ⟨g, i, none⟩ = some v ∧ w.frozen? ⟨g, i, none⟩ = false ∧ base ≤ g ∧ n ≤ cap := by
  obtain ⟨hl, ⟨h0, _⟩ | ⟨g', cap', cur, hv, hg, hh, hn, hc, hs, ht⟩⟩ := h
  · simp at h0
  · simp only [Value.slice.injEq, Option.some.injEq, Addr.mk.injEq] at hv
    obtain ⟨⟨rfl, _⟩, _, rfl⟩ := hv
    refine ⟨?_, by simp [World.frozen?, hh], hg, hn⟩
    have h1 : (cur.toList.take (n * 1))[i]? = some v := by rw [ht]; exact hi
    have h2 : i < n * 1 := by rw [← hl]; exact (List.getElem?_eq_some_iff.1 hi).1
    rw [List.getElem?_take, if_pos h2] at h1
    simpa [World.cell?, hh] using h1
theorem row_some {w : World} {base : Nat} {e : TypeId} {a : Option Addr} {n c : Nat} {xs : List Value} (h : w.ownsRow base e 1 (.slice a n c) n xs) (h0 : 0 < n) : ∃ g, a = some ⟨g, 0, none⟩ := by
  obtain ⟨hl, ⟨h1, h2⟩ | ⟨g', cap', cur, hv, _⟩⟩ := h
  · omega
  · simp only [Value.slice.injEq] at hv
    exact ⟨g', hv.1⟩
/-- The row of Encode's loop behind k rounds. -/
def rowE (url : Bool) (s : ByteArray) (n k : Nat) : List Value := (List.range n).map fun j => .int .u8 (if j < k then (sgN url (wN 8 (gb s) (6 * j) 6) : Int) else (wN 8 (gb s) (6 * j) 6 : Int))
theorem rowE_0 (url : Bool) (s : ByteArray) (n : Nat) : rowE url s n 0 = (List.range n).map fun j => .int .u8 (wN 8 (gb s) (6 * j) 6 : Int) := by
  unfold rowE; simp
theorem rowE_len (url : Bool) (s : ByteArray) (n k : Nat) : (rowE url s n k).length = n := by unfold rowE; simp
theorem rowE_at (url : Bool) (s : ByteArray) (n k : Nat) (h : k < n) : (rowE url s n k)[k]? = some (.int .u8 (wN 8 (gb s) (6 * k) 6 : Int)) := by
  unfold rowE
  rw [List.getElem?_map, List.getElem?_range h]
  simp
theorem rowE_next (url : Bool) (s : ByteArray) (n k : Nat) : (rowE url s n k).set k (.int .u8 (sgN url (wN 8 (gb s) (6 * k) 6) : Int)) = rowE url s n (k + 1) := by
  unfold rowE
  refine List.ext_getElem (by simp) fun i h1 h2 => ?_
  simp only [List.length_map, List.length_range] at h2
  rw [List.getElem_set]
  simp only [List.getElem_map, List.getElem_range]
  by_cases e : k = i
  · subst e; rw [if_pos rfl, if_pos (by omega)]
  · rw [if_neg e]
    by_cases h : i < k
    · rw [if_pos h, if_pos (by omega)]
    · rw [if_neg h, if_neg (by omega)]
theorem rowE_all (url : Bool) (s : ByteArray) (n : Nat) : rowE url s n n = ((List.range n).map fun j => ofI (sgN url (wN 8 (gb s) (6 * j) 6) : Int)).map bc := by
  unfold rowE
  rw [List.map_map]
  refine List.map_congr_left fun j hj => ?_
  have := sg_lt url (wN 8 (gb s) (6 * j) 6)
  rw [if_pos (List.mem_range.1 hj)]
  show _ = bc (ofI _)
  rw [bc_ofI _ (by omega) (by omega)]
theorem abc_size (url : Bool) : (abc url).size = 64 := by cases url <;> rfl
set_option maxHeartbeats 8000000 in
theorem encode_any (url : Bool) (s : ByteArray) (w : World) (hs : s.size ≤ 400) :
    Calls Try.prog 7 #[.bool url, .string s] w fun e w' => e = .returned (.string (encB url s)) ∧ Below w.heap.size w w' := by
  obtain ⟨i0, hi, hz0, hz1, hz2⟩ := info_parts Try.info_u8
  have kb := fun (w : World) (s : ByteArray) => run_bytes_of_string (P := Try.prog) w 9 34 5 s Try.underlying9 Try.underlying34 Try.underlying5
  go_enter Try.func7, Try.ntmps7
  go_wp2_with (go_at_call 12; refine (signs_any _ _).mono ?_; rintro e w' ⟨rfl, rfl⟩)
  have kg := grownCap_ge w s.size 0 5
  generalize grownCap w s.size 0 5 = cap at kg ⊢
  clear kb
  have hb1 : Below w.heap.size w (w.alloc (.cells (bytesRow s cap) 5 ((bytesRow s cap).size, (bytesRow s cap).size + 1))).drew := (gr_alloc (Below.refl _ _) _).drew
  have hc1 : ∀ i, i < s.size → (w.alloc (.cells (bytesRow s cap) 5 ((bytesRow s cap).size, (bytesRow s cap).size + 1))).drew.cell? ⟨w.heap.size, i, none⟩ = some (.int .u8 (gb s i : Int)) := fun i hi => bytes_cells w s cap _ _ i hi
  have hz1' : w.heap.size < (w.alloc (.cells (bytesRow s cap) 5 ((bytesRow s cap).size, (bytesRow s cap).size + 1))).drew.heap.size := by show _ < (w.alloc _).heap.size; rw [alloc_size1]; omega
  generalize (w.alloc (.cells (bytesRow s cap) 5 ((bytesRow s cap).size, (bytesRow s cap).size + 1))).drew = W1 at *
  have RG := regroup_86 w.heap.size s.size cap (gb s) W1 (gb_lt s) hs hz1' hc1
  clear hc1
  refine RG.mono ?_
  rintro e w2 ⟨ov, q, l, hql, hl, rfl, hb2, hown⟩
  clear RG
  have hb12 : Below w.heap.size w w2 := hb1.trans (hb2.mono (by omega))
  have hB : W1.heap.size ≤ w2.heap.size := hb2.size
  obtain ⟨oa, oc, rfl⟩ := own_slice hown
  obtain ⟨B, hBe⟩ : ∃ B, B = W1.heap.size := ⟨_, rfl⟩
  rw [← hBe] at hown hB hz1'
  clear hb1 hb2 hBe
  by_cases l0 : l = 0
  · subst l0
    obtain ⟨N, hN⟩ : ∃ N, N = q := ⟨_, rfl⟩
    have HN := Lib.hid (show N = encN s.size by unfold encN; omega)
    have HOWN := Lib.hid (show w2.ownsRow B 5 1 (.slice oa N oc) N (rowE url s N 0) by rw [rowE_0, hN]; exact hown)
    have hbN := hb12
    have hN8 : N ≤ 1000 := by omega
    clear hown hb12 hql
    subst hN
    go_wp2_with fail
    go_loopw [32] (fun i wr => ∃ k : Nat, k ≤ N ∧ i = .int .i64 (k : Int) ∧ wr.ownsRow B 5 1 (.slice oa N oc) N (rowE url s N k) ∧ Below w.heap.size w wr) (fun i _ => N - (intOf i).toNat)
    case atStart => exact ⟨0, by omega, rfl, HOWN.out, hbN⟩
    case round =>
      clear HOWN hbN
      obtain ⟨k, hk, rfl, hown, hbl⟩ := hrel
      by_cases hlt : k < N
      · have p1 : (k : Int) < (N : Int) := by omega
        obtain ⟨g, rfl⟩ := row_some hown (by omega)
        obtain ⟨c1, c2, c3, c4⟩ := row_get hown (rowE_at url s N k hlt)
        have hset := row_set (i := k) hown (.int .u8 (sgN url (wN 8 (gb s) (6 * k) 6) : Int))
        rw [rowE_next] at hset
        have d64 := w6_lt 8 (gb s) (6 * k)
        have hset' := Lib.hid hset
        clear hset hown
        generalize hD : wN 8 (gb s) (6 * k) 6 = D at *
        have g0 : ((abc url)[D]'(by rw [abc_size]; exact d64)).toNat = sgN url D := gb_at (abc url) D (by rw [abc_size]; exact d64)
        have hz := abc_size url
        have q1 : (D : Int) < 64 := by omega
        have q2 : ¬ 64 ≤ D := by omega
        have o5 : IntKind.i64.wrap ((k : Int) + 1) = (k : Int) + 1 := IntWalk.i64_in _ (by omega)
        clear hD
        go_wp2_with fail
        go_roundw
        case rel => exact ⟨k + 1, by omega, congrArg (Value.int .i64) (by omega), hset'.out, hbl.setCell (p := ⟨g, k, none⟩) (by show w.heap.size ≤ g; omega) _⟩
        case measure => simp [intOf]; omega
      · obtain rfl : k = N := by omega
        have p1 : ¬ (k : Int) < (k : Int) := by omega
        rw [rowE_all] at hown
        have ks := own_string (P := Try.prog) (t := 34) (ty := 9) Try.underlying34 Try.underlying5 Try.underlying9 hown
        have HE := Lib.hid (show encB url s = ⟨((List.range k).map fun j => ofI (sgN url (wN 8 (gb s) (6 * j) 6) : Int)).toArray⟩ by rw [HN.out]; rfl)
        clear hown
        go_wp2_with fail
        go_ret
        exact ⟨ret_str HE.out.symm, hbl⟩
  · obtain ⟨m, hm⟩ : ∃ m, l + m = 6 := ⟨6 - l, by omega⟩
    have p1 : (0 : Int) < (l : Int) := by omega
    have o1 : IntKind.i64.wrap (6 - (l : Int)) = (m : Int) := by rw [show (6 : Int) - l = (m : Int) by omega]; exact IntWalk.i64_in _ (by omega)
    have Z := w_zeros 8 (gb s) (6 * q) l m (fun j hj => bit_out s _ (by omega))
    rw [hm] at Z
    have z6 := w6_lt 8 (gb s) (6 * q)
    have HL := Lib.hid hql
    have o2 : ((wN 8 (gb s) (6 * q) l : Nat) : Int) * 2 ^ m = ((wN 8 (gb s) (6 * q) 6 : Nat) : Int) := by
      rw [Z, Int.natCast_mul, Int.natCast_pow]; rfl
    have hqs : q ≤ 1000 := by omega
    clear Z hql
    generalize hR : wN 8 (gb s) (6 * q) l = R at *
    clear hR
    generalize hD : wN 8 (gb s) (6 * q) 6 = D at *
    have HD := Lib.hid hD
    have o3 : IntKind.u8.wrap (D : Int) = (D : Int) := by rw [IntKind.wrap_u8']; omega
    clear hD
    go_wp2_with (at_builtin; refine wpList_append_own _ (by rfl) (.tmp 22) (.tmp 28) 34 (by rfl) B 5 i0 (.int .u8 0) 1 1 Try.underlying34 hi hz0 hz1 hz2 rfl (by decide) _ q _ (by simp [Act.eval]; rfl) (by exact hown.alloc _) ⟨w2.heap.size, 0, none⟩ 1 1 [.int .u8 (D : Int)] (by simp [Act.eval]) rfl (by exact news_new w2 #[_] _) (by simp [Value.oneCell']) (by unfold maxLen; omega) (by omega) (by simp; omega) ?_; intro v3 w3 hown3 hgrow3 _; obtain ⟨g3, cap3, hv3⟩ := ownsRow_succ hown3; subst hv3)
    have e : (q : Int) + 1 = ((q + 1 : Nat) : Int) := by omega
    rw [e]
    have HOWN := Lib.hid (show w3.ownsRow B 5 1 (.slice (some ⟨g3, 0, none⟩) (q + 1) cap3) (q + 1) (rowE url s (q + 1) 0) by rw [rowE_0, List.range_succ, List.map_append, List.map_cons, List.map_nil, HD.out]; exact hown3)
    have hbN : Below w.heap.size w w3 := (gr_alloc hb12 _).grown hgrow3 (by rw [alloc_size1]; omega) (fun j hj => Nat.le_trans (by omega) (hown.lt j hj).1)
    have HN := Lib.hid (show q + 1 = encN s.size by have := HL.out; unfold encN; omega)
    have hN8 : q + 1 ≤ 1001 := by omega
    clear hown3 hgrow3 hown hb12 e
    generalize q + 1 = N at *
    go_loopw [32] (fun i wr => ∃ k : Nat, k ≤ N ∧ i = .int .i64 (k : Int) ∧ wr.ownsRow B 5 1 (.slice (some ⟨g3, 0, none⟩) N cap3) N (rowE url s N k) ∧ Below w.heap.size w wr) (fun i _ => N - (intOf i).toNat)
    case atStart => exact ⟨0, by omega, rfl, HOWN.out, hbN⟩
    case round =>
      clear HOWN hbN
      obtain ⟨k, hk, rfl, hown, hbl⟩ := hrel
      by_cases hlt : k < N
      · have p1 : (k : Int) < (N : Int) := by omega
        obtain ⟨c1, c2, c3, c4⟩ := row_get hown (rowE_at url s N k hlt)
        have hset := row_set (i := k) hown (.int .u8 (sgN url (wN 8 (gb s) (6 * k) 6) : Int))
        rw [rowE_next] at hset
        have d64 := w6_lt 8 (gb s) (6 * k)
        have hset' := Lib.hid hset
        clear hset hown
        generalize hD : wN 8 (gb s) (6 * k) 6 = D at *
        have g0 : ((abc url)[D]'(by rw [abc_size]; exact d64)).toNat = sgN url D := gb_at (abc url) D (by rw [abc_size]; exact d64)
        have hz := abc_size url
        have q1 : (D : Int) < 64 := by omega
        have q2 : ¬ 64 ≤ D := by omega
        have o5 : IntKind.i64.wrap ((k : Int) + 1) = (k : Int) + 1 := IntWalk.i64_in _ (by omega)
        clear hD
        go_wp2_with fail
        go_roundw
        case rel => exact ⟨k + 1, by omega, congrArg (Value.int .i64) (by omega), hset'.out, hbl.setCell (p := ⟨g3, k, none⟩) (by show w.heap.size ≤ g3; omega) _⟩
        case measure => simp [intOf]; omega
      · obtain rfl : k = N := by omega
        have p1 : ¬ (k : Int) < (k : Int) := by omega
        rw [rowE_all] at hown
        have ks := own_string (P := Try.prog) (t := 34) (ty := 9) Try.underlying34 Try.underlying5 Try.underlying9 hown
        have HE := Lib.hid (show encB url s = ⟨((List.range k).map fun j => ofI (sgN url (wN 8 (gb s) (6 * j) 6) : Int)).toArray⟩ by rw [HN.out]; rfl)
        clear hown
        go_wp2_with fail
        go_ret
        exact ⟨ret_str HE.out.symm, hbl⟩
end Go.Proofs.Ytmkcbmlpdkaniaa
