/- The reference's Decode: what it answers. -/
import Derived.Test.YtmkcbmlpdkaniaaB64I
import Derived.Test.YtmkcbmlpdkaniaaB64G
namespace Go.Proofs.Ytmkcbmlpdkaniaa
open Go.RowKit
theorem Try.info_i64 : (Try.prog.info? 3).map (fun i => (i.zero, i.size, i.bytes)) = some (some (.int .i64 0), 1, 8) := by kernel_rfl
def kI (c : Nat) : Int := (c : Int) - 1
def rowBits (v : Nat → Nat) (n : Nat) : List Value := (List.range n).map fun j => .int .i64 (btN 6 v j : Int)
theorem rowBits_next (v : Nat → Nat) (n : Nat) : rowBits v n ++ [.int .i64 (btN 6 v n : Int)] = rowBits v (n + 1) := by
  unfold rowBits
  rw [List.range_succ, List.map_append, List.map_cons, List.map_nil]
theorem rowBits_get (v : Nat → Nat) (n j : Nat) (h : j < n) : (rowBits v n)[j]? = some (.int .i64 (btN 6 v j : Int)) := by
  unfold rowBits
  rw [List.getElem?_map, List.getElem?_range h]
  rfl
theorem bt6_at (v : Nat → Nat) (i j d : Nat) (hj : j + d = 5) : btN 6 v (6 * i + j) = v i / 2 ^ d % 2 := by
  unfold btN
  have e1 : (6 * i + j) / 6 = i := by omega
  have e2 : 6 - 1 - (6 * i + j) % 6 = d := by omega
  rw [e1, e2]
def rowB8 (v : Nat → Nat) (n : Nat) : List Value := ((List.range n).map fun j => ofI (wN 6 v (8 * j) 8 : Int)).map bc
theorem rowB8_next (v : Nat → Nat) (n : Nat) : rowB8 v n ++ [.int .u8 (wN 6 v (8 * n) 8 : Int)] = rowB8 v (n + 1) := by
  unfold rowB8
  have := w8_lt 6 v (8 * n)
  rw [List.range_succ, List.map_append, List.map_append, List.map_cons, List.map_nil, List.map_cons, List.map_nil, bc_ofI _ (by omega) (by omega)]
theorem rows_apart {w : World} {base : Nat} {e e' : TypeId} {v v' : Value} {n n' : Nat} {xs xs' : List Value} (h : w.ownsRow base e 1 v n xs) (h' : w.ownsRow base e' 1 v' n' xs') (he : e ≠ e') : v.ownBlock = none ∨ v.ownBlock ≠ v'.ownBlock := by
  rcases h.2 with ⟨rfl, _⟩ | ⟨g, cap, cur, rfl, _, hg, _⟩
  · exact .inl rfl
  · rcases h'.2 with ⟨rfl, _⟩ | ⟨g', cap', cur', rfl, _, hg', _⟩
    · exact .inr (by simp [Value.ownBlock])
    · refine .inr fun e2 => ?_
      obtain rfl : g = g' := by simpa [Value.ownBlock] using e2
      rw [hg] at hg'
      simp at hg'
      exact he hg'.2
theorem row_lt {w : World} {base : Nat} {e : TypeId} {v : Value} {n : Nat} {xs : List Value} (h : w.ownsRow base e 1 v n xs) {w' : World} (hb : Below w.heap.size w w') : w'.ownsRow base e 1 v n xs := by
  obtain ⟨hl, ⟨rfl, h0⟩ | ⟨g, cap, cur, rfl, hg, hh, r⟩⟩ := h
  · exact ⟨hl, .inl ⟨rfl, h0⟩⟩
  · exact ⟨hl, .inr ⟨g, cap, cur, rfl, hg, (hb.block g (lt_of_block hh)).trans hh, r⟩⟩
theorem str_ne {a b : ByteArray} (h : ¬ a = b) : (a.toList == b.toList) = false := by
  rw [ByteArray.toList_eq, ByteArray.toList_eq, beq_eq_false_iff_ne]
  exact fun e => h (ByteArray.ext (Array.toList_inj.1 e))
theorem rows_le (j n : Nat) : 8 * j + 8 ≤ 6 * n ↔ j < 6 * n / 8 := by omega
theorem rowB8_dec (url : Bool) (t : ByteArray) : (⟨((List.range (6 * t.size / 8)).map fun j => ofI (wN 6 (vN url t) (8 * j) 8 : Int)).toArray⟩ : ByteArray) = decB url t := rfl
set_option maxHeartbeats 8000000 in
theorem rdecode_any (url : Bool) (t : ByteArray) (w : World) (ht : t.size ≤ 400) :
    Calls Try.prog 11 #[.bool url, .string t] w fun e w' => e = retD (decP url t) ∧ Below w.heap.size w w' := by
  obtain ⟨i0, hi, hz0, hz1, hz2⟩ := info_parts Try.info_u8
  obtain ⟨i1, hj, hy0, hy1, hy2⟩ := info_parts Try.info_i64
  go_enter Try.func11, Try.ntmps11
  go_wp2_with fail
  go_loopw [6, 7] (fun b i wr => ∃ k : Nat, k ≤ t.size ∧ i = .int .i64 (k : Int) ∧ (∀ i, i < k → numI url (gb t i) ≠ -1) ∧ wr.ownsRow w.heap.size 3 1 b (6 * k) (rowBits (vN url t) (6 * k)) ∧ Below w.heap.size w wr) (fun _ i _ => t.size - (intOf i).toNat)
  case atStart => exact ⟨0, by omega, rfl, fun i hi => absurd hi (by omega), ⟨rfl, .inl ⟨rfl, rfl⟩⟩, Below.refl _ _⟩
  case round =>
    obtain ⟨k, hk, rfl, hok, hown, hb⟩ := hrel
    by_cases hlt : k < t.size
    · have p1 : (k : Int) < (t.size : Int) := by omega
      have p2 : ¬ t.size ≤ k := by omega
      have g0 := gb_at t k hlt
      have g1 := gb_lt t k
      have x1 : (gb t k : Int) < 256 := by omega
      have o5 : IntKind.i64.wrap ((k : Int) + 1) = (k : Int) + 1 := IntWalk.i64_in _ (by omega)
      rcases num_cases url (gb t k) with hn | ⟨V, hV, hn, _⟩
      · have HD := Lib.hid (show decP url t = (⟨#[]⟩, 6) by
          unfold decP
          rw [okB_no hlt hn]
          rfl)
        clear hok hown
        go_wp2_with (go_at_call 17; refine (number_any url (gb t k) _ g1).mono ?_; rw [hn]; rintro e w' ⟨rfl, rfl⟩)
        go_ret2
        exact ⟨by rw [HD.out]; rfl, hb⟩
      · have hvn : vN url t k = V := by unfold vN; rw [hn]; omega
        have hok2 : ∀ i, i < k + 1 → numI url (gb t i) ≠ -1 := fun i hi => by
          rcases Nat.lt_or_ge i k with h | h
          · exact hok i h
          · rw [show i = k by omega, hn]; omega
        have HO := Lib.hid hok2
        have HV := Lib.hid hvn
        have HN := Lib.hid hn
        clear hok hok2 hvn hn
        have v0 : (V : Int) < 64 := by omega
        go_wp2_with fail
        go_at_call 17
        refine (number_any url (gb t k) _ g1).mono ?_
        rw [HN.out]
        rintro e w' ⟨rfl, rfl⟩
        clear g0 g1 x1
        go_wp2_with fail
        go_loopw [6, 9] (fun b i wr => ∃ c : Nat, c ≤ 6 ∧ i = .int .i64 (kI c) ∧ wr.ownsRow w.heap.size 3 1 b (6 * k + (6 - c)) (rowBits (vN url t) (6 * k + (6 - c))) ∧ Below w.heap.size w wr) (fun _ i _ => (intOf i + 1).toNat)
        case atStart => exact ⟨6, by omega, rfl, hown, hb⟩
        case round =>
          clear hown hb
          obtain ⟨c, hc, rfl, hown, hb⟩ := hrel
          match c, hc with
          | 0, _ =>
            rw [show kI 0 = -1 from rfl]
            have hown' : wr.ownsRow w.heap.size 3 1 u6 (6 * (k + 1)) (rowBits (vN url t) (6 * (k + 1))) := hown
            clear hown
            go_wp2_with fail
            go_roundw
            case rel => exact ⟨k + 1, by omega, congrArg (Value.int .i64) (by omega), HO.out, hown', hb⟩
            case measure => simp [intOf]; omega
          | d + 1, hc =>
            rw [show kI (d + 1) = (d : Int) by unfold kI; omega]
            have d5 : (d : Int) ≤ 5 := by omega
            obtain ⟨q, hq⟩ : ∃ q, 6 * k + (6 - (d + 1)) = q := ⟨_, rfl⟩
            rw [hq] at hown
            have hq' : q = 6 * k + (5 - d) := by omega
            have hb1 := bt6_at (vN url t) k (5 - d) d (by omega)
            rw [← hq', HV.out] at hb1
            have hq9 : q ≤ 3000 := by omega
            have o3 : ((V : Int) / 2 ^ d).tmod 2 = (btN 6 (vN url t) q : Int) := by
              have e2 : ((2 : Int) ^ d) = ((2 ^ d : Nat) : Int) := by rw [Int.natCast_pow]; rfl
              rw [hb1, e2, Int.tmod_eq_emod_of_nonneg (Int.ediv_nonneg (Int.natCast_nonneg _) (Int.natCast_nonneg _))]
              rfl
            have HQ := Lib.hid hq
            have hbt := bt_lt 6 (vN url t) q
            have hle := hb.size
            have HNX := Lib.hid (rowBits_next (vN url t) q)
            clear hb1 hq hq'
            generalize btN 6 (vN url t) q = D at o3 hbt HNX
            go_wp2_with (at_builtin; refine wpList_append_own _ (by rfl) (.tmp 31) (.tmp 36) 42 (by rfl) w.heap.size 3 i1 (.int .i64 0) 1 8 Try.underlying42 hj hy0 hy1 hy2 rfl (by decide) _ q _ (by simp [Act.eval]; rfl) (by exact hown.alloc _) ⟨wr.heap.size, 0, none⟩ 1 1 [.int .i64 (D : Int)] (by simp [Act.eval]) rfl (by exact news_new wr #[_] _) (by simp [Value.oneCell']) (by unfold maxLen; omega) (by omega) (by simp; omega) ?_; intro v3 w3 hown3 hgrow3 _)
            go_roundw
            case rel =>
              have h2 := HQ.out
              refine ⟨d, by omega, rfl, ?_, (gr_alloc hb _).grown hgrow3 (by rw [alloc_size1]; omega) (fun j hj => (hown.lt j hj).1)⟩
              rw [show 6 * k + (6 - d) = q + 1 by omega, ← HNX.out]
              exact hown3
            case measure => simp [intOf]
    · obtain rfl : k = t.size := by omega
      have p1 : ¬ (t.size : Int) < (t.size : Int) := by omega
      have HOK := Lib.hid (okB_yes (url := url) (t := t) hok)
      have HOT := Lib.hid (show okT url t from hok)
      obtain ⟨m, hm⟩ : ∃ m, t.size % 4 = m := ⟨_, rfl⟩
      have t1 : (t.size : Int).tmod 4 = (m : Int) := by rw [Int.tmod_eq_emod_of_nonneg (by omega)]; omega
      have HM := Lib.hid hm
      clear hm hok
      by_cases m1 : m = 1
      · subst m1
        have HD := Lib.hid (show decP url t = (⟨#[]⟩, 5) by
          unfold decP
          rw [HOK.out, if_pos rfl, if_pos HM.out])
        clear hown
        go_wp2_with fail
        go_ret2
        exact ⟨by rw [HD.out]; rfl, hb⟩
      · have q1 : ¬ (m : Int) = 1 := by omega
        have q2 : ((m : Int) == 1) = false := by simpa using q1
        obtain ⟨N, hN⟩ : ∃ N, 6 * t.size = N := ⟨_, rfl⟩
        rw [hN] at hown
        obtain ⟨a, c, rfl⟩ := own_slice hown
        have HN := Lib.hid hN
        have hN9 : N ≤ 2400 := by omega
        clear hN
        go_wp2_with fail
        go_loopw [10, 11] (fun b i wr => ∃ j : Nat, j ≤ N / 8 ∧ i = .int .i64 ((8 * j : Nat) : Int) ∧ wr.ownsRow w.heap.size 3 1 (.slice a N c) N (rowBits (vN url t) N) ∧ wr.ownsRow w.heap.size 5 1 b j (rowB8 (vN url t) j) ∧ Below w.heap.size w wr) (fun _ i _ => N + 8 - (intOf i).toNat)
        case atStart => exact ⟨0, by omega, rfl, hown, ⟨rfl, .inl ⟨rfl, rfl⟩⟩, hb⟩
        case round =>
          clear hown hb
          obtain ⟨j, hj, rfl, hbits, hown, hb⟩ := hrel
          obtain ⟨z, hz⟩ : ∃ z, 8 * j = z := ⟨_, rfl⟩
          rw [hz]
          by_cases hlt : j < N / 8
          · have p2 : z + 8 ≤ N := by omega
            have p3 : (z : Int) + 8 ≤ (N : Int) := by omega
            obtain ⟨g, rfl⟩ := row_some hbits (by omega)
            have HZ := Lib.hid hz
            have hle := hb.size
            have hj9 : j ≤ 1000 := by omega
            have o5 : IntKind.i64.wrap ((z : Int) + 8) = (z : Int) + 8 := IntWalk.i64_in _ (by omega)
            have z9 : z ≤ 3000 := by omega
            clear hz
            go_wp2_with fail
            go_loop [12, 13] (fun n k => ∃ m : Nat, m ≤ 8 ∧ k = .int .i64 (m : Int) ∧ n = .int .i64 (wN 6 (vN url t) z m : Int)) (fun _ k => 8 - (intOf k).toNat)
            case atStart => exact ⟨0, by omega, rfl, rfl⟩
            case round =>
              obtain ⟨m, hm, rfl, rfl⟩ := hrel
              have z1 := w_lt 6 (vN url t) z m
              have z2 : 2 ^ m ≤ 2 ^ 8 := Nat.pow_le_pow_right (by decide) hm
              by_cases hm8 : m < 8
              · have p4 : (m : Int) < 8 := by omega
                have p5 : (z : Int) + (m : Int) < (N : Int) := by omega
                have p6 : ¬ N ≤ z + m := by omega
                have nat1 : ((z : Int) + (m : Int)).toNat = z + m := by omega
                obtain ⟨c0, _, _, hNc⟩ := row_get hbits (rowBits_get (vN url t) N (z + m) (by omega))
                have b2 := bt_lt 6 (vN url t) (z + m)
                have ew : 2 * (wN 6 (vN url t) z m : Int) + (btN 6 (vN url t) (z + m) : Int) = (wN 6 (vN url t) z (m + 1) : Int) := by rw [wN]; omega
                have z3 := w_lt 6 (vN url t) z (m + 1)
                have z4 : 2 ^ (m + 1) ≤ 2 ^ 8 := Nat.pow_le_pow_right (by decide) hm8
                have EW := Lib.hid ew
                clear ew
                generalize wN 6 (vN url t) z m = A at EW z1 ⊢
                generalize btN 6 (vN url t) (z + m) = D at EW b2 c0 ⊢
                generalize hA' : wN 6 (vN url t) z (m + 1) = A' at EW z3
                have HA' := Lib.hid hA'
                clear hA'
                go_wp2_with fail
                go_round
                case rel => exact ⟨m + 1, by omega, congrArg (Value.int .i64) (by omega), congrArg (Value.int .i64) (by rw [HA'.out]; exact EW.out)⟩
                case measure => simp [intOf]; omega
              · obtain rfl : m = 8 := by omega
                have d8 := w8_lt 6 (vN url t) z
                have HNX := Lib.hid (rowB8_next (vN url t) j)
                rw [HZ.out] at HNX
                clear z1 z2
                generalize wN 6 (vN url t) z 8 = D at HNX d8 ⊢
                have o3 : IntKind.u8.wrap (D : Int) = (D : Int) := by rw [IntKind.wrap_u8']; omega
                go_wp2_with (at_builtin; refine wpList_append_own _ (by rfl) (.tmp 62) (.tmp 65) 34 (by rfl) w.heap.size 5 i0 (.int .u8 0) 1 1 Try.underlying34 hi hz0 hz1 hz2 rfl (by decide) _ j _ (by simp [Act.eval]; rfl) (by exact hown.alloc _) ⟨wr.heap.size, 0, none⟩ 1 1 [.int .u8 (D : Int)] (by simp [Act.eval]) rfl (by exact news_new wr #[_] _) (by simp [Value.oneCell']) (by unfold maxLen; omega) (by omega) (by simp; omega) ?_; intro v3 w3 hown3 hgrow3 _)
                go_roundw
                case rel =>
                  refine ⟨j + 1, by omega, congrArg (Value.int .i64) (by have := HZ.out; omega), (hbits.alloc _).kept hgrow3 (rows_apart hbits hown (by decide)), ?_, (gr_alloc hb _).grown hgrow3 (by rw [alloc_size1]; omega) (fun i hi => (hown.lt i hi).1)⟩
                  rw [← HNX.out]
                  exact hown3
                case measure => simp [intOf]; omega
          · obtain rfl : j = N / 8 := by omega
            have p2 : ¬ z + 8 ≤ N := by omega
            have p3 : ¬ (z : Int) + 8 ≤ (N : Int) := by omega
            have z9 : z ≤ 3000 := by omega
            have o5 : IntKind.i64.wrap ((z : Int) + 8) = (z : Int) + 8 := IntWalk.i64_in _ (by omega)
            have ks := own_string (P := Try.prog) (t := 34) (ty := 9) Try.underlying34 Try.underlying5 Try.underlying9 hown
            have e0 := rowB8_dec url t
            rw [HN.out] at e0
            rw [e0] at ks
            have E0 := Lib.hid e0
            have hds : (decB url t).size ≤ 400 := by rw [dec_size, HN.out]; omega
            have hle := hb.size
            clear hz hbits e0
            by_cases hR : decR url t = 0
            · have HE := again_same url t HOT.out (by have := HM.out; omega) hR
              have HD := Lib.hid (show decP url t = (decB url t, 0) by
                unfold decP
                rw [HOK.out, if_pos rfl, if_neg (by have := HM.out; omega), if_pos hR])
              have RE := fun w => rencode_any url (decB url t) w hds
              rw [HE] at RE
              clear hR HE
              go_wp2_with (go_at_call 8; refine (RE _).mono ?_; rintro e w2 ⟨rfl, hb2⟩; have ks2 := own_string (P := Try.prog) (t := 34) (ty := 9) Try.underlying34 Try.underlying5 Try.underlying9 (row_lt hown hb2); rw [E0.out] at ks2)
              go_ret2
              exact ⟨by rw [HD.out]; rfl, hb.trans (hb2.mono hle)⟩
            · have HE : ¬ encB url (decB url t) = t := fun h => hR (again_other url t h)
              have HD := Lib.hid (show decP url t = (⟨#[]⟩, 6) by
                unfold decP
                rw [HOK.out, if_pos rfl, if_neg (by have := HM.out; omega), if_neg hR])
              have RE := fun w => rencode_any url (decB url t) w hds
              generalize encB url (decB url t) = X at HE RE
              have HE2 : (X.toList == t.toList) = false := str_ne HE
              clear hR
              go_wp2_with (go_at_call 8; refine (RE _).mono ?_; rintro e w2 ⟨rfl, hb2⟩)
              go_ret2
              exact ⟨by rw [HD.out]; rfl, hb.trans (hb2.mono hle)⟩
end Go.Proofs.Ytmkcbmlpdkaniaa
