/- The reference's Encode: what it answers. -/
import Derived.Test.YtmkcbmlpdkaniaaB64F
namespace Go.Proofs.Ytmkcbmlpdkaniaa
open Go.RowKit
theorem encN_lt (n k : Nat) : 6 * k < 8 * n ↔ k < encN n := by unfold encN; omega
set_option maxHeartbeats 8000000 in
theorem rencode_any (url : Bool) (s : ByteArray) (w : World) (hs : s.size ≤ 400) :
    Calls Try.prog 8 #[.bool url, .string s] w fun e w' => e = .returned (.string (encB url s)) ∧ Below w.heap.size w w' := by
  obtain ⟨i0, hi, hz0, hz1, hz2⟩ := info_parts Try.info_u8
  have hs8 : (s.size : Int) ≤ 400 := by omega
  go_enter Try.func8, Try.ntmps8
  go_wp2_with fail
  go_loopw [5, 6] (fun b i wr => ∃ k : Nat, k ≤ encN s.size ∧ i = .int .i64 ((6 * k : Nat) : Int) ∧ wr.ownsRow w.heap.size 5 1 b k (((List.range k).map fun j => ofI (sgN url (wN 8 (gb s) (6 * j) 6) : Int)).map bc) ∧ Below w.heap.size w wr) (fun _ i _ => 8 * s.size + 6 - (intOf i).toNat)
  case atStart => exact ⟨0, by omega, rfl, ⟨rfl, .inl ⟨rfl, rfl⟩⟩, Below.refl _ _⟩
  case round =>
    obtain ⟨k, hk, rfl, hown, hb⟩ := hrel
    obtain ⟨z, hz⟩ : ∃ z, 6 * k = z := ⟨_, rfl⟩
    have hkN := encN_lt s.size k
    have hN : encN s.size ≤ 600 := by unfold encN; omega
    rw [hz] at hkN ⊢
    by_cases hlt : k < encN s.size
    · have p0 : z < 8 * s.size := by omega
      have p1 : (z : Int) < 8 * (s.size : Int) := by omega
      have HZ := Lib.hid hz
      have HK := Lib.hid hkN
      clear hz hkN
      go_wp2_with fail
      go_loop [7, 8] (fun n j => ∃ m : Nat, m ≤ 6 ∧ j = .int .i64 (m : Int) ∧ n = .int .i64 (wN 8 (gb s) z m : Int)) (fun _ j => 6 - (intOf j).toNat)
      case atStart => exact ⟨0, by omega, rfl, rfl⟩
      case round =>
        obtain ⟨m, hm, rfl, rfl⟩ := hrel
        have z1 := w_lt 8 (gb s) z m
        have z2 : 2 ^ m ≤ 2 ^ 6 := Nat.pow_le_pow_right (by decide) hm
        by_cases hm6 : m < 6
        · have p2 : (m : Int) < 6 := by omega
          have b2 := bt_lt 8 (gb s) (z + m)
          have ew : 2 * (wN 8 (gb s) z m : Int) + (btN 8 (gb s) (z + m) : Int) = (wN 8 (gb s) z (m + 1) : Int) := by rw [wN]; omega
          have z3 := w_lt 8 (gb s) z (m + 1)
          have z4 : 2 ^ (m + 1) ≤ 2 ^ 6 := Nat.pow_le_pow_right (by decide) hm6
          have EW := Lib.hid ew
          clear ew
          go_wp2_with (go_at_call 14; rw [show (z : Int) + (m : Int) = ((z + m : Nat) : Int) by omega]; refine (bit_any s (z + m) _ (by omega)).mono ?_; rintro e w' ⟨rfl, rfl⟩)
          go_round
          case rel => exact ⟨m + 1, by omega, congrArg (Value.int .i64) (by omega), congrArg (Value.int .i64) EW.out⟩
          case measure => simp [intOf]; omega
        · obtain rfl : m = 6 := by omega
          have d64 := w6_lt 8 (gb s) z
          have HD := Lib.hid (show wN 8 (gb s) z 6 = wN 8 (gb s) (6 * k) 6 by rw [HZ.out])
          have hsg := sg_lt url (wN 8 (gb s) z 6)
          clear z1 z2
          generalize wN 8 (gb s) z 6 = D at HD hsg d64 ⊢
          have x0 : 0 ≤ (z : Int) := by omega
          have hle := hb.size
          generalize hG : sgN url D = G at hsg
          have o3 : IntKind.i64.wrap ((z : Int) + 6) = (z : Int) + 6 := IntWalk.i64_in _ (by omega)
          go_wp2_with (first
            | (go_at_call 15; refine (sign_any url D _ d64).mono ?_; rw [hG]; rintro e w' ⟨rfl, rfl⟩)
            | (at_builtin; refine wpList_append_own _ (by rfl) (.tmp 28) (.tmp 32) 34 (by rfl) w.heap.size 5 i0 (.int .u8 0) 1 1 Try.underlying34 hi hz0 hz1 hz2 rfl (by decide) _ k _ (by simp [Act.eval]; rfl) (by exact hown.alloc _) ⟨wr.heap.size, 0, none⟩ 1 1 [.int .u8 (G : Int)] (by simp [Act.eval]) rfl (by exact news_new wr #[_] _) (by simp [Value.oneCell']) (by unfold maxLen; omega) (by omega) (by simp; omega) ?_; intro v3 w3 hown3 hgrow3 _))
          go_roundw
          case rel =>
            refine ⟨k + 1, by omega, congrArg (Value.int .i64) (by have := HZ.out; omega), ?_, (gr_alloc hb _).grown hgrow3 (by rw [alloc_size1]; omega) (fun j hj => (hown.lt j hj).1)⟩
            rw [List.range_succ, List.map_append, List.map_append, List.map_cons, List.map_nil, List.map_cons, List.map_nil, ← HD.out, hG, bc_ofI _ (by omega) (by omega)]
            exact hown3
          case measure => simp [intOf]; omega
    · obtain rfl : k = encN s.size := by omega
      have p1 : ¬ (z : Int) < 8 * (s.size : Int) := by omega
      have ks := own_string (P := Try.prog) (t := 34) (ty := 9) Try.underlying34 Try.underlying5 Try.underlying9 hown
      clear hown hz hkN
      go_wp2_with fail
      go_ret
      exact ⟨ret_str rfl, hb⟩
end Go.Proofs.Ytmkcbmlpdkaniaa
