/- The reference's Get and limbs (layers 1, 22): contracts. -/
import Derived.Test.YthalmomheecpcaaScaD
import Derived.Test.YthalmomheecpcaaRefo
namespace Go.Proofs.Ythalmomheecpcaa
open Go.RowKit
/-- The number of bytes, the highest one first. -/
def beN (l : List UInt8) : Nat := l.foldl (fun n b => n * 256 + b.toNat) 0
theorem beN_snoc (l : List UInt8) (b : UInt8) : beN (l ++ [b]) = beN l * 256 + b.toNat := by simp [beN]
theorem beN_lt : ∀ (k : Nat) (l : List UInt8), beN (l.take k) < 256 ^ k
  | 0, l => by simp [beN]
  | k + 1, l => by
    have ih := beN_lt k l
    by_cases h : k < l.length
    · rw [List.take_succ_eq_append_getElem h, beN_snoc, Nat.pow_succ]
      have := (l[k]).toNat_lt
      omega
    · rw [List.take_of_length_le (by omega)]
      rw [List.take_of_length_le (by omega)] at ih
      rw [Nat.pow_succ]
      omega
set_option maxHeartbeats 1000000 in
theorem rget_any (s : ByteArray) (w : World) (hs : s.size ≤ 8) :
    Calls Try.prog 28 #[.string s] w fun e w' => e = .returned (.int .u64 (beN s.data.toList : Int)) ∧ w = w' := by
  have hsl := Lib.size_eq s
  go_enter Try.func28, Try.ntmps28
  go_wp2_with fail
  go_loop [3, 4] (fun v i => ∃ k : Nat, k ≤ s.size ∧ v = .int .u64 (beN (s.data.toList.take k) : Int) ∧ i = .int .i64 (k : Int)) (fun _ i => s.size - (Go.RowKit.intOf i).toNat)
  case atStart => exact ⟨0, by omega, rfl, rfl⟩
  case round =>
    obtain ⟨k, hk, rfl, rfl⟩ := hrel
    by_cases hlt : k < s.size
    · have p1 : (k : Int) < (s.size : Int) := by omega
      have h1 := beN_lt k s.data.toList
      have h2 : beN (s.data.toList.take k) < 256 ^ 7 := Nat.lt_of_lt_of_le h1 (Nat.pow_le_pow_right (by decide) (by omega))
      have h3 : beN (s.data.toList.take (k + 1)) = beN (s.data.toList.take k) * 256 + (s[k]'hlt).toNat := by
        rw [take_bytes s k hlt, beN_snoc]
      have h4 := (s[k]'hlt).toNat_lt
      obtain ⟨A, hA⟩ : ∃ A, beN (s.data.toList.take k) = A := ⟨_, rfl⟩
      obtain ⟨c, hc⟩ : ∃ c, (s[k]'hlt).toNat = c := ⟨_, rfl⟩
      rw [hA, hc] at h3
      rw [hA] at h2 ⊢
      have hc' : ((s[k]'hlt).toNat : Int) = (c : Int) := by rw [hc]
      rw [hc] at h4
      have H3 := Lib.hid h3
      have o1 : IntKind.u64.wrap ((A : Int) * 256) = (A : Int) * 256 := IntWalk.u64_in _ (by omega)
      have o2 : IntKind.u64.wrap ((A : Int) * 256 + (c : Int)) = (A : Int) * 256 + (c : Int) := IntWalk.u64_in _ (by omega)
      have o0 : IntKind.u64.wrap (c : Int) = (c : Int) := IntWalk.u64_in _ (by omega)
      clear hA hc h3 h1 h2 h4 hsl
      go_wp2_with fail
      go_round
      case rel => exact ⟨k + 1, by omega, by rw [H3.out]; exact congrArg (Value.int .u64) (by omega), congrArg (Value.int .i64) (by omega)⟩
      case measure =>
        simp [Go.RowKit.intOf]
        omega
    · obtain rfl : k = s.size := by omega
      have p1 : ¬ (s.size : Int) < (s.size : Int) := by omega
      have hall : s.data.toList.take s.size = s.data.toList := List.take_of_length_le (by omega)
      rw [hall]
      clear hall hsl
      go_wp2_with fail
      go_ret
      exact ⟨rfl, rfl⟩
theorem dg_bytes (l : List UInt8) (k : Nat) : dg (leN l) k = (l.getD (2 * k) 0).toNat + 256 * (l.getD (2 * k + 1) 0).toNat := by
  have h1 := leN_at l (2 * k)
  have h2 := leN_at l (2 * k + 1)
  unfold dg
  rw [show (65536 : Nat) ^ k = 256 ^ (2 * k) by rw [show (65536 : Nat) = 256 ^ 2 from rfl, ← Nat.pow_mul]]
  rw [Nat.pow_succ, ← Nat.div_div_eq_div_mul] at h2
  omega
theorem getD_byte (s : ByteArray) (k : Nat) (h : k < s.size) : (s.data.toList.getD k 0).toNat = (s[k]'h).toNat := by
  have h2 : k < s.data.toList.length := by rw [← Lib.size_eq s]; exact h
  rw [List.getD_eq_getElem?_getD, List.getElem?_eq_getElem h2]
  rfl
theorem rowH_succ (p : Nat → Nat) (N : Nat) : rowH p (N + 1) = rowH p N ++ [.int .u64 (p N : Int)] := by
  unfold rowH
  rw [List.range_succ, List.map_append]
  rfl
theorem own_is {w : World} {base k n : Nat} {v : Value} (h : w.ownsRow base 23 1 v k (rowH (dg n) k)) (hn : n < 65536 ^ k) (hk : k ≤ 200) : ∃ a cap, v = .slice a k cap ∧ IsN w a k cap n := by
  obtain ⟨_, ⟨rfl, h0⟩ | ⟨g, cap, cur, rfl, h1, h2, h3, h4, h5, h6⟩⟩ := h
  · subst h0
    exact ⟨none, 0, rfl, hn, by omega, .inl rfl⟩
  · refine ⟨_, cap, rfl, hn, hk, .inr ⟨g, rfl, h3, lt_blk h2, fun i hi => ?_⟩⟩
    have hx : (cur.toList.take (k * 1))[i]? = (rowH (dg n) k)[i]? := congrArg (fun l : List Value => l[i]?) h6
    rw [List.getElem?_take, if_pos (by omega), rowH_get _ k i hi] at hx
    have hc : w.cell? ⟨g, i, none⟩ = cur.toList[i]? := by simp [World.cell?, h2]
    rw [hc, hx]
set_option maxHeartbeats 4000000 in
theorem limbs_any (s : ByteArray) (w : World) (hs : s.size ≤ 100) :
    Calls Try.prog 25 #[.string s] w fun e w' => ∃ a cap k, e = .returned (.slice a k cap) ∧ IsN w' a k cap (leN s.data.toList) ∧ k ≤ 51 ∧ Below w.heap.size w w' := by
  obtain ⟨i0, hi, hz0, hz1, hz2⟩ := info_parts Try.info_u64
  have hsl := Lib.size_eq s
  go_enter Try.func25, Try.ntmps25
  go_wp2_with fail
  go_loopw [3, 4] (fun v i wr => ∃ k : Nat, 2 * k ≤ s.size + 1 ∧ i = .int .i64 (2 * (k : Int)) ∧ wr.ownsRow w.heap.size 23 1 v k (rowH (dg (leN s.data.toList)) k) ∧ Below w.heap.size w wr) (fun _ i _ => s.size + 1 - (Go.RowKit.intOf i).toNat)
  case atStart => exact ⟨0, by omega, rfl, World.ownsRow_nil _ _ _ _, Below.refl _ _⟩
  case round =>
    obtain ⟨k, hk, rfl, hown, hbe⟩ := hrel
    have HD := Lib.hid (dg_bytes s.data.toList k)
    by_cases hlt : 2 * k < s.size
    · have p1 : 2 * (k : Int) < (s.size : Int) := by omega
      have n0 : (2 * (k : Int)).toNat = 2 * k := by omega
      have g1 := getD_byte s (2 * k) hlt
      have h4 := (s[2 * k]'hlt).toNat_lt
      obtain ⟨c, hc⟩ : ∃ c, (s[2 * k]'hlt).toNat = c := ⟨_, rfl⟩
      have hc' : ((s[2 * k]'hlt).toNat : Int) = (c : Int) := by rw [hc]
      rw [hc] at h4 g1
      have sz := hbe.size
      by_cases hl2 : 2 * k + 1 < s.size
      · have p2 : 2 * (k : Int) + 1 < (s.size : Int) := by omega
        have n1 : (2 * (k : Int) + 1).toNat = 2 * k + 1 := by omega
        have g2 := getD_byte s (2 * k + 1) hl2
        have h5 := (s[2 * k + 1]'hl2).toNat_lt
        obtain ⟨d, hd⟩ : ∃ d, (s[2 * k + 1]'hl2).toNat = d := ⟨_, rfl⟩
        have hd' : ((s[2 * k + 1]'hl2).toNat : Int) = (d : Int) := by rw [hd]
        rw [hd] at h5 g2
        have HD2 : Hid (dg (leN s.data.toList) k = c + 256 * d) := by show _ = _; rw [HD.out, g1, g2]
        have o1 : IntKind.u64.wrap (256 * (d : Int)) = 256 * (d : Int) := IntWalk.u64_in _ (by omega)
        have o2 : IntKind.u64.wrap ((c : Int) + 256 * (d : Int)) = (c : Int) + 256 * (d : Int) := IntWalk.u64_in _ (by omega)
        clear HD g1 g2 hc hd hsl
        go_wp2_with (at_builtin; refine wpList_append_own _ (by rfl) (.tmp 29) (.tmp 31) 32 (by rfl) w.heap.size 23 i0 (.int .u64 0) 1 8 Try.underlying32 hi hz0 hz1 hz2 rfl (by decide) _ k _ (by simp [Act.eval]; rfl) (by exact hown.alloc _) ⟨wr.heap.size, 0, none⟩ 1 1 [.int .u64 ((c : Int) + 256 * (d : Int))] (by simp [Act.eval]) rfl (by exact news_new wr #[_] _) (by simp [Value.oneCell']) (by unfold maxLen; omega) (by omega) (by simp; omega) ?_; intro v3 w3 hown3 hgrow3 _)
        go_roundw
        case rel =>
          refine ⟨k + 1, by omega, congrArg (Value.int .i64) (by omega), ?_, (gr_alloc hbe _).grown hgrow3 (by rw [alloc_size1]; omega) (fun j hj => (hown.lt j hj).1)⟩
          rw [rowH_succ, HD2.out]
          exact hown3
        case measure =>
          simp [Go.RowKit.intOf]
          omega
      · have p2 : ¬ 2 * (k : Int) + 1 < (s.size : Int) := by omega
        have g2 : (s.data.toList.getD (2 * k + 1) 0).toNat = 0 := by
          rw [List.getD_eq_getElem?_getD, List.getElem?_eq_none (by omega)]
          rfl
        have HD2 : Hid (dg (leN s.data.toList) k = c) := by show _ = _; rw [HD.out, g1, g2]; rfl
        clear HD g1 g2 hc hsl
        go_wp2_with (at_builtin; refine wpList_append_own _ (by rfl) (.tmp 29) (.tmp 31) 32 (by rfl) w.heap.size 23 i0 (.int .u64 0) 1 8 Try.underlying32 hi hz0 hz1 hz2 rfl (by decide) _ k _ (by simp [Act.eval]; rfl) (by exact hown.alloc _) ⟨wr.heap.size, 0, none⟩ 1 1 [.int .u64 (c : Int)] (by simp [Act.eval]) rfl (by exact news_new wr #[_] _) (by simp [Value.oneCell']) (by unfold maxLen; omega) (by omega) (by simp; omega) ?_; intro v3 w3 hown3 hgrow3 _)
        go_roundw
        case rel =>
          refine ⟨k + 1, by omega, congrArg (Value.int .i64) (by omega), ?_, (gr_alloc hbe _).grown hgrow3 (by rw [alloc_size1]; omega) (fun j hj => (hown.lt j hj).1)⟩
          rw [rowH_succ, HD2.out]
          exact hown3
        case measure =>
          simp [Go.RowKit.intOf]
          omega
    · have p1 : ¬ 2 * (k : Int) < (s.size : Int) := by omega
      have hN : leN s.data.toList < 65536 ^ k := by
        refine Nat.lt_of_lt_of_le (leN_lt _) ?_
        rw [show (65536 : Nat) ^ k = 256 ^ (2 * k) by rw [show (65536 : Nat) = 256 ^ 2 from rfl, ← Nat.pow_mul]]
        exact Nat.pow_le_pow_right (by decide) (by omega)
      obtain ⟨a, cap, rfl, his⟩ := own_is hown hN (by omega)
      have HI := Lib.hid his
      have hk51 : k ≤ 51 := by omega
      clear HD hown his hN hsl
      go_wp2_with fail
      go_ret
      exact ⟨a, cap, k, rfl, HI.out, hk51, hbe⟩
end Go.Proofs.Ythalmomheecpcaa
