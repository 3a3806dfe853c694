/- The signs, and what Size, signs, the reference's sign, number and bit answer. -/
import Derived.Test.YtmkcbmlpdkaniaaB64A
namespace Go.Proofs.Ytmkcbmlpdkaniaa
open Go.RowKit
def abc (url : Bool) : ByteArray := if url then ⟨#[65, 66, 67, 68, 69, 70, 71, 72, 73, 74, 75, 76, 77, 78, 79, 80, 81, 82, 83, 84, 85, 86, 87, 88, 89, 90, 97, 98, 99, 100, 101, 102, 103, 104, 105, 106, 107, 108, 109, 110, 111, 112, 113, 114, 115, 116, 117, 118, 119, 120, 121, 122, 48, 49, 50, 51, 52, 53, 54, 55, 56, 57, 45, 95]⟩ else ⟨#[65, 66, 67, 68, 69, 70, 71, 72, 73, 74, 75, 76, 77, 78, 79, 80, 81, 82, 83, 84, 85, 86, 87, 88, 89, 90, 97, 98, 99, 100, 101, 102, 103, 104, 105, 106, 107, 108, 109, 110, 111, 112, 113, 114, 115, 116, 117, 118, 119, 120, 121, 122, 48, 49, 50, 51, 52, 53, 54, 55, 56, 57, 43, 47]⟩
/-- A text's byte at a place; 0 behind its end. -/
def gb (s : ByteArray) (i : Nat) : Nat := (s.data.toList.getD i 0).toNat
theorem gb_at (s : ByteArray) (i : Nat) (h : i < s.size) : (s[i]'h).toNat = gb s i := by
  have hl : i < s.data.toList.length := by rw [Array.length_toList]; exact h
  unfold gb
  rw [List.getD_eq_getElem?_getD, List.getElem?_eq_getElem hl]
  rfl
theorem gb_out (s : ByteArray) (i : Nat) (h : s.size ≤ i) : gb s i = 0 := by
  have hl : s.data.toList.length ≤ i := by rw [Array.length_toList]; exact h
  unfold gb
  rw [List.getD_eq_getElem?_getD, List.getElem?_eq_none hl]
  rfl
theorem gb_lt (s : ByteArray) (i : Nat) : gb s i < 256 := UInt8.toNat_lt _
/-- The n-th sign. -/
def sgN (url : Bool) (n : Nat) : Nat := gb (abc url) n
def sgT (url : Bool) (n : Nat) : Nat := if n < 26 then 65 + n else if n < 52 then 71 + n else if n < 62 then n - 4 else if n = 62 then (if url then 45 else 43) else (if url then 95 else 47)
theorem sg_tab (url : Bool) (n : Nat) (h : n < 64) : sgN url n = sgT url n := by
  have e : (List.range 64).all (fun n => sgN url n == sgT url n) = true := by cases url <;> decide +kernel
  have := List.all_eq_true.1 e n (List.mem_range.2 h)
  simpa using this
theorem sg_one (url : Bool) (n m : Nat) (h : n < 64) (h' : m < 64) (e : sgN url n = sgN url m) : n = m := by
  rw [sg_tab url n h, sg_tab url m h'] at e
  have q : (List.range 64).all (fun n => (List.range 64).all fun m => (sgT url n != sgT url m) || n == m) = true := by cases url <;> decide +kernel
  have := List.all_eq_true.1 (List.all_eq_true.1 q n (List.mem_range.2 h)) m (List.mem_range.2 h')
  simpa [e] using this
/-- What a sign stands for; -1: it is none. -/
def numI (url : Bool) (c : Nat) : Int := match (List.range 64).find? (fun n => sgN url n == c) with | some n => n | none => -1
theorem num_yes {url : Bool} {c k : Nat} (hk : k < 64) (h : sgN url k = c) : numI url c = k := by
  have : (List.range 64).find? (fun n => sgN url n == c) = some k := by
    rw [List.find?_range_eq_some]
    refine ⟨by simpa using h, List.mem_range.2 hk, fun j hj => ?_⟩
    have : sgN url j ≠ c := fun e => by
      have := sg_one url j k (by omega) hk (e.trans h.symm)
      omega
    simpa using this
  rw [numI, this]
theorem num_no {url : Bool} {c : Nat} (h : ∀ j, j < 64 → sgN url j ≠ c) : numI url c = -1 := by
  have : (List.range 64).find? (fun n => sgN url n == c) = none := by
    rw [List.find?_range_eq_none]
    intro i hi
    simpa using h i hi
  rw [numI, this]
theorem signs_any (url : Bool) (w : World) :
    Calls Try.prog 12 #[.bool url] w fun e w' => e = .returned (.string (abc url)) ∧ w = w' := by
  cases url
  all_goals
    go_enter Try.func12, Try.ntmps12
    go_wp2
    go_ret
    exact ⟨ret_str rfl, rfl⟩
/-- How many signs there are. -/
def sizeI (n : Int) : Int := if n < 0 ∨ 1099511627776 < n then 0 else (8 * n + 5) / 6
theorem size_any (n : Int) (w : World) :
    Calls Try.prog 9 #[.int .i64 n] w fun e w' => e = .returned (.int .i64 (sizeI n)) ∧ w = w' := by
  by_cases h0 : n < 0
  · have E := Lib.hid (show sizeI n = 0 from if_pos (Or.inl h0))
    go_enter Try.func9, Try.ntmps9
    go_wp2
    go_ret
    exact ⟨ret_int E.out.symm, rfl⟩
  by_cases h1 : 1099511627776 < n
  · have E := Lib.hid (show sizeI n = 0 from if_pos (Or.inr h1))
    go_enter Try.func9, Try.ntmps9
    go_wp2
    go_ret
    exact ⟨ret_int E.out.symm, rfl⟩
  · have E := Lib.hid (show sizeI n = (8 * n + 5) / 6 from if_neg (by omega))
    have t1 : (8 * n + 5).tdiv 6 = (8 * n + 5) / 6 := Int.tdiv_eq_ediv_of_nonneg (by omega)
    go_enter Try.func9, Try.ntmps9
    go_wp2
    go_ret
    exact ⟨ret_int E.out.symm, rfl⟩
set_option maxHeartbeats 1600000 in
theorem sign_any (url : Bool) (n : Nat) (w : World) (hn : n < 64) :
    Calls Try.prog 15 #[.bool url, .int .i64 (n : Int)] w fun e w' => e = .returned (.int .u8 (sgN url n : Int)) ∧ w = w' := by
  have E0 := sg_tab url n hn
  unfold sgT at E0
  by_cases h1 : n < 26
  · rw [if_pos h1] at E0
    have E := Lib.hid E0
    clear E0
    have q1 : (n : Int) < 26 := by omega
    have o : IntKind.u8.wrap (65 + (n : Int)) = 65 + (n : Int) := by rw [IntKind.wrap_u8']; omega
    go_enter Try.func15, Try.ntmps15
    go_wp2
    go_ret
    exact ⟨ret_int (by rw [E.out]; omega), rfl⟩
  rw [if_neg h1] at E0
  have q1 : ¬ (n : Int) < 26 := by omega
  by_cases h2 : n < 52
  · rw [if_pos h2] at E0
    have E := Lib.hid E0
    clear E0
    have q2 : (n : Int) < 52 := by omega
    have o : IntKind.u8.wrap (97 + (n : Int) - 26) = 97 + (n : Int) - 26 := by rw [IntKind.wrap_u8']; omega
    go_enter Try.func15, Try.ntmps15
    go_wp2
    go_ret
    exact ⟨ret_int (by rw [E.out]; omega), rfl⟩
  rw [if_neg h2] at E0
  have q2 : ¬ (n : Int) < 52 := by omega
  by_cases h3 : n < 62
  · rw [if_pos h3] at E0
    have E := Lib.hid E0
    clear E0
    have q3 : (n : Int) < 62 := by omega
    have o : IntKind.u8.wrap (48 + (n : Int) - 52) = 48 + (n : Int) - 52 := by rw [IntKind.wrap_u8']; omega
    go_enter Try.func15, Try.ntmps15
    go_wp2
    go_ret
    exact ⟨ret_int (by rw [E.out]; omega), rfl⟩
  rw [if_neg h3] at E0
  have hx : n = 62 ∨ n = 63 := by omega
  clear q1 q2
  rcases hx with rfl | rfl
  all_goals
    cases url
    all_goals
      have E := Lib.hid E0
      clear E0
      go_enter Try.func15, Try.ntmps15
      go_wp2
      go_ret
      exact ⟨ret_int (by rw [E.out]; rfl), rfl⟩
set_option maxHeartbeats 1600000 in
theorem number_any (url : Bool) (c : Nat) (w : World) (hc : c < 256) :
    Calls Try.prog 17 #[.bool url, .int .u8 (c : Int)] w fun e w' => e = .returned (.int .i64 (numI url c)) ∧ w = w' := by
  go_enter Try.func17, Try.ntmps17
  go_wp2_with fail
  go_loop [5] (fun i => ∃ k : Nat, k ≤ 64 ∧ i = .int .i64 (k : Int) ∧ ∀ j, j < k → sgN url j ≠ c) (fun i => 64 - (intOf i).toNat)
  case atStart => exact ⟨0, by omega, rfl, by omega⟩
  case round =>
    obtain ⟨k, hk, rfl, hno⟩ := hrel
    by_cases hlt : k < 64
    · have p1 : (k : Int) < 64 := by omega
      have o5 : IntKind.i64.wrap ((k : Int) + 1) = (k : Int) + 1 := IntWalk.i64_in _ (by omega)
      by_cases hy : sgN url k = c
      · have N := Lib.hid (num_yes hlt hy)
        subst hy
        clear hno
        go_wp2_with (go_at_call 15; refine (sign_any _ _ _ hlt).mono ?_; rintro e w' ⟨rfl, rfl⟩)
        go_ret
        exact ⟨ret_int N.out.symm, rfl⟩
      · have hno2 : ∀ j, j < k + 1 → sgN url j ≠ c := fun j hj => by
          rcases Nat.lt_or_ge j k with h | h
          · exact hno j h
          · rw [show j = k from by omega]; exact hy
        have q1 : ¬ (sgN url k : Int) = (c : Int) := by omega
        have q2 : ((sgN url k : Int) == (c : Int)) = false := by simpa using q1
        clear hno hy
        go_wp2_with (go_at_call 15; refine (sign_any _ _ _ hlt).mono ?_; rintro e w' ⟨rfl, rfl⟩)
        go_round
        case rel => exact ⟨k + 1, by omega, congrArg (Value.int .i64) (by omega), hno2⟩
        case measure => simp [intOf]; omega
    · have p1 : ¬ (k : Int) < 64 := by omega
      have N := Lib.hid (num_no (url := url) (c := c) (fun j hj => hno j (by omega)))
      clear hno
      go_wp2_with fail
      go_ret
      exact ⟨ret_int N.out.symm, rfl⟩
theorem bit_any (s : ByteArray) (i : Nat) (w : World) (hi : i ≤ 1000000) :
    Calls Try.prog 14 #[.string s, .int .i64 (i : Int)] w fun e w' => e = .returned (.int .i64 (btN 8 (gb s) i : Int)) ∧ w = w' := by
  obtain ⟨d, hd⟩ : ∃ d, i / 8 = d := ⟨_, rfl⟩
  obtain ⟨m, hm⟩ : ∃ m, i % 8 = m := ⟨_, rfl⟩
  have t1 : (i : Int).tdiv 8 = (d : Int) := by rw [Int.tdiv_eq_ediv_of_nonneg (by omega)]; omega
  have t2 : (i : Int).tmod 8 = (m : Int) := by rw [Int.tmod_eq_emod_of_nonneg (by omega)]; omega
  have natd : (d : Int).toNat = d := by omega
  have d1 : (d : Int) ≤ 1000000 := by omega
  have m8 : (m : Int) < 8 := by omega
  have B := Lib.hid (show btN 8 (gb s) i = gb s d / 2 ^ (7 - m) % 2 by unfold btN; rw [hd, hm])
  clear hd hm
  by_cases h : d < s.size
  · have g0 := gb_at s d h
    have g1 := gb_lt s d
    have q0 : (d : Int) < (s.size : Int) := by omega
    have q1 : ¬ (s.size : Int) ≤ (d : Int) := by omega
    have x1 : (gb s d : Int) < 256 := by omega
    go_enter Try.func14, Try.ntmps14
    go_wp2
    go_ret
    refine ⟨ret_int ?_, rfl⟩
    have e2 : ((2 : Int) ^ (7 - m)) = ((2 ^ (7 - m) : Nat) : Int) := by rw [Int.natCast_pow]; rfl
    show ((gb s d : Int) / 2 ^ (7 - m)).tmod 2 = _
    rw [B.out, e2, Int.tmod_eq_emod_of_nonneg (Int.ediv_nonneg (Int.natCast_nonneg _) (Int.natCast_nonneg _))]
    rfl
  · have q1 : (s.size : Int) ≤ (d : Int) := by omega
    have q2 : btN 8 (gb s) i = 0 := by rw [B.out, gb_out s d (by omega)]; simp
    have E := Lib.hid q2
    clear q2
    go_enter Try.func14, Try.ntmps14
    go_wp2
    go_ret
    exact ⟨ret_int (by rw [E.out]; rfl), rfl⟩
end Go.Proofs.Ytmkcbmlpdkaniaa
