/- What stands for a number in a text: digits, their number, what Scan answers. No program in it. -/
import Derived.Test.YtdnkpclpcelbaaaDoorAid
namespace Go.Proofs.YtdnkpclpcelbaaaDoor
set_option maxRecDepth 20000
set_option linter.unusedSimpArgs false
set_option linter.unusedVariables false
/-- A text's byte at a place; 0 behind its end. -/
def gb (s : ByteArray) (i : Nat) : Nat := (s.data.toList.getD i 0).toNat
def isD (x : Nat) : Bool := decide (48 ≤ x) && decide (x ≤ 57)
/-- How many digits there are from a place on. -/
def cnt (s : ByteArray) (f : Nat) : Nat := ((s.data.toList.drop f).takeWhile fun c => isD c.toNat).length
/-- The number of some digits; and the one that grows no more once it is too great. -/
def valN (s : ByteArray) (f : Nat) : Nat → Nat
  | 0 => 0
  | k + 1 => 10 * valN s f k + (gb s (f + k) - 48)
def capN (s : ByteArray) (f : Nat) : Nat → Nat
  | 0 => 0
  | k + 1 => if capN s f k ≤ 9007199254740991 then 10 * capN s f k + (gb s (f + k) - 48) else capN s f k
theorem tw_lt (p : UInt8 → Bool) : ∀ (l : List UInt8) (k : Nat), k < (l.takeWhile p).length → p (l.getD k 0) = true ∧ k < l.length
  | [], k, h => by simp at h
  | c :: r, k, h => by
    cases hc : p c
    · rw [List.takeWhile_cons, hc] at h; simp at h
    · rw [List.takeWhile_cons, hc] at h
      match k with
      | 0 => exact ⟨by simpa using hc, by simp⟩
      | k + 1 =>
        have := tw_lt p r k (by simpa using h)
        exact ⟨by simpa using this.1, by simp; exact this.2⟩
theorem tw_stop (p : UInt8 → Bool) (h0 : p 0 = false) : ∀ (l : List UInt8), p (l.getD (l.takeWhile p).length 0) = false
  | [] => by simpa using h0
  | c :: r => by
    cases hc : p c
    · rw [List.takeWhile_cons, hc]; simpa using hc
    · rw [List.takeWhile_cons, hc]
      have := tw_stop p h0 r
      simpa using this
theorem gb_drop (s : ByteArray) (f k : Nat) : ((s.data.toList.drop f).getD k 0).toNat = gb s (f + k) := by
  unfold gb
  simp [List.getD_eq_getElem?_getD, List.getElem?_drop]
theorem cnt_lt (s : ByteArray) (f k : Nat) (h : k < cnt s f) : isD (gb s (f + k)) = true ∧ f + k < s.size := by
  have := tw_lt (fun c => isD c.toNat) _ k h
  rw [gb_drop] at this
  refine ⟨this.1, ?_⟩
  have h2 := this.2
  rw [List.length_drop] at h2
  have : s.data.toList.length = s.size := Array.length_toList
  omega
theorem cnt_stop (s : ByteArray) (f : Nat) : isD (gb s (f + cnt s f)) = false := by
  have := tw_stop (fun c => isD c.toNat) (by decide) (s.data.toList.drop f)
  rw [gb_drop] at this
  exact this
theorem cnt_le (s : ByteArray) (f : Nat) (h : f ≤ s.size) : f + cnt s f ≤ s.size := by
  rcases Nat.lt_or_ge 0 (cnt s f) with h1 | h1
  · have := (cnt_lt s f (cnt s f - 1) (by omega)).2
    omega
  · omega
theorem gb_at (s : ByteArray) (i : Nat) (h : i < s.size) : (s[i]'h).toNat = gb s i := by
  have hl : i < s.data.toList.length := by rw [Array.length_toList]; exact h
  unfold gb
  rw [List.getD_eq_getElem?_getD, List.getElem?_eq_getElem hl]
  rfl
theorem gb_out (s : ByteArray) (i : Nat) (h : s.size ≤ i) : gb s i = 0 := by
  have hl : s.data.toList.length ≤ i := by rw [Array.length_toList]; exact h
  unfold gb
  rw [List.getD_eq_getElem?_getD, List.getElem?_eq_none hl]
  rfl
theorem gb_lt (s : ByteArray) (i : Nat) : gb s i < 256 := UInt8.toNat_lt _
theorem cap_val (s : ByteArray) (f : Nat) : ∀ k, (capN s f k ≤ 9007199254740991 → capN s f k = valN s f k) ∧ (9007199254740991 < capN s f k → 9007199254740991 < valN s f k)
  | 0 => by simp [capN, valN]
  | k + 1 => by
    obtain ⟨h1, h2⟩ := cap_val s f k
    simp only [capN, valN]
    by_cases h : capN s f k ≤ 9007199254740991
    · rw [if_pos h, h1 h]; exact ⟨fun _ => rfl, fun h => h⟩
    · rw [if_neg h]; have := h2 (by omega); exact ⟨fun h' => absurd h' h, fun _ => by omega⟩
theorem cap_lt (s : ByteArray) (f : Nat) : ∀ k, capN s f k ≤ 90071992547410117
  | 0 => by simp [capN]
  | k + 1 => by
    have h := cap_lt s f k
    have := gb_lt s (f + k)
    simp only [capN]
    split <;> omega
theorem val_lt (s : ByteArray) (f : Nat) : ∀ k, valN s f k + 23 ≤ 23 * 10 ^ k
  | 0 => by simp [valN]
  | k + 1 => by
    have h := val_lt s f k
    have := gb_lt s (f + k)
    simp only [valN, Nat.pow_succ]
    omega
theorem val_16 (s : ByteArray) (f k : Nat) (h : k ≤ 16) : valN s f k ≤ 230000000000000000 := by
  have h1 := val_lt s f k
  have h2 : 10 ^ k ≤ 10 ^ 16 := Nat.pow_le_pow_right (by decide) h
  omega
theorem val_ge (s : ByteArray) (f : Nat) (h : 49 ≤ gb s f) : ∀ k, 10 ^ k ≤ valN s f (k + 1)
  | 0 => by simp [valN]; omega
  | k + 1 => by
    have h := val_ge s f h k
    rw [valN, Nat.pow_succ]
    omega
theorem val_big (s : ByteArray) (f m : Nat) (h : 49 ≤ gb s f) (hm : 16 < m) : 9007199254740991 < valN s f m := by
  obtain ⟨k, rfl⟩ : ∃ k, m = k + 1 := ⟨m - 1, by omega⟩
  have h1 := val_ge s f h k
  have h2 : 10 ^ 16 ≤ 10 ^ k := Nat.pow_le_pow_right (by decide) (by omega)
  omega
def isE (x : Nat) : Bool := x == 46 || x == 101 || x == 69
/-- What stands from a place on, where a sign stands ('sg' 1) or none. -/
def scanF (s : ByteArray) (f sg : Nat) : Int × Int × Int :=
  if f = s.size then (0, 0, 5)
  else if cnt s f = 0 then (0, 0, 6)
  else if isE (gb s (f + cnt s f)) = true then (0, 0, 12)
  else if gb s f = 48 ∧ (1 < cnt s f ∨ sg = 1) then (0, 0, 12)
  else if 9007199254740991 < valN s f (cnt s f) then (0, 0, 2)
  else (if sg = 1 then -(valN s f (cnt s f) : Int) else valN s f (cnt s f), ((f + cnt s f : Nat) : Int), 0)
/-- What Scan answers. -/
def scanI (s : ByteArray) (p : Int) : Int × Int × Int :=
  if p < 0 ∨ (s.size : Int) < p then (0, 0, 1)
  else if gb s p.toNat = 45 then scanF s (p.toNat + 1) 1
  else scanF s p.toNat 0
def retI (r : Int × Int × Int) : Ending := .returned (.tuple #[.int .i64 r.1, .int .i64 r.2.1, .int .i64 r.2.2])
theorem scanF_5 {s : ByteArray} {f sg : Nat} (h : f = s.size) : scanF s f sg = (0, 0, 5) := by rw [scanF, if_pos h]
theorem scanF_6 {s : ByteArray} {f sg : Nat} (h : f < s.size) (h1 : isD (gb s f) = false) : scanF s f sg = (0, 0, 6) := by
  have : cnt s f = 0 := by
    rcases Nat.lt_or_ge 0 (cnt s f) with h2 | h2
    · have := (cnt_lt s f 0 h2).1; rw [Nat.add_zero, h1] at this; exact absurd this (by decide)
    · omega
  rw [scanF, if_neg (by omega), if_pos this]
theorem scanF_pos {s : ByteArray} {f : Nat} (h1 : isD (gb s f) = true) : 0 < cnt s f := by
  apply Nat.lt_of_not_le
  intro h
  have := cnt_stop s f
  rw [show f + cnt s f = f from by omega, h1] at this
  exact absurd this (by decide)
theorem scanF_e {s : ByteArray} {f sg : Nat} (h : f < s.size) (h1 : 0 < cnt s f) (he : isE (gb s (f + cnt s f)) = true) : scanF s f sg = (0, 0, 12) := by
  rw [scanF, if_neg (by omega), if_neg (by omega), if_pos he]
theorem scanF_0 {s : ByteArray} {f sg : Nat} (h : f < s.size) (h1 : 0 < cnt s f) (h0 : gb s f = 48) (h2 : 1 < cnt s f ∨ sg = 1) : scanF s f sg = (0, 0, 12) := by
  rw [scanF, if_neg (by omega), if_neg (by omega)]
  split
  · rfl
  · rw [if_pos ⟨h0, h2⟩]
theorem scanF_2 {s : ByteArray} {f sg : Nat} (h : f < s.size) (h1 : 0 < cnt s f) (he : isE (gb s (f + cnt s f)) = false) (h0 : ¬ (gb s f = 48 ∧ (1 < cnt s f ∨ sg = 1))) (hb : 9007199254740991 < valN s f (cnt s f)) : scanF s f sg = (0, 0, 2) := by
  rw [scanF, if_neg (by omega), if_neg (by omega), if_neg (by rw [he]; decide), if_neg h0, if_pos hb]
theorem scanF_n {s : ByteArray} {f sg : Nat} (h : f < s.size) (h1 : 0 < cnt s f) (he : isE (gb s (f + cnt s f)) = false) (h0 : ¬ (gb s f = 48 ∧ (1 < cnt s f ∨ sg = 1))) (hb : valN s f (cnt s f) ≤ 9007199254740991) : scanF s f sg = (if sg = 1 then -(valN s f (cnt s f) : Int) else valN s f (cnt s f), ((f + cnt s f : Nat) : Int), 0) := by
  rw [scanF, if_neg (by omega), if_neg (by omega), if_neg (by rw [he]; decide), if_neg h0, if_neg (by omega)]
theorem cnt_same {s : ByteArray} {f k : Nat} (h : k ≤ cnt s f) (h1 : isD (gb s (f + k)) = false) : k = cnt s f := by
  rcases Nat.lt_or_ge k (cnt s f) with h2 | h2
  · have := (cnt_lt s f k h2).1; rw [h1] at this; exact absurd this (by decide)
  · omega
theorem cnt_more {s : ByteArray} {f k : Nat} (h : k ≤ cnt s f) (h1 : isD (gb s (f + k)) = true) : k + 1 ≤ cnt s f := by
  rcases Nat.lt_or_ge k (cnt s f) with h2 | h2
  · exact h2
  · have := cnt_stop s f; rw [show cnt s f = k from by omega, h1] at this; exact absurd this (by decide)
theorem isD_yes {x : Nat} (h : isD x = true) : 48 ≤ x ∧ x ≤ 57 := by simpa [isD] using h
theorem isD_no {x : Nat} (h : isD x = false) : x < 48 ∨ 57 < x := by
  simp [isD] at h; omega
theorem isE_notD {x : Nat} (h : isE x = true) : isD x = false := by
  simp [isE] at h
  rcases h with (rfl | rfl) | rfl <;> rfl
end Go.Proofs.YtdnkpclpcelbaaaDoor
