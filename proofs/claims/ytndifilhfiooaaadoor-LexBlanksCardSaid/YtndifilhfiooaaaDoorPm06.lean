/- What stands for a number in a text: digits, their number, what Scan answers. No program in it. lex (layer 6): words, as lists; plain. lex (layer 6): the book of signs and words (written by lx_gen_b.py). What num.Scan answers: its walk; the goto leads forward alone. num.Scan from the first digit on, no sign ahead: written by gen_num.py. num.Scan from the first digit on, a sign ahead: written by gen_num.py. num.Scan behind a sign where no digit stands; the reference's digits and small. What the reference's Scan answers; the law NumScans: it returns true. Written by gen_numf.py. What the reference's Scan answers behind a sign. Written by gen_numf.py. -/
import Derived.WalkMore
import Derived.ScopeJumps
import Derived.OwnWalk
import Derived.Test.YtndifilhfiooaaaDoorPm01
import Derived.Test.YtndifilhfiooaaaDoorPm05
import Derived.Test.YtndifilhfiooaaaDoorPm04
namespace Go.Proofs.YtndifilhfiooaaaDoor
set_option maxRecDepth 20000
set_option linter.unusedSimpArgs false
set_option linter.unusedVariables false
/-- A text's byte at a place; 0 behind its end. -/
def gb (s : ByteArray) (i : Nat) : Nat := (s.data.toList.getD i 0).toNat
def isD (x : Nat) : Bool := decide (48 ≤ x) && decide (x ≤ 57)
/-- How many digits there are from a place on. -/
def cnt (s : ByteArray) (f : Nat) : Nat := ((s.data.toList.drop f).takeWhile fun c => isD c.toNat).length
/-- The number of some digits; and the one that grows no more once it is too great. -/
def valN (s : ByteArray) (f : Nat) : Nat → Nat
  | 0 => 0
  | k + 1 => 10 * valN s f k + (gb s (f + k) - 48)
def capN (s : ByteArray) (f : Nat) : Nat → Nat
  | 0 => 0
  | k + 1 => if capN s f k ≤ 9007199254740991 then 10 * capN s f k + (gb s (f + k) - 48) else capN s f k
theorem tw_lt (p : UInt8 → Bool) : ∀ (l : List UInt8) (k : Nat), k < (l.takeWhile p).length → p (l.getD k 0) = true ∧ k < l.length
  | [], k, h => by simp at h
  | c :: r, k, h => by
    cases hc : p c
    · rw [List.takeWhile_cons, hc] at h; simp at h
    · rw [List.takeWhile_cons, hc] at h
      match k with
      | 0 => exact ⟨by simpa using hc, by simp⟩
      | k + 1 =>
        have := tw_lt p r k (by simpa using h)
        exact ⟨by simpa using this.1, by simp; exact this.2⟩
theorem tw_stop (p : UInt8 → Bool) (h0 : p 0 = false) : ∀ (l : List UInt8), p (l.getD (l.takeWhile p).length 0) = false
  | [] => by simpa using h0
  | c :: r => by
    cases hc : p c
    · rw [List.takeWhile_cons, hc]; simpa using hc
    · rw [List.takeWhile_cons, hc]
      have := tw_stop p h0 r
      simpa using this
theorem gb_drop (s : ByteArray) (f k : Nat) : ((s.data.toList.drop f).getD k 0).toNat = gb s (f + k) := by
  unfold gb
  simp [List.getD_eq_getElem?_getD, List.getElem?_drop]
theorem cnt_lt (s : ByteArray) (f k : Nat) (h : k < cnt s f) : isD (gb s (f + k)) = true ∧ f + k < s.size := by
  have := tw_lt (fun c => isD c.toNat) _ k h
  rw [gb_drop] at this
  refine ⟨this.1, ?_⟩
  have h2 := this.2
  rw [List.length_drop] at h2
  have : s.data.toList.length = s.size := Array.length_toList
  omega
theorem cnt_stop (s : ByteArray) (f : Nat) : isD (gb s (f + cnt s f)) = false := by
  have := tw_stop (fun c => isD c.toNat) (by decide) (s.data.toList.drop f)
  rw [gb_drop] at this
  exact this
theorem cnt_le (s : ByteArray) (f : Nat) (h : f ≤ s.size) : f + cnt s f ≤ s.size := by
  rcases Nat.lt_or_ge 0 (cnt s f) with h1 | h1
  · have := (cnt_lt s f (cnt s f - 1) (by omega)).2
    omega
  · omega
theorem gb_at (s : ByteArray) (i : Nat) (h : i < s.size) : (s[i]'h).toNat = gb s i := by
  have hl : i < s.data.toList.length := by rw [Array.length_toList]; exact h
  unfold gb
  rw [List.getD_eq_getElem?_getD, List.getElem?_eq_getElem hl]
  rfl
theorem gb_out (s : ByteArray) (i : Nat) (h : s.size ≤ i) : gb s i = 0 := by
  have hl : s.data.toList.length ≤ i := by rw [Array.length_toList]; exact h
  unfold gb
  rw [List.getD_eq_getElem?_getD, List.getElem?_eq_none hl]
  rfl
theorem gb_lt (s : ByteArray) (i : Nat) : gb s i < 256 := UInt8.toNat_lt _
theorem cap_val (s : ByteArray) (f : Nat) : ∀ k, (capN s f k ≤ 9007199254740991 → capN s f k = valN s f k) ∧ (9007199254740991 < capN s f k → 9007199254740991 < valN s f k)
  | 0 => by simp [capN, valN]
  | k + 1 => by
    obtain ⟨h1, h2⟩ := cap_val s f k
    simp only [capN, valN]
    by_cases h : capN s f k ≤ 9007199254740991
    · rw [if_pos h, h1 h]; exact ⟨fun _ => rfl, fun h => h⟩
    · rw [if_neg h]; have := h2 (by omega); exact ⟨fun h' => absurd h' h, fun _ => by omega⟩
theorem cap_lt (s : ByteArray) (f : Nat) : ∀ k, capN s f k ≤ 90071992547410117
  | 0 => by simp [capN]
  | k + 1 => by
    have h := cap_lt s f k
    have := gb_lt s (f + k)
    simp only [capN]
    split <;> omega
def isE (x : Nat) : Bool := x == 46 || x == 101 || x == 69
/-- What stands from a place on, where a sign stands ('sg' 1) or none. -/
def scanF (s : ByteArray) (f sg : Nat) : Int × Int × Int :=
  if f = s.size then (0, 0, 5)
  else if cnt s f = 0 then (0, 0, 6)
  else if isE (gb s (f + cnt s f)) = true then (0, 0, 12)
  else if gb s f = 48 ∧ (1 < cnt s f ∨ sg = 1) then (0, 0, 12)
  else if 9007199254740991 < valN s f (cnt s f) then (0, 0, 2)
  else (if sg = 1 then -(valN s f (cnt s f) : Int) else valN s f (cnt s f), ((f + cnt s f : Nat) : Int), 0)
/-- What Scan answers. -/
def scanI (s : ByteArray) (p : Int) : Int × Int × Int :=
  if p < 0 ∨ (s.size : Int) < p then (0, 0, 1)
  else if gb s p.toNat = 45 then scanF s (p.toNat + 1) 1
  else scanF s p.toNat 0
def retI (r : Int × Int × Int) : Ending := .returned (.tuple #[.int .i64 r.1, .int .i64 r.2.1, .int .i64 r.2.2])
theorem scanF_5 {s : ByteArray} {f sg : Nat} (h : f = s.size) : scanF s f sg = (0, 0, 5) := by rw [scanF, if_pos h]
theorem scanF_6 {s : ByteArray} {f sg : Nat} (h : f < s.size) (h1 : isD (gb s f) = false) : scanF s f sg = (0, 0, 6) := by
  have : cnt s f = 0 := by
    rcases Nat.lt_or_ge 0 (cnt s f) with h2 | h2
    · have := (cnt_lt s f 0 h2).1; rw [Nat.add_zero, h1] at this; exact absurd this (by decide)
    · omega
  rw [scanF, if_neg (by omega), if_pos this]
theorem scanF_pos {s : ByteArray} {f : Nat} (h1 : isD (gb s f) = true) : 0 < cnt s f := by
  apply Nat.lt_of_not_le
  intro h
  have := cnt_stop s f
  rw [show f + cnt s f = f from by omega, h1] at this
  exact absurd this (by decide)
theorem scanF_e {s : ByteArray} {f sg : Nat} (h : f < s.size) (h1 : 0 < cnt s f) (he : isE (gb s (f + cnt s f)) = true) : scanF s f sg = (0, 0, 12) := by
  rw [scanF, if_neg (by omega), if_neg (by omega), if_pos he]
theorem scanF_0 {s : ByteArray} {f sg : Nat} (h : f < s.size) (h1 : 0 < cnt s f) (h0 : gb s f = 48) (h2 : 1 < cnt s f ∨ sg = 1) : scanF s f sg = (0, 0, 12) := by
  rw [scanF, if_neg (by omega), if_neg (by omega)]
  split
  · rfl
  · rw [if_pos ⟨h0, h2⟩]
theorem scanF_2 {s : ByteArray} {f sg : Nat} (h : f < s.size) (h1 : 0 < cnt s f) (he : isE (gb s (f + cnt s f)) = false) (h0 : ¬ (gb s f = 48 ∧ (1 < cnt s f ∨ sg = 1))) (hb : 9007199254740991 < valN s f (cnt s f)) : scanF s f sg = (0, 0, 2) := by
  rw [scanF, if_neg (by omega), if_neg (by omega), if_neg (by rw [he]; decide), if_neg h0, if_pos hb]
theorem scanF_n {s : ByteArray} {f sg : Nat} (h : f < s.size) (h1 : 0 < cnt s f) (he : isE (gb s (f + cnt s f)) = false) (h0 : ¬ (gb s f = 48 ∧ (1 < cnt s f ∨ sg = 1))) (hb : valN s f (cnt s f) ≤ 9007199254740991) : scanF s f sg = (if sg = 1 then -(valN s f (cnt s f) : Int) else valN s f (cnt s f), ((f + cnt s f : Nat) : Int), 0) := by
  rw [scanF, if_neg (by omega), if_neg (by omega), if_neg (by rw [he]; decide), if_neg h0, if_neg (by omega)]
theorem cnt_same {s : ByteArray} {f k : Nat} (h : k ≤ cnt s f) (h1 : isD (gb s (f + k)) = false) : k = cnt s f := by
  rcases Nat.lt_or_ge k (cnt s f) with h2 | h2
  · have := (cnt_lt s f k h2).1; rw [h1] at this; exact absurd this (by decide)
  · omega
theorem cnt_more {s : ByteArray} {f k : Nat} (h : k ≤ cnt s f) (h1 : isD (gb s (f + k)) = true) : k + 1 ≤ cnt s f := by
  rcases Nat.lt_or_ge k (cnt s f) with h2 | h2
  · exact h2
  · have := cnt_stop s f; rw [show cnt s f = k from by omega, h1] at this; exact absurd this (by decide)
theorem isD_yes {x : Nat} (h : isD x = true) : 48 ≤ x ∧ x ≤ 57 := by simpa [isD] using h
theorem isD_no {x : Nat} (h : isD x = false) : x < 48 ∨ 57 < x := by
  simp [isD] at h; omega
theorem isE_notD {x : Nat} (h : isE x = true) : isD x = false := by
  simp [isE] at h
  rcases h with (rfl | rfl) | rfl <;> rfl
end Go.Proofs.YtndifilhfiooaaaDoor
namespace Go.Proofs.YtndifilhfiooaaaDoor
set_option maxRecDepth 20000
set_option linter.unusedSimpArgs false
set_option linter.unusedVariables false
open Go.RowKit Go.Lib Go.Shelf
theorem gb_eq (t : ByteArray) (i : Nat) : at_ t.data.toList i = gb t i := rfl
theorem tlen (t : ByteArray) : t.data.toList.length = t.size := Array.length_toList
/-- Is it a blank? -/
def isB (c : Nat) : Bool := c == 9 || c == 10 || c == 13 || c == 32
/-- Where the blanks end from a place on. -/
def blk (t : ByteArray) (a : Nat) : Nat := if h : a < t.size ∧ isB (gb t a) = true then blk t (a + 1) else a
termination_by t.size - a
decreasing_by omega
theorem blk_more {t : ByteArray} {a : Nat} (h : a < t.size) (hb : isB (gb t a) = true) : blk t a = blk t (a + 1) := by rw [blk, dif_pos ⟨h, hb⟩]
theorem blk_stop {t : ByteArray} {a : Nat} (h : ¬ (a < t.size ∧ isB (gb t a) = true)) : blk t a = a := by rw [blk, dif_neg h]
theorem blk_ge (t : ByteArray) : ∀ (d a : Nat), t.size - a = d → a ≤ blk t a ∧ (a ≤ t.size → blk t a ≤ t.size) ∧ (∀ k, a ≤ k → k < blk t a → isB (gb t k) = true) ∧ (blk t a < t.size → isB (gb t (blk t a)) = false) := by
  intro d
  induction d using Nat.strongRecOn with
  | ind d ih =>
    intro a hd
    by_cases h : a < t.size ∧ isB (gb t a) = true
    · rw [blk_more h.1 h.2]
      obtain ⟨h1, h2, h3, h4⟩ := ih (t.size - (a + 1)) (by omega) (a + 1) rfl
      refine ⟨by omega, fun _ => h2 (by omega), fun k hk hl => ?_, h4⟩
      by_cases e : k = a
      · rw [e]; exact h.2
      · exact h3 k (by omega) hl
    · rw [blk_stop h]
      refine ⟨Nat.le_refl _, fun h => h, fun k hk hl => by omega, fun hl => ?_⟩
      cases hb : isB (gb t a) with
      | false => rfl
      | true => exact absurd ⟨hl, hb⟩ h
/-- A token. -/
structure Tok where
  kind : Nat
  fr : Nat
  til : Nat
  n : Int
  s : List UInt8
def tok0 (a : Nat) : Tok := ⟨0, a, 0, 0, []⟩
/-- What a sign stands for; 0 for none. -/
def signK (c : Nat) : Nat := if c = 123 then 1 else if c = 125 then 2 else if c = 91 then 3 else if c = 93 then 4 else if c = 44 then 5 else if c = 58 then 6 else 0
def trueL : List UInt8 := [116, 114, 117, 101]
def falseL : List UInt8 := [102, 97, 108, 115, 101]
def nullL : List UInt8 := [110, 117, 108, 108]
/-- Do these letters stand at a place? -/
def lets (t : ByteArray) (a : Nat) (l : List UInt8) : Bool := decide ((t.data.toList.drop a).take l.length = l)
/-- Which word of letters stands at a place, and how many there are. -/
def wordK (t : ByteArray) (a : Nat) : Nat × Nat := if lets t a trueL = true then (7, 4) else if lets t a falseL = true then (8, 5) else if lets t a nullL = true then (9, 4) else (0, 0)
/-- The word that stands at a place, and the error's number. -/
def wordT (t : ByteArray) (a : Nat) : Tok × Nat :=
  if a = t.size then (⟨12, a, a, 0, []⟩, 0)
  else if signK (gb t a) ≠ 0 then (⟨signK (gb t a), a, a + 1, 0, []⟩, 0)
  else if (wordK t a).1 ≠ 0 then (⟨(wordK t a).1, a, a + (wordK t a).2, 0, []⟩, 0)
  else if gb t a = 34 then match unq t.data.toList (a + 1) with
    | .ok (s, j) => (⟨10, a, j, 0, s⟩, 0)
    | .error m => (tok0 a, m)
  else if gb t a = 45 ∨ isD (gb t a) = true then
    if (scanI t a).2.2 = 0 then (⟨11, a, (scanI t a).2.1.toNat, (scanI t a).1, []⟩, 0) else (tok0 a, (scanI t a).2.2.toNat)
  else (tok0 a, 6)
section
variable {t : ByteArray} {a : Nat}
theorem word_end (h : a = t.size) : wordT t a = (⟨12, a, a, 0, []⟩, 0) := by rw [wordT, if_pos h]
theorem word_sign (h : a < t.size) (hk : signK (gb t a) ≠ 0) : wordT t a = (⟨signK (gb t a), a, a + 1, 0, []⟩, 0) := by rw [wordT, if_neg (by omega), if_pos hk]
theorem word_lets (h : a < t.size) (hs : signK (gb t a) = 0) (hk : (wordK t a).1 ≠ 0) : wordT t a = (⟨(wordK t a).1, a, a + (wordK t a).2, 0, []⟩, 0) := by rw [wordT, if_neg (by omega), if_neg (by omega), if_pos hk]
theorem word_text (h : a < t.size) (hc : gb t a = 34) (hk : (wordK t a).1 = 0) : wordT t a = match unq t.data.toList (a + 1) with
    | .ok (s, j) => (⟨10, a, j, 0, s⟩, 0)
    | .error m => (tok0 a, m) := by
  rw [wordT, if_neg (by omega), if_neg (by rw [hc]; exact fun h => h rfl), if_neg (by omega), if_pos hc]
theorem word_num (h : a < t.size) (hs : signK (gb t a) = 0) (hk : (wordK t a).1 = 0) (h34 : gb t a ≠ 34) (hc : gb t a = 45 ∨ isD (gb t a) = true) : wordT t a = if (scanI t a).2.2 = 0 then (⟨11, a, (scanI t a).2.1.toNat, (scanI t a).1, []⟩, 0) else (tok0 a, (scanI t a).2.2.toNat) := by
  rw [wordT, if_neg (by omega), if_neg (by omega), if_neg (by omega), if_neg h34, if_pos hc]
theorem word_no (h : a < t.size) (hs : signK (gb t a) = 0) (hk : (wordK t a).1 = 0) (h34 : gb t a ≠ 34) (hc : ¬ (gb t a = 45 ∨ isD (gb t a) = true)) : wordT t a = (tok0 a, 6) := by
  rw [wordT, if_neg (by omega), if_neg (by omega), if_neg (by omega), if_neg h34, if_neg hc]
end
theorem lets_at {t : ByteArray} {a : Nat} {l : List UInt8} (h : lets t a l = true) : a + l.length ≤ t.size ∨ l = [] := by
  unfold lets at h
  have h1 := congrArg List.length (of_decide_eq_true h)
  rw [List.length_take, List.length_drop, tlen] at h1
  by_cases e : l = []
  · exact .inr e
  · have : 0 < l.length := List.length_pos_iff.2 e
    omega
theorem lets_first {t : ByteArray} {a : Nat} {c : UInt8} {l : List UInt8} (h : lets t a (c :: l) = true) : gb t a = c.toNat := by
  unfold lets at h
  have h1 := congrArg (fun l => l[0]?) (of_decide_eq_true h)
  simp only [List.getElem?_take, List.getElem?_drop, Nat.add_zero, List.length_cons, List.getElem?_cons_zero] at h1
  rw [if_pos (by omega)] at h1
  unfold gb
  rw [List.getD_eq_getElem?_getD, h1]
  rfl
/-- Which words begin with which letter. -/
theorem wordK_t {t : ByteArray} {a : Nat} (h : gb t a = 116) : wordK t a = if lets t a trueL = true then (7, 4) else (0, 0) := by
  unfold wordK
  rw [if_neg (c := lets t a falseL = true) (fun e => by have := lets_first e; rw [h] at this; exact absurd this (by decide)), if_neg (c := lets t a nullL = true) (fun e => by have := lets_first e; rw [h] at this; exact absurd this (by decide))]
theorem wordK_f {t : ByteArray} {a : Nat} (h : gb t a = 102) : wordK t a = if lets t a falseL = true then (8, 5) else (0, 0) := by
  unfold wordK
  rw [if_neg (c := lets t a trueL = true) (fun e => by have := lets_first e; rw [h] at this; exact absurd this (by decide)), if_neg (c := lets t a nullL = true) (fun e => by have := lets_first e; rw [h] at this; exact absurd this (by decide))]
theorem wordK_n {t : ByteArray} {a : Nat} (h : gb t a = 110) : wordK t a = if lets t a nullL = true then (9, 4) else (0, 0) := by
  unfold wordK
  rw [if_neg (c := lets t a trueL = true) (fun e => by have := lets_first e; rw [h] at this; exact absurd this (by decide)), if_neg (c := lets t a falseL = true) (fun e => by have := lets_first e; rw [h] at this; exact absurd this (by decide))]
theorem wordK_no {t : ByteArray} {a : Nat} (h1 : gb t a ≠ 116) (h2 : gb t a ≠ 102) (h3 : gb t a ≠ 110) : wordK t a = (0, 0) := by
  unfold wordK
  rw [if_neg (c := lets t a trueL = true) (fun e => h1 (lets_first e)), if_neg (c := lets t a falseL = true) (fun e => h2 (lets_first e)), if_neg (c := lets t a nullL = true) (fun e => h3 (lets_first e))]
theorem wordK_fit (t : ByteArray) (a : Nat) (h : (wordK t a).1 ≠ 0) : a + (wordK t a).2 ≤ t.size ∧ 4 ≤ (wordK t a).2 ∧ (wordK t a).1 < 10 := by
  unfold wordK at h ⊢
  split
  · rename_i e; rcases lets_at e with h | h
    · exact ⟨h, by decide, by decide⟩
    · cases h
  · split
    · rename_i e; rcases lets_at e with h | h
      · exact ⟨h, by decide, by decide⟩
      · cases h
    · split
      · rename_i e; rcases lets_at e with h | h
        · exact ⟨h, by decide, by decide⟩
        · cases h
      · rename_i h1 h2 h3
        rw [if_neg h1, if_neg h2, if_neg h3] at h
        exact absurd rfl h
theorem signK_lt (c : Nat) : signK c < 10 := by unfold signK; repeat' split
                                                all_goals omega
theorem unq_in (L : List UInt8) : ∀ (d i : Nat), L.length - i = d → ∀ s j, unq L i = .ok (s, j) → i < j ∧ j ≤ L.length := by
  intro d
  induction d using Nat.strongRecOn with
  | ind d ih =>
    intro i hd s j h
    by_cases hi : L.length ≤ i
    · rw [unq_end hi] at h; cases h
    have hp : ∀ P a, i < a → pre P (unq L a) = .ok (s, j) → i < j ∧ j ≤ L.length := fun P a ha hu => by
      cases hx : unq L a with
      | error m => rw [hx] at hu; cases hu
      | ok r =>
        obtain ⟨s', j'⟩ := r
        rw [hx] at hu
        obtain ⟨-, rfl⟩ := Prod.mk.inj (Except.ok.inj hu)
        have := ih (L.length - a) (by omega) a rfl s' _ hx
        omega
    by_cases h34 : at_ L i = 34
    · rw [unq_quote (by omega) h34] at h; cases h; omega
    by_cases h32 : at_ L i < 32
    · rw [unq_low (by omega) h32] at h; cases h
    by_cases h92 : at_ L i = 92
    · rw [unq_esc (by omega) h92] at h
      cases he : escV L (i + 1) with
      | error m => rw [he] at h; cases h
      | ok r =>
        obtain ⟨n, a⟩ := r
        rw [he] at h
        exact hp _ a (by have := esc_lt he; omega) h
    · rw [unq_cp (by omega) h34 (by omega) h92] at h
      cases he : nx (L.drop i) with
      | none => rw [he] at h; cases h
      | some r =>
        obtain ⟨n, k⟩ := r
        rw [he] at h
        have := nx_lt he
        exact hp _ (i + k) (by omega) h
theorem lunq_no0 (L : List UInt8) : ∀ (d i : Nat), L.length - i = d → unq L i ≠ .error 0 := by
  intro d
  induction d using Nat.strongRecOn with
  | ind d ih =>
    intro i hd h
    by_cases hi : L.length ≤ i
    · rw [unq_end hi] at h; cases h
    by_cases h34 : at_ L i = 34
    · rw [unq_quote (by omega) h34] at h; cases h
    by_cases h32 : at_ L i < 32
    · rw [unq_low (by omega) h32] at h; cases h
    have step : ∀ a P, i < a → pre P (unq L a) ≠ .error 0 := fun a P ha hp => by
      cases hu : unq L a with
      | ok r => rw [hu] at hp; obtain ⟨x, y⟩ := r; cases hp
      | error m =>
        rw [hu] at hp
        have hm : m = 0 := Except.error.inj hp
        exact ih (L.length - a) (by omega) a rfl (by rw [hu, hm])
    by_cases h92 : at_ L i = 92
    · rw [unq_esc (by omega) h92] at h
      cases he : escV L (i + 1) with
      | error m =>
        rw [he] at h
        have hm : m = 0 := Except.error.inj h
        exact esc_no0 (by rw [he, hm])
      | ok r =>
        obtain ⟨n, a⟩ := r
        rw [he] at h
        have := esc_lt he
        exact step a _ (by omega) h
    · rw [unq_cp (by omega) h34 (by omega) h92] at h
      cases hx : nx (L.drop i) with
      | none => rw [hx] at h; cases h
      | some r =>
        obtain ⟨n, k⟩ := r
        rw [hx] at h
        have := nx_lt hx
        exact step (i + k) _ (by omega) h
theorem scanF_nn (s : ByteArray) (f sg : Nat) : 0 ≤ (scanF s f sg).2.2 := by
  unfold scanF
  repeat' split
  all_goals first | decide | exact Int.le_refl 0
theorem scanI_nn (s : ByteArray) (p : Int) : 0 ≤ (scanI s p).2.2 := by
  unfold scanI
  split
  · decide
  · split <;> exact scanF_nn _ _ _
theorem scan_ok {s : ByteArray} {f sg : Nat} (hf : f ≤ s.size) (h : (scanF s f sg).2.2 = 0) : f < s.size ∧ 0 < cnt s f ∧ isE (gb s (f + cnt s f)) = false ∧ ¬ (gb s f = 48 ∧ (1 < cnt s f ∨ sg = 1)) ∧ valN s f (cnt s f) ≤ 9007199254740991 ∧ scanF s f sg = (if sg = 1 then -(valN s f (cnt s f) : Int) else valN s f (cnt s f), ((f + cnt s f : Nat) : Int), 0) := by
  unfold scanF at h ⊢
  by_cases h1 : f = s.size
  · rw [if_pos h1] at h; cases h
  rw [if_neg h1] at h ⊢
  by_cases h2 : cnt s f = 0
  · rw [if_pos h2] at h; cases h
  rw [if_neg h2] at h ⊢
  by_cases h3 : isE (gb s (f + cnt s f)) = true
  · rw [if_pos h3] at h; cases h
  rw [if_neg h3] at h ⊢
  by_cases h4 : gb s f = 48 ∧ (1 < cnt s f ∨ sg = 1)
  · rw [if_pos h4] at h; cases h
  rw [if_neg h4] at h ⊢
  by_cases h5 : 9007199254740991 < valN s f (cnt s f)
  · rw [if_pos h5] at h; cases h
  rw [if_neg h5]
  exact ⟨by omega, by omega, by simpa using h3, h4, by omega, rfl⟩
theorem scanI_in {t : ByteArray} {a : Nat} (ha : a < t.size) (h : (scanI t a).2.2 = 0) : (a : Int) < (scanI t a).2.1 ∧ (scanI t a).2.1 ≤ t.size := by
  unfold scanI at h ⊢
  rw [if_neg (by omega), Int.toNat_natCast] at h ⊢
  split
  · rename_i e
    rw [if_pos e] at h
    obtain ⟨h1, h2, -, -, -, h3⟩ := scan_ok (by omega) h
    have := cnt_le t (a + 1) (by omega)
    rw [h3]
    simp only
    omega
  · rename_i e
    rw [if_neg e] at h
    obtain ⟨h1, h2, -, -, -, h3⟩ := scan_ok (by omega) h
    have := cnt_le t a (by omega)
    rw [h3]
    simp only
    omega
/-- What is told of a word. -/
theorem word_in {t : ByteArray} {a : Nat} (ha : a ≤ t.size) : (wordT t a).1.fr = a ∧ ((wordT t a).2 = 0 → (wordT t a).1.kind ≠ 12 → a < (wordT t a).1.til ∧ (wordT t a).1.til ≤ t.size) ∧ ((wordT t a).2 = 0 → (wordT t a).1.kind = 12 → a = t.size ∧ wordT t a = (⟨12, a, a, 0, []⟩, 0)) ∧ ((wordT t a).2 ≠ 0 → (wordT t a).1 = tok0 a) := by
  by_cases h0 : a = t.size
  · rw [word_end h0]; exact ⟨rfl, fun _ h => absurd rfl h, fun _ _ => ⟨h0, rfl⟩, fun h => absurd rfl h⟩
  have hl : a < t.size := by omega
  by_cases h1 : signK (gb t a) ≠ 0
  · rw [word_sign hl h1]
    have := signK_lt (gb t a)
    exact ⟨rfl, fun _ _ => ⟨Nat.lt_succ_self a, hl⟩, fun _ h => absurd h (by simp only; omega), fun h => absurd rfl h⟩
  have h1 : signK (gb t a) = 0 := by omega
  by_cases h2 : (wordK t a).1 ≠ 0
  · rw [word_lets hl h1 h2]
    have := wordK_fit t a h2
    exact ⟨rfl, fun _ _ => ⟨by simp only; omega, this.1⟩, fun _ h => absurd h (by simp only; omega), fun h => absurd rfl h⟩
  have h2 : (wordK t a).1 = 0 := by omega
  by_cases h3 : gb t a = 34
  · rw [word_text hl h3 h2]
    cases hu : unq t.data.toList (a + 1) with
    | error m =>
      have hm : m ≠ 0 := fun h => lunq_no0 _ _ _ rfl (by rw [hu, h])
      exact ⟨rfl, fun h => absurd h hm, fun h => absurd h hm, fun _ => rfl⟩
    | ok r =>
      obtain ⟨s, j⟩ := r
      have := unq_in t.data.toList _ _ rfl s j hu
      rw [tlen] at this
      exact ⟨rfl, fun _ _ => ⟨by simp only; omega, this.2⟩, fun _ h => absurd h (by simp), fun h => absurd rfl h⟩
  by_cases h4 : gb t a = 45 ∨ isD (gb t a) = true
  · rw [word_num hl h1 h2 h3 h4]
    by_cases h5 : (scanI t a).2.2 = 0
    · rw [if_pos h5]
      have := scanI_in hl h5
      exact ⟨rfl, fun _ _ => ⟨by simp only; omega, by simp only; omega⟩, fun _ h => absurd h (by simp), fun h => absurd rfl h⟩
    · rw [if_neg h5]
      have hm : (scanI t a).2.2.toNat ≠ 0 := by have := scanI_nn t a; omega
      exact ⟨rfl, fun h => absurd h hm, fun h => absurd h hm, fun _ => rfl⟩
  · rw [word_no hl h1 h2 h3 h4]
    exact ⟨rfl, fun h => absurd h (by simp), fun h => absurd h (by simp), fun _ => rfl⟩
/-- The words from a place on, the first error or the end among them. -/
def els (t : ByteArray) (a : Nat) : List (Tok × Nat) :=
  if h : (wordT t (blk t a)).2 = 0 ∧ (wordT t (blk t a)).1.kind ≠ 12 ∧ a < (wordT t (blk t a)).1.til ∧ (wordT t (blk t a)).1.til ≤ t.size then wordT t (blk t a) :: els t (wordT t (blk t a)).1.til else [wordT t (blk t a)]
termination_by t.size - a
decreasing_by omega
theorem els_more {t : ByteArray} {a : Nat} (ha : a ≤ t.size) (h : (wordT t (blk t a)).2 = 0) (hk : (wordT t (blk t a)).1.kind ≠ 12) : els t a = wordT t (blk t a) :: els t (wordT t (blk t a)).1.til ∧ a < (wordT t (blk t a)).1.til ∧ (wordT t (blk t a)).1.til ≤ t.size := by
  obtain ⟨h1, h2, -, -⟩ := blk_ge t _ a rfl
  obtain ⟨-, h3, -, -⟩ := word_in (h2 ha)
  obtain ⟨h4, h5⟩ := h3 h hk
  have hx : a < (wordT t (blk t a)).1.til := by omega
  refine ⟨?_, hx, h5⟩
  rw [els, dif_pos ⟨h, hk, hx, h5⟩]
theorem els_last {t : ByteArray} {a : Nat} (h : (wordT t (blk t a)).2 ≠ 0 ∨ (wordT t (blk t a)).1.kind = 12) : els t a = [wordT t (blk t a)] := by
  rw [els, dif_neg]
  rintro ⟨h1, h2, -⟩
  rcases h with h | h
  · exact h h1
  · exact h2 h
theorem els_len (t : ByteArray) : ∀ (d a : Nat), t.size - a = d → a ≤ t.size → (els t a).length ≤ t.size - a + 1 := by
  intro d
  induction d using Nat.strongRecOn with
  | ind d ih =>
    intro a hd ha
    by_cases h : (wordT t (blk t a)).2 = 0 ∧ (wordT t (blk t a)).1.kind ≠ 12
    · obtain ⟨h1, h2, h3⟩ := els_more ha h.1 h.2
      have := ih (t.size - (wordT t (blk t a)).1.til) (by omega) _ rfl h3
      rw [h1, List.length_cons]
      omega
    · rw [els_last (by by_cases e : (wordT t (blk t a)).2 = 0 <;> simp_all)]
      simp
/-- What is told of words: the tokens, the first error's place and number. -/
def outT : List (Tok × Nat) → List Tok × Nat × Nat
  | [] => ([], 0, 0)
  | (x, m) :: r => if m ≠ 0 then ([], x.fr, m) else (x :: (outT r).1, (outT r).2)
theorem outT_app : ∀ (A B : List (Tok × Nat)), (∀ x ∈ A, x.2 = 0) → outT (A ++ B) = (A.map Prod.fst ++ (outT B).1, (outT B).2)
  | [], B, _ => rfl
  | (x, m) :: A, B, h => by
    have hm : m = 0 := h (x, m) (List.mem_cons_self ..)
    have ih := outT_app A B (fun y hy => h y (List.mem_cons_of_mem _ hy))
    subst hm
    simp [outT, ih]
theorem outT_ok : ∀ (A : List (Tok × Nat)), (∀ x ∈ A, x.2 = 0) → outT A = (A.map Prod.fst, 0, 0)
  | [], _ => rfl
  | (x, m) :: A, h => by
    have hm : m = 0 := h (x, m) (List.mem_cons_self ..)
    have ih := outT_ok A (fun y hy => h y (List.mem_cons_of_mem _ hy))
    subst hm
    simp [outT, ih]
end Go.Proofs.YtndifilhfiooaaaDoor
namespace Go.Proofs.YtndifilhfiooaaaDoor
set_option maxRecDepth 20000
set_option linter.unusedSimpArgs false
set_option linter.unusedVariables false
open Go.RowKit Go.Lib Go.Shelf
attribute [local go_sem] Oper.semAt_some
abbrev TokT : TypeId := 24
abbrev BookT : TypeId := 45
abbrev WordT : TypeId := 59
abbrev u8 (n : Int) : Value := .int .u8 n
abbrev i64 (n : Int) : Value := .int .i64 n
def tokA (x : Tok) : Array Value := #[.int .i64 (x.kind : Int), .int .i64 (x.fr : Int), .int .i64 (x.til : Int), .int .i64 x.n, .string ⟨x.s.toArray⟩]
def tokB (x : Tok) : Obj := .cells (tokA x) TokT (0, 0)
theorem rowTok : RowTy Tryd.prog TokT 5 := ⟨.inl ⟨_, Tryd.underlying24⟩, by kernel_rfl⟩
theorem rowBook : RowTy Tryd.prog BookT 2 := ⟨.inl ⟨_, Tryd.underlying45⟩, by kernel_rfl⟩
theorem rowWord : RowTy Tryd.prog WordT 2 := ⟨.inl ⟨_, Tryd.underlying59⟩, by kernel_rfl⟩
theorem al_Book (W : World) : (Instr.alloc BookT true (.tuple #[])).run Tryd.prog W = .ok (.pointer (some ⟨W.heap.size, 0, none⟩)) (W.alloc (.cells #[.map none, .map none] BookT (0, 0))) := by kernel_rfl
theorem al_Tok (W : World) : (Instr.alloc TokT true (.tuple #[])).run Tryd.prog W = .ok (.pointer (some ⟨W.heap.size, 0, none⟩)) (W.alloc (.cells #[.int .i64 0, .int .i64 0, .int .i64 0, .int .i64 0, .string ByteArray.empty] TokT (0, 0))) := by kernel_rfl
theorem al_Word (W : World) : (Instr.alloc WordT true (.tuple #[])).run Tryd.prog W = .ok (.pointer (some ⟨W.heap.size, 0, none⟩)) (W.alloc (.cells #[.int .i64 0, .string ByteArray.empty] WordT (0, 0))) := by kernel_rfl
theorem bd_Word (k : Int) (s : ByteArray) (W : World) : (Instr.build WordT #[(0, .int .i64 k), (1, .string s)]).run Tryd.prog W = .ok (.agg #[.int .i64 k, .string s]) W := by kernel_rfl
theorem bd_Book (m n : Nat) (W : World) : (Instr.build BookT #[(0, .map (some m)), (1, .map (some n))]).run Tryd.prog W = .ok (.agg #[.map (some m), .map (some n)]) W := by kernel_rfl
def sgE : Array MapEntry := #[⟨u8 123, i64 1, 0⟩, ⟨u8 125, i64 2, 1⟩, ⟨u8 91, i64 3, 2⟩, ⟨u8 93, i64 4, 3⟩, ⟨u8 44, i64 5, 4⟩, ⟨u8 58, i64 6, 5⟩]
def wdE : Array MapEntry := #[⟨u8 116, .agg #[.int .i64 7, .string ⟨#[116, 114, 117, 101]⟩], 0⟩, ⟨u8 102, .agg #[.int .i64 8, .string ⟨#[102, 97, 108, 115, 101]⟩], 1⟩, ⟨u8 110, .agg #[.int .i64 9, .string ⟨#[110, 117, 108, 108]⟩], 2⟩]
/-- The book's maps. -/
def Books (m n : Nat) (w : World) : Prop := w.heap[m]? = some (.map sgE 6) ∧ w.heap[n]? = some (.map wdE 3)
def bookV (m n : Nat) : Value := .agg #[.map (some m), .map (some n)]
theorem resB {P : Program} {w : World} {fn : Func} {tmps : Array Value} {v1 : Value} {a1 t1 b1 : Nat} (h : fn.results = #[.cell a1 t1]) (h1 : tmps.getD a1 undef = .pointer (some ⟨b1, 0, none⟩)) (l1 : (loadVar t1 ⟨b1, 0, none⟩).run P w = .ok v1 w) : (results fn tmps).run P w = .ok v1 w := by
  have g1 : tmps[a1]?.getD undef = .pointer (some ⟨b1, 0, none⟩) := by simpa using h1
  simp [results, h, g1, asAddr, l1]
set_option maxRecDepth 100000 in
set_option maxHeartbeats 4000000 in
theorem book_any (w : World) : Calls Tryd.prog 13 #[] w fun e w' => ∃ m n, e = .returned (bookV m n) ∧ Books m n w' ∧ w.heap.size ≤ m ∧ w.heap.size ≤ n ∧ Below w.heap.size w w' := by
  go_enter Tryd.func13, Tryd.ntmps13
  have hM0 := Mem.start w
  go_upto_region 0 with fail
  refine wp_region_lit ?_
  refine wl_new hM0 (f := fun b => .pointer (some ⟨b, 0, none⟩)) (fun W => run_alloc_of rfl (al_Book W)) rfl fun r W1 hM1 => ?_
  simp only [nm0, nm1, nm2, nm3]
  refine wpList_nil ?_
  go_upto_region 1 with fail
  refine wp_region_lit ?_
  refine wl_new hM1 (ob := .map #[] 0) (f := fun b => .map (some b)) (fun W => run_mkmap_of rfl W) rfl fun m W2 hM2 => ?_
  simp only [nm0, nm1, nm2, nm3]
  refine wl_ins hM2 0 (es' := #[⟨u8 123, i64 1, 0⟩]) (ck' := 1) (key := u8 123) (val := i64 1) (.inl rfl) rfl rfl rfl rfl Tryd.underlying42 Tryd.underlying5 rfl rfl rfl rfl rfl rfl fun W3 hM3 => ?_
  simp only [nm2, nm3] at hM3
  refine wl_ins hM3 0 (es' := #[⟨u8 123, i64 1, 0⟩, ⟨u8 125, i64 2, 1⟩]) (ck' := 2) (key := u8 125) (val := i64 2) (.inl rfl) rfl rfl rfl rfl Tryd.underlying42 Tryd.underlying5 rfl rfl rfl rfl rfl rfl fun W4 hM4 => ?_
  simp only [nm2, nm3] at hM4
  refine wl_ins hM4 0 (es' := #[⟨u8 123, i64 1, 0⟩, ⟨u8 125, i64 2, 1⟩, ⟨u8 91, i64 3, 2⟩]) (ck' := 3) (key := u8 91) (val := i64 3) (.inl rfl) rfl rfl rfl rfl Tryd.underlying42 Tryd.underlying5 rfl rfl rfl rfl rfl rfl fun W5 hM5 => ?_
  simp only [nm2, nm3] at hM5
  refine wl_ins hM5 0 (es' := #[⟨u8 123, i64 1, 0⟩, ⟨u8 125, i64 2, 1⟩, ⟨u8 91, i64 3, 2⟩, ⟨u8 93, i64 4, 3⟩]) (ck' := 4) (key := u8 93) (val := i64 4) (.inl rfl) rfl rfl rfl rfl Tryd.underlying42 Tryd.underlying5 rfl rfl rfl rfl rfl rfl fun W6 hM6 => ?_
  simp only [nm2, nm3] at hM6
  refine wl_ins hM6 0 (es' := #[⟨u8 123, i64 1, 0⟩, ⟨u8 125, i64 2, 1⟩, ⟨u8 91, i64 3, 2⟩, ⟨u8 93, i64 4, 3⟩, ⟨u8 44, i64 5, 4⟩]) (ck' := 5) (key := u8 44) (val := i64 5) (.inl rfl) rfl rfl rfl rfl Tryd.underlying42 Tryd.underlying5 rfl rfl rfl rfl rfl rfl fun W7 hM7 => ?_
  simp only [nm2, nm3] at hM7
  refine wl_ins hM7 0 (es' := #[⟨u8 123, i64 1, 0⟩, ⟨u8 125, i64 2, 1⟩, ⟨u8 91, i64 3, 2⟩, ⟨u8 93, i64 4, 3⟩, ⟨u8 44, i64 5, 4⟩, ⟨u8 58, i64 6, 5⟩]) (ck' := 6) (key := u8 58) (val := i64 6) (.inl rfl) rfl rfl rfl rfl Tryd.underlying42 Tryd.underlying5 rfl rfl rfl rfl rfl rfl fun W8 hM8 => ?_
  simp only [nm2, nm3] at hM8
  refine wl_pure (v := .map (some m)) (fun W => rfl) rfl ?_
  simp only [nm0, nm1, nm2, nm3]
  refine wl_new hM8 (ob := .map #[] 0) (f := fun b => .map (some b)) (fun W => run_mkmap_of rfl W) rfl fun n W9 hM9 => ?_
  simp only [nm0, nm1, nm2, nm3]
  refine wl_pure (v := .agg #[.int .i64 7, .string ⟨#[116, 114, 117, 101]⟩]) (fun W => run_build_of (ps := #[(0, .int .i64 7), (1, .string ⟨#[116, 114, 117, 101]⟩)]) rfl (by simp [Act.eval]) (bd_Word _ _ W)) rfl ?_
  simp only [nm0, nm1, nm2, nm3]
  refine wl_ins hM9 0 (es' := #[⟨u8 116, .agg #[.int .i64 7, .string ⟨#[116, 114, 117, 101]⟩], 0⟩]) (ck' := 1) (key := u8 116) (val := .agg #[.int .i64 7, .string ⟨#[116, 114, 117, 101]⟩]) (.inl rfl) rfl rfl rfl rfl Tryd.underlying43 Tryd.underlying5 rfl rfl rfl rfl rfl rfl fun W10 hM10 => ?_
  simp only [nm2, nm3] at hM10
  refine wl_pure (v := .agg #[.int .i64 8, .string ⟨#[102, 97, 108, 115, 101]⟩]) (fun W => run_build_of (ps := #[(0, .int .i64 8), (1, .string ⟨#[102, 97, 108, 115, 101]⟩)]) rfl (by simp [Act.eval]) (bd_Word _ _ W)) rfl ?_
  simp only [nm0, nm1, nm2, nm3]
  refine wl_ins hM10 0 (es' := #[⟨u8 116, .agg #[.int .i64 7, .string ⟨#[116, 114, 117, 101]⟩], 0⟩, ⟨u8 102, .agg #[.int .i64 8, .string ⟨#[102, 97, 108, 115, 101]⟩], 1⟩]) (ck' := 2) (key := u8 102) (val := .agg #[.int .i64 8, .string ⟨#[102, 97, 108, 115, 101]⟩]) (.inl rfl) rfl rfl rfl rfl Tryd.underlying43 Tryd.underlying5 rfl rfl rfl rfl rfl rfl fun W11 hM11 => ?_
  simp only [nm2, nm3] at hM11
  refine wl_pure (v := .agg #[.int .i64 9, .string ⟨#[110, 117, 108, 108]⟩]) (fun W => run_build_of (ps := #[(0, .int .i64 9), (1, .string ⟨#[110, 117, 108, 108]⟩)]) rfl (by simp [Act.eval]) (bd_Word _ _ W)) rfl ?_
  simp only [nm0, nm1, nm2, nm3]
  refine wl_ins hM11 0 (es' := #[⟨u8 116, .agg #[.int .i64 7, .string ⟨#[116, 114, 117, 101]⟩], 0⟩, ⟨u8 102, .agg #[.int .i64 8, .string ⟨#[102, 97, 108, 115, 101]⟩], 1⟩, ⟨u8 110, .agg #[.int .i64 9, .string ⟨#[110, 117, 108, 108]⟩], 2⟩]) (ck' := 3) (key := u8 110) (val := .agg #[.int .i64 9, .string ⟨#[110, 117, 108, 108]⟩]) (.inl rfl) rfl rfl rfl rfl Tryd.underlying43 Tryd.underlying5 rfl rfl rfl rfl rfl rfl fun W12 hM12 => ?_
  simp only [nm2, nm3] at hM12
  refine wl_pure (v := .map (some n)) (fun W => rfl) rfl ?_
  simp only [nm0, nm1, nm2, nm3]
  refine wl_pure (v := .agg #[.map (some m), .map (some n)]) (fun W => run_build_of (ps := #[(0, .map (some m)), (1, .map (some n))]) rfl (by simp [Act.eval]) (bd_Book m n W)) rfl ?_
  simp only [nm0, nm1, nm2, nm3]
  refine wl_set hM12 2 (cs := #[.map (some m), .map (some n)]) rfl rfl rfl rfl rowBook rfl (by simp [Value.oneCell']) rfl rfl fun W13 hM13 => ?_
  simp only [nm2, nm3] at hM13
  refine wpList_nil ?_
  go_wp2_with fail
  exact bodyPost_ret (resB rfl rfl (hM13.load 2 rfl rowBook)) rfl ⟨m, n, rfl, ⟨hM13.get 1 rfl, hM13.get 0 rfl⟩, hM13.low _ (List.mem_of_getElem? (i := 1) rfl), hM13.low _ (List.mem_of_getElem? (i := 0) rfl), hM13.below⟩
/-- What the words' map tells. -/
def wordV (c : Nat) : Option (Nat × List UInt8) := if c = 116 then some (7, trueL) else if c = 102 then some (8, falseL) else if c = 110 then some (9, nullL) else none
def wordA : Option (Nat × List UInt8) → Value × Bool
  | some (k, l) => (.agg #[.int .i64 (k : Int), .string ⟨l.toArray⟩], true)
  | none => (.agg #[.int .i64 0, .string ByteArray.empty], false)
theorem find_u8 (k x : Int) (v : Value) (b : Nat) (es : List MapEntry) (i : Nat) : Instr.findNow (.int .u8) (u8 k) (⟨u8 x, v, b⟩ :: es) i = if k = x then some (some (i, v)) else Instr.findNow (.int .u8) (u8 k) es (i + 1) := by
  have e1 : Instr.sameNow (.int .u8) (u8 k) (u8 x) = some (k == x) := rfl
  rw [Instr.findNow]
  simp only [e1]
  by_cases h : k = x
  · simp [h]
  · have e2 : (k == x) = false := by simpa using h
    rw [if_neg h, e2]
theorem sign_look (n : Nat) : ∃ r, Instr.findNow (.int .u8) (u8 (n : Int)) sgE.toList 0 = some r ∧ lookR (i64 0) r = (i64 (signK n : Int), decide (signK n ≠ 0)) := by
  simp only [sgE, find_u8]
  unfold signK
  by_cases h0 : n = 123
  · subst h0; exact ⟨_, rfl, rfl⟩
  rw [if_neg (by omega), if_neg h0]
  by_cases h1 : n = 125
  · subst h1; exact ⟨_, rfl, rfl⟩
  rw [if_neg (by omega), if_neg h1]
  by_cases h2 : n = 91
  · subst h2; exact ⟨_, rfl, rfl⟩
  rw [if_neg (by omega), if_neg h2]
  by_cases h3 : n = 93
  · subst h3; exact ⟨_, rfl, rfl⟩
  rw [if_neg (by omega), if_neg h3]
  by_cases h4 : n = 44
  · subst h4; exact ⟨_, rfl, rfl⟩
  rw [if_neg (by omega), if_neg h4]
  by_cases h5 : n = 58
  · subst h5; exact ⟨_, rfl, rfl⟩
  rw [if_neg (by omega), if_neg h5]
  exact ⟨none, rfl, rfl⟩
theorem word_look (n : Nat) : ∃ r, Instr.findNow (.int .u8) (u8 (n : Int)) wdE.toList 0 = some r ∧ lookR (.agg #[.int .i64 0, .string ByteArray.empty]) r = wordA (wordV n) := by
  simp only [wdE, find_u8]
  unfold wordV
  by_cases h0 : n = 116
  · subst h0; exact ⟨_, rfl, rfl⟩
  rw [if_neg (by omega), if_neg h0]
  by_cases h1 : n = 102
  · subst h1; exact ⟨_, rfl, rfl⟩
  rw [if_neg (by omega), if_neg h1]
  by_cases h2 : n = 110
  · subst h2; exact ⟨_, rfl, rfl⟩
  rw [if_neg (by omega), if_neg h2]
  exact ⟨none, rfl, rfl⟩
theorem look_sign {m n : Nat} {w : World} (h : Books m n w) (c : Nat) : (Instr.lookup 42 (.map (some m)) (u8 (c : Int)) true).run Tryd.prog w = .ok (.tuple #[i64 (signK c : Int), .bool (decide (signK c ≠ 0))]) w := by
  obtain ⟨r, hf, hr⟩ := sign_look c
  have := run_look (P := Tryd.prog) (z := i64 0) Tryd.underlying42 Tryd.underlying5 h.1 (key := u8 (c : Int)) rfl (Tryd.zeroValue3 w) hf true
  rw [if_pos rfl, hr] at this
  exact this
theorem look_word {m n : Nat} {w : World} (h : Books m n w) (c : Nat) : (Instr.lookup 43 (.map (some n)) (u8 (c : Int)) true).run Tryd.prog w = .ok (.tuple #[(wordA (wordV c)).1, .bool (wordA (wordV c)).2]) w := by
  obtain ⟨r, hf, hr⟩ := word_look c
  have := run_look (P := Tryd.prog) (z := .agg #[.int .i64 0, .string ByteArray.empty]) Tryd.underlying43 Tryd.underlying5 h.2 (key := u8 (c : Int)) rfl (Tryd.zeroValue59 w) hf true
  rw [if_pos rfl, hr] at this
  exact this
theorem Books.keep {m n : Nat} {w w' : World} (h : Books m n w) (h1 : w'.heap[m]? = w.heap[m]?) (h2 : w'.heap[n]? = w.heap[n]?) : Books m n w' := ⟨h1.trans h.1, h2.trans h.2⟩
theorem Books.lt {m n : Nat} {w : World} (h : Books m n w) : m < w.heap.size ∧ n < w.heap.size := ⟨(Array.getElem?_eq_some_iff.1 h.1).1, (Array.getElem?_eq_some_iff.1 h.2).1⟩
theorem wordK_v (t : ByteArray) (a : Nat) : wordK t a = match wordV (gb t a) with
    | none => (0, 0)
    | some (k, l) => if lets t a l = true then (k, l.length) else (0, 0) := by
  unfold wordV
  by_cases h1 : gb t a = 116
  · rw [if_pos h1, wordK_t h1]; rfl
  by_cases h2 : gb t a = 102
  · rw [if_neg h1, if_pos h2, wordK_f h2]; rfl
  by_cases h3 : gb t a = 110
  · rw [if_neg h1, if_neg h2, if_pos h3, wordK_n h3]; rfl
  · rw [if_neg h1, if_neg h2, if_neg h3, wordK_no h1 h2 h3]
end Go.Proofs.YtndifilhfiooaaaDoor
namespace Go.Proofs.YtndifilhfiooaaaDoor
set_option maxRecDepth 20000
set_option linter.unusedSimpArgs false
set_option linter.unusedVariables false
open Go.RowKit
section
variable {P : Program} {a : Act} {w : World} {Q : Exit → Act → World → Prop}
@[go_sem] theorem jump_ret (l : Nat) (J : Act → World → Prop) : Exit.jump l J Q .ret a w = Q .ret a w := rfl
@[go_sem] theorem jump_normal (l : Nat) (J : Act → World → Prop) : Exit.jump l J Q .normal a w = Q .normal a w := rfl
@[go_sem] theorem jump_exit (l id : Nat) (J : Act → World → Prop) : Exit.jump l J Q (.exit id) a w = Q (.exit id) a w := rfl
/-- A scope in which each goto leads forward to one label, behind which there is none. -/
theorem wp_scope_fwd {c rest : Code} (l : Nat) (hf : findLabel c l = some rest)
    (first : c.wp P (Exit.jump l (fun a' w' => rest.wp P (Exit.noGoto Q) a' w') Q) a w) : (Code.scope c).wp P Q a w := by
  refine wp_scope_jumps l (fun a' w' => rest.wp P (Exit.noGoto Q) a' w') (fun _ _ => 0) hf first ?_
  intro a w h b k cs
  obtain ⟨e, a₁, w₁, hq, harr⟩ := h b k cs
  refine ⟨e, a₁, w₁, ?_, harr⟩
  cases e with
  | goto l => exact hq.elim
  | _ => exact hq
end
theorem digit_any (x : Int) (w : World) :
    Calls Tryd.prog 44 #[.int .u8 x] w fun e w' => e = .returned (.bool (decide (48 ≤ x) && decide (x ≤ 57))) ∧ w = w' := by
  by_cases h1 : 48 ≤ x
  · by_cases h2 : x ≤ 57
    all_goals
      go_enter Tryd.func44, Tryd.ntmps44
      go_wp2
      go_ret
      exact ⟨ret_bool (by simp [h1, h2]), rfl⟩
  · go_enter Tryd.func44, Tryd.ntmps44
    go_wp2
    go_ret
    have h3 : decide (48 ≤ x) = false := by simpa using h1
    exact ⟨ret_bool (by rw [h3]; rfl), rfl⟩
theorem scan_out (s : ByteArray) (p : Int) (w : World) (hp : p < 0 ∨ (s.size : Int) < p) (hs : s.size ≤ 140737488355328) :
    Calls Tryd.prog 32 #[.string s, .int .i64 p] w fun e w' => e = retI (0, 0, 1) ∧ Below w.heap.size w w' := by
  rcases hp with hp | hp
  · go_enter Tryd.func32, Tryd.ntmps32
    go_wp2_with fail
    refine wp_scope_fwd 0 rfl ?_
    go_wp2_with fail
    go_step3
    refine ⟨rfl, ?_⟩
    go_wp2_with fail
    try rw [Exit.noGoto_ret]
    go_ret3
    exact ⟨rfl, Below.refl _ _⟩
  · have hp0 : ¬ p < 0 := by omega
    go_enter Tryd.func32, Tryd.ntmps32
    go_wp2_with fail
    refine wp_scope_fwd 0 rfl ?_
    go_wp2_with fail
    go_step3
    refine ⟨rfl, ?_⟩
    go_wp2_with fail
    try rw [Exit.noGoto_ret]
    go_ret3
    exact ⟨rfl, Below.refl _ _⟩
theorem scan_un6 (s : ByteArray) (f : Nat) (w : World) (hf : f ≤ s.size) (hm : gb s f ≠ 45) (hd : f < s.size → isD (gb s f) = false) (hs : s.size ≤ 140737488355328) :
    Calls Tryd.prog 32 #[.string s, .int .i64 (f : Int)] w fun e w' => e = retI (scanF s f 0) ∧ Below w.heap.size w w' := by
  have hp0 : ¬ (f : Int) < 0 := by omega
  have hp1 : ¬ (s.size : Int) < f := by omega
  rcases Nat.lt_or_ge f s.size with h | h
  · have g0 := gb_at s f h
    have nat0 : (f : Int).toNat = f := by omega
    have q1 : (f : Int) < (s.size : Int) := by omega
    have q2 : ¬ (f : Int) = (s.size : Int) := by omega
    have q3 : ¬ (gb s f : Int) = 45 := by omega
    have g1 := gb_lt s f
    have hd := hd h
    · have E1 := Lib.hid (scanF_6 (sg := 0) h hd)
      have D1 : (decide (48 ≤ (gb s f : Int)) && decide ((gb s f : Int) ≤ 57)) = false := by have := isD_no hd; simp; omega
      clear hd
      go_enter Tryd.func32, Tryd.ntmps32
      go_wp2_with fail
      refine wp_scope_fwd 0 rfl ?_
      go_wp2_with (go_at_call 44; refine (digit_any _ _).mono ?_; rintro e w' ⟨rfl, rfl⟩)
      go_step3
      refine ⟨rfl, ?_⟩
      go_wp2_with fail
      try rw [Exit.noGoto_ret]
      go_ret3
      exact ⟨(congrArg retI E1.out).symm, Below.refl _ _⟩
  · have E1 := Lib.hid (scanF_5 (sg := 0) (show f = s.size by omega))
    have q2 : (f : Int) = (s.size : Int) := by omega
    have q1 : ¬ (f : Int) < (s.size : Int) := by omega
    go_enter Tryd.func32, Tryd.ntmps32
    go_wp2_with fail
    refine wp_scope_fwd 0 rfl ?_
    go_wp2_with fail
    go_step3
    refine ⟨rfl, ?_⟩
    go_wp2_with fail
    try rw [Exit.noGoto_ret]
    go_ret3
    exact ⟨(congrArg retI E1.out).symm, Below.refl _ _⟩
end Go.Proofs.YtndifilhfiooaaaDoor
namespace Go.Proofs.YtndifilhfiooaaaDoor
set_option maxRecDepth 20000
set_option linter.unusedSimpArgs false
set_option linter.unusedVariables false
open Go.RowKit
set_option maxHeartbeats 8000000 in
theorem scan_un (s : ByteArray) (f : Nat) (w : World) (h : f < s.size) (hm : gb s f ≠ 45) (hd : isD (gb s f) = true) (hs : s.size ≤ 140737488355328) :
    Calls Tryd.prog 32 #[.string s, .int .i64 (f : Int)] w fun e w' => e = retI (scanF s f 0) ∧ Below w.heap.size w w' := by
  have hp0 : ¬ (f : Int) < 0 := by omega
  have hp1 : ¬ (s.size : Int) < f := by omega
  have q3 : ¬ (gb s f : Int) = 45 := by omega
  have q0 : ¬ (f : Int) < (f : Int) := by omega
  have RC : (gb s f = 48 ∧ 1 < cnt s f) ∨ (gb s f = 48 ∧ cnt s f = 1 ∧ capN s f (cnt s f) ≤ 9007199254740991) ∨ (gb s f ≠ 48 ∧ 9007199254740991 < capN s f (cnt s f)) ∨ (gb s f ≠ 48 ∧ capN s f (cnt s f) ≤ 9007199254740991) := by
    have hc := scanF_pos hd
    by_cases e48 : gb s f = 48
    · by_cases h1 : 1 < cnt s f
      · exact Or.inl ⟨e48, h1⟩
      · refine Or.inr (Or.inl ⟨e48, by omega, ?_⟩)
        rw [show cnt s f = 0 + 1 from by omega, capN, capN, if_pos (by omega), Nat.add_zero, e48]
        omega
    · omega
  have g0 := gb_at s f h
  have nat0 : (f : Int).toNat = f := by omega
  have q1 : (f : Int) < (s.size : Int) := by omega
  have q2 : ¬ (f : Int) = (s.size : Int) := by omega
  have g1 := gb_lt s f
  have hc := scanF_pos hd
  have D1 : (decide (48 ≤ (gb s f : Int)) && decide ((gb s f : Int) ≤ 57)) = true := by have := isD_yes hd; simp; omega
  have CL := cap_lt s f (cnt s f)
  have neg : IntKind.i64.wrap (-(capN s f (cnt s f) : Int)) = -(capN s f (cnt s f) : Int) := IntWalk.i64_in _ (by omega)
  clear hd
  go_enter Tryd.func32, Tryd.ntmps32
  go_wp2_with fail
  refine wp_scope_fwd 0 rfl ?_
  go_wp2_with (go_at_call 44; refine (digit_any _ _).mono ?_; rintro e w' ⟨rfl, rfl⟩)
  go_step3
  go_wp2_with fail
  go_loopw [4, 5] (fun n i wr => ∃ k : Nat, k ≤ cnt s f ∧ i = .int .i64 ((f + k : Nat) : Int) ∧ n = .int .i64 (capN s f k : Int) ∧ Below w.heap.size w wr) (fun _ i _ => s.size - (intOf i).toNat)
  case atStart => exact ⟨0, by omega, rfl, rfl, Below.refl _ _⟩
  case round =>
    obtain ⟨k, hk, rfl, rfl, hb⟩ := hrel
    obtain ⟨p, hp⟩ : ∃ p, p = f + k := ⟨_, rfl⟩
    rw [← hp]
    have natp : (p : Int).toNat = p := by omega
    have wf1 : IntKind.i64.wrap ((f : Int) + 1) = (f : Int) + 1 := IntWalk.i64_in _ (by omega)
    by_cases hlt : p < s.size
    · have gp := gb_at s p hlt
      have gpl := gb_lt s p
      have p1 : (p : Int) < (s.size : Int) := by omega
      cases hE : isE (gb s p)
      · have x1 : ¬ (gb s p : Int) = 46 := by intro x; rw [show gb s p = 46 from by omega] at hE; exact absurd hE (by decide)
        have x2 : ¬ (gb s p : Int) = 101 := by intro x; rw [show gb s p = 101 from by omega] at hE; exact absurd hE (by decide)
        have x3 : ¬ (gb s p : Int) = 69 := by intro x; rw [show gb s p = 69 from by omega] at hE; exact absurd hE (by decide)
        have b1 : ((gb s p : Int) == 46) = false := by simpa using x1
        have b2 : ((gb s p : Int) == 101) = false := by simpa using x2
        have b3 : ((gb s p : Int) == 69) = false := by simpa using x3
        cases hD : isD (gb s p)
        · have D2 : (decide (48 ≤ (gb s p : Int)) && decide ((gb s p : Int) ≤ 57)) = false := by have := isD_no hD; simp; omega
          have hk2 := cnt_same hk (by rw [← hp]; exact hD)
          subst hk2
          rw [hp] at hE
          clear hD
          rcases RC with ⟨e48, hc1⟩ | ⟨e48, hc1, hv⟩ | ⟨n48, hv⟩ | ⟨n48, hv⟩
          · have E1 := Lib.hid (scanF_0 (sg := 0) h hc e48 (Or.inl hc1))
            have r1 : (f : Int) + 1 < (p : Int) := by omega
            have rb1 : decide ((f : Int) + 1 < (p : Int)) = true := by simpa using r1
            rw [e48] at g0
            have HP := Lib.hid hp
            clear hp
            go_wp2_with (go_at_call 44; refine (digit_any _ _).mono ?_; rintro e w' ⟨rfl, rfl⟩)
            go_step3
            refine ⟨rfl, ?_⟩
            go_wp2_with (go_at_call 44; refine (digit_any _ _).mono ?_; rintro e w' ⟨rfl, rfl⟩)
            try rw [Exit.noGoto_ret]
            go_ret3
            exact ⟨(congrArg retI E1.out).symm, by assumption⟩
          · have E1 := Lib.hid (scanF_n (sg := 0) h hc hE (by omega) (by have := (cap_val s f (cnt s f)).1 hv; omega))
            have r1 : ¬ (f : Int) + 1 < (p : Int) := by omega
            clear hc1
            have rb1 : decide ((f : Int) + 1 < (p : Int)) = false := by simpa using r1
            have r2 : ¬ 9007199254740991 < (capN s f (cnt s f) : Int) := by omega
            have V := Lib.hid ((cap_val s f (cnt s f)).1 hv)
            rw [e48] at g0
            have HP := Lib.hid hp
            clear hp
            go_wp2_with (go_at_call 44; refine (digit_any _ _).mono ?_; rintro e w' ⟨rfl, rfl⟩)
            try rw [jump_ret]
            go_ret3
            exact ⟨by rw [E1.out, ← V.out, ← HP.out]; rfl, by assumption⟩
          · have E1 := Lib.hid (scanF_2 (sg := 0) h hc hE (by omega) ((cap_val s f (cnt s f)).2 hv))
            have r3 : ¬ (gb s f : Int) = 48 := by omega
            have rb3 : ((gb s f : Int) == 48) = false := by simpa using r3
            have r2 : 9007199254740991 < (capN s f (cnt s f) : Int) := by omega
            have HP := Lib.hid hp
            clear hp
            go_wp2_with (go_at_call 44; refine (digit_any _ _).mono ?_; rintro e w' ⟨rfl, rfl⟩)
            go_step3
            refine ⟨rfl, ?_⟩
            go_wp2_with (go_at_call 44; refine (digit_any _ _).mono ?_; rintro e w' ⟨rfl, rfl⟩)
            try rw [Exit.noGoto_ret]
            go_ret3
            exact ⟨(congrArg retI E1.out).symm, by assumption⟩
          · have E1 := Lib.hid (scanF_n (sg := 0) h hc hE (by omega) (by have := (cap_val s f (cnt s f)).1 hv; omega))
            have r3 : ¬ (gb s f : Int) = 48 := by omega
            have rb3 : ((gb s f : Int) == 48) = false := by simpa using r3
            have r2 : ¬ 9007199254740991 < (capN s f (cnt s f) : Int) := by omega
            have V := Lib.hid ((cap_val s f (cnt s f)).1 hv)
            have HP := Lib.hid hp
            clear hp
            go_wp2_with (go_at_call 44; refine (digit_any _ _).mono ?_; rintro e w' ⟨rfl, rfl⟩)
            try rw [jump_ret]
            go_ret3
            exact ⟨by rw [E1.out, ← V.out, ← HP.out]; rfl, by assumption⟩
        · have D2 : (decide (48 ≤ (gb s p : Int)) && decide ((gb s p : Int) ≤ 57)) = true := by have := isD_yes hD; simp; omega
          have hk2 := cnt_more hk (by rw [← hp]; exact hD)
          obtain ⟨y1, y2⟩ := isD_yes hD
          have o1 : IntKind.u8.wrap ((gb s p : Int) - 48) = (gb s p : Int) - 48 := by rw [IntKind.wrap_u8']; omega
          have o2 : IntKind.i64.wrap ((gb s p : Int) - 48) = (gb s p : Int) - 48 := IntWalk.i64_in _ (by omega)
          have o5 : IntKind.i64.wrap ((p : Int) + 1) = (p : Int) + 1 := IntWalk.i64_in _ (by omega)
          by_cases hM : capN s f k ≤ 9007199254740991
          · have o0 : (capN s f k : Int) ≤ 9007199254740991 := by omega
            have o3 : IntKind.i64.wrap (10 * (capN s f k : Int)) = 10 * (capN s f k : Int) := IntWalk.i64_in _ (by omega)
            have o4 : IntKind.i64.wrap (10 * (capN s f k : Int) + ((gb s p : Int) - 48)) = 10 * (capN s f k : Int) + ((gb s p : Int) - 48) := IntWalk.i64_in _ (by omega)
            have C1 := Lib.hid (show (capN s f (k + 1) : Int) = 10 * (capN s f k : Int) + ((gb s p : Int) - 48) by rw [capN, if_pos hM, ← hp]; omega)
            clear hD RC CL
            have HP := Lib.hid hp
            clear hp
            go_wp2_with (go_at_call 44; refine (digit_any _ _).mono ?_; rintro e w' ⟨rfl, rfl⟩)
            go_roundw
            case rel => exact ⟨k + 1, hk2, congrArg (Value.int .i64) (by have := HP.out; omega), congrArg (Value.int .i64) C1.out.symm, by assumption⟩
            case measure => simp [intOf]; omega
          · have o0 : ¬ (capN s f k : Int) ≤ 9007199254740991 := by omega
            have C1 := Lib.hid (show (capN s f (k + 1) : Int) = (capN s f k : Int) by rw [capN, if_neg hM])
            clear hD RC CL
            have HP := Lib.hid hp
            clear hp
            go_wp2_with (go_at_call 44; refine (digit_any _ _).mono ?_; rintro e w' ⟨rfl, rfl⟩)
            go_roundw
            case rel => exact ⟨k + 1, hk2, congrArg (Value.int .i64) (by have := HP.out; omega), congrArg (Value.int .i64) C1.out.symm, by assumption⟩
            case measure => simp [intOf]; omega
      · have hk2 := cnt_same hk (by rw [← hp]; exact isE_notD hE)
        subst hk2
        have E1 := Lib.hid (scanF_e (sg := 0) h hc (by rw [← hp]; exact hE))
        have hx : gb s p = 46 ∨ gb s p = 101 ∨ gb s p = 69 := by
          simp [isE] at hE
          omega
        clear hE RC
        have HP := Lib.hid hp
        clear hp
        rcases hx with hx | hx | hx
        all_goals
          rw [hx] at gp
          go_wp2_with fail
          go_step3
          refine ⟨rfl, ?_⟩
          go_wp2_with fail
          try rw [Exit.noGoto_ret]
          go_ret3
          exact ⟨(congrArg retI E1.out).symm, by assumption⟩
    · have p1 : ¬ (p : Int) < (s.size : Int) := by omega
      have hp2 := gb_out s p (by omega)
      have hk2 := cnt_same hk (by rw [← hp, hp2]; rfl)
      subst hk2
      have hE : isE (gb s (f + cnt s f)) = false := by rw [← hp, hp2]; rfl
      rcases RC with ⟨e48, hc1⟩ | ⟨e48, hc1, hv⟩ | ⟨n48, hv⟩ | ⟨n48, hv⟩
      · have E1 := Lib.hid (scanF_0 (sg := 0) h hc e48 (Or.inl hc1))
        have r1 : (f : Int) + 1 < (p : Int) := by omega
        have rb1 : decide ((f : Int) + 1 < (p : Int)) = true := by simpa using r1
        rw [e48] at g0
        have HP := Lib.hid hp
        clear hp
        go_wp2_with fail
        go_step3
        refine ⟨rfl, ?_⟩
        go_wp2_with fail
        try rw [Exit.noGoto_ret]
        go_ret3
        exact ⟨(congrArg retI E1.out).symm, by assumption⟩
      · have E1 := Lib.hid (scanF_n (sg := 0) h hc hE (by omega) (by have := (cap_val s f (cnt s f)).1 hv; omega))
        have r1 : ¬ (f : Int) + 1 < (p : Int) := by omega
        clear hc1
        have rb1 : decide ((f : Int) + 1 < (p : Int)) = false := by simpa using r1
        have r2 : ¬ 9007199254740991 < (capN s f (cnt s f) : Int) := by omega
        have V := Lib.hid ((cap_val s f (cnt s f)).1 hv)
        rw [e48] at g0
        have HP := Lib.hid hp
        clear hp
        go_wp2_with fail
        try rw [jump_ret]
        go_ret3
        exact ⟨by rw [E1.out, ← V.out, ← HP.out]; rfl, by assumption⟩
      · have E1 := Lib.hid (scanF_2 (sg := 0) h hc hE (by omega) ((cap_val s f (cnt s f)).2 hv))
        have r3 : ¬ (gb s f : Int) = 48 := by omega
        have rb3 : ((gb s f : Int) == 48) = false := by simpa using r3
        have r2 : 9007199254740991 < (capN s f (cnt s f) : Int) := by omega
        have HP := Lib.hid hp
        clear hp
        go_wp2_with fail
        go_step3
        refine ⟨rfl, ?_⟩
        go_wp2_with fail
        try rw [Exit.noGoto_ret]
        go_ret3
        exact ⟨(congrArg retI E1.out).symm, by assumption⟩
      · have E1 := Lib.hid (scanF_n (sg := 0) h hc hE (by omega) (by have := (cap_val s f (cnt s f)).1 hv; omega))
        have r3 : ¬ (gb s f : Int) = 48 := by omega
        have rb3 : ((gb s f : Int) == 48) = false := by simpa using r3
        have r2 : ¬ 9007199254740991 < (capN s f (cnt s f) : Int) := by omega
        have V := Lib.hid ((cap_val s f (cnt s f)).1 hv)
        have HP := Lib.hid hp
        clear hp
        go_wp2_with fail
        try rw [jump_ret]
        go_ret3
        exact ⟨by rw [E1.out, ← V.out, ← HP.out]; rfl, by assumption⟩
end Go.Proofs.YtndifilhfiooaaaDoor
namespace Go.Proofs.YtndifilhfiooaaaDoor
set_option maxRecDepth 20000
set_option linter.unusedSimpArgs false
set_option linter.unusedVariables false
open Go.RowKit
set_option maxHeartbeats 8000000 in
theorem scan_si (s : ByteArray) (a f : Nat) (w : World) (hf : f = a + 1) (h : f < s.size) (hm : gb s a = 45) (hd : isD (gb s f) = true) (hs : s.size ≤ 140737488355328) :
    Calls Tryd.prog 32 #[.string s, .int .i64 (a : Int)] w fun e w' => e = retI (scanF s f 1) ∧ Below w.heap.size w w' := by
  have hp0 : ¬ (a : Int) < 0 := by omega
  have hp1 : ¬ (s.size : Int) < a := by omega
  have q0 : (a : Int) < (f : Int) := by omega
  have ha : a < s.size := by omega
  have ga := (gb_at s a ha).trans hm
  have nata : (a : Int).toNat = a := by omega
  have q3 : (a : Int) < (s.size : Int) := by omega
  have wf : IntKind.i64.wrap ((a : Int) + 1) = (f : Int) := by rw [IntWalk.i64_in _ (by omega)]; omega
  have sf : (a : Int) + 1 = (f : Int) := by omega
  have RC : (gb s f = 48) ∨ (gb s f ≠ 48 ∧ 9007199254740991 < capN s f (cnt s f)) ∨ (gb s f ≠ 48 ∧ capN s f (cnt s f) ≤ 9007199254740991) := by omega
  clear hf
  have g0 := gb_at s f h
  have nat0 : (f : Int).toNat = f := by omega
  have q1 : (f : Int) < (s.size : Int) := by omega
  have q2 : ¬ (f : Int) = (s.size : Int) := by omega
  have g1 := gb_lt s f
  have hc := scanF_pos hd
  have D1 : (decide (48 ≤ (gb s f : Int)) && decide ((gb s f : Int) ≤ 57)) = true := by have := isD_yes hd; simp; omega
  have CL := cap_lt s f (cnt s f)
  have neg : IntKind.i64.wrap (-(capN s f (cnt s f) : Int)) = -(capN s f (cnt s f) : Int) := IntWalk.i64_in _ (by omega)
  clear hd
  go_enter Tryd.func32, Tryd.ntmps32
  go_wp2_with fail
  refine wp_scope_fwd 0 rfl ?_
  go_wp2_with (go_at_call 44; refine (digit_any _ _).mono ?_; rintro e w' ⟨rfl, rfl⟩)
  go_step3
  go_wp2_with fail
  go_loopw [4, 5] (fun n i wr => ∃ k : Nat, k ≤ cnt s f ∧ i = .int .i64 ((f + k : Nat) : Int) ∧ n = .int .i64 (capN s f k : Int) ∧ Below w.heap.size w wr) (fun _ i _ => s.size - (intOf i).toNat)
  case atStart => exact ⟨0, by omega, rfl, rfl, Below.refl _ _⟩
  case round =>
    obtain ⟨k, hk, rfl, rfl, hb⟩ := hrel
    obtain ⟨p, hp⟩ : ∃ p, p = f + k := ⟨_, rfl⟩
    rw [← hp]
    have natp : (p : Int).toNat = p := by omega
    have wf1 : IntKind.i64.wrap ((f : Int) + 1) = (f : Int) + 1 := IntWalk.i64_in _ (by omega)
    by_cases hlt : p < s.size
    · have gp := gb_at s p hlt
      have gpl := gb_lt s p
      have p1 : (p : Int) < (s.size : Int) := by omega
      cases hE : isE (gb s p)
      · have x1 : ¬ (gb s p : Int) = 46 := by intro x; rw [show gb s p = 46 from by omega] at hE; exact absurd hE (by decide)
        have x2 : ¬ (gb s p : Int) = 101 := by intro x; rw [show gb s p = 101 from by omega] at hE; exact absurd hE (by decide)
        have x3 : ¬ (gb s p : Int) = 69 := by intro x; rw [show gb s p = 69 from by omega] at hE; exact absurd hE (by decide)
        have b1 : ((gb s p : Int) == 46) = false := by simpa using x1
        have b2 : ((gb s p : Int) == 101) = false := by simpa using x2
        have b3 : ((gb s p : Int) == 69) = false := by simpa using x3
        cases hD : isD (gb s p)
        · have D2 : (decide (48 ≤ (gb s p : Int)) && decide ((gb s p : Int) ≤ 57)) = false := by have := isD_no hD; simp; omega
          have hk2 := cnt_same hk (by rw [← hp]; exact hD)
          subst hk2
          rw [hp] at hE
          clear hD
          rcases RC with e48 | ⟨n48, hv⟩ | ⟨n48, hv⟩
          · have E1 := Lib.hid (scanF_0 (sg := 1) h hc e48 (Or.inr rfl))
            rw [e48] at g0
            have HP := Lib.hid hp
            clear hp
            by_cases r1 : (f : Int) + 1 < (p : Int)
            · have rb1 : decide ((f : Int) + 1 < (p : Int)) = true := by simpa using r1
              go_wp2_with (go_at_call 44; refine (digit_any _ _).mono ?_; rintro e w' ⟨rfl, rfl⟩)
              go_step3
              refine ⟨rfl, ?_⟩
              go_wp2_with (go_at_call 44; refine (digit_any _ _).mono ?_; rintro e w' ⟨rfl, rfl⟩)
              try rw [Exit.noGoto_ret]
              go_ret3
              exact ⟨(congrArg retI E1.out).symm, by assumption⟩
            · have rb1 : decide ((f : Int) + 1 < (p : Int)) = false := by simpa using r1
              go_wp2_with (go_at_call 44; refine (digit_any _ _).mono ?_; rintro e w' ⟨rfl, rfl⟩)
              go_step3
              refine ⟨rfl, ?_⟩
              go_wp2_with (go_at_call 44; refine (digit_any _ _).mono ?_; rintro e w' ⟨rfl, rfl⟩)
              try rw [Exit.noGoto_ret]
              go_ret3
              exact ⟨(congrArg retI E1.out).symm, by assumption⟩
          · have E1 := Lib.hid (scanF_2 (sg := 1) h hc hE (by omega) ((cap_val s f (cnt s f)).2 hv))
            have r3 : ¬ (gb s f : Int) = 48 := by omega
            have rb3 : ((gb s f : Int) == 48) = false := by simpa using r3
            have r2 : 9007199254740991 < (capN s f (cnt s f) : Int) := by omega
            have HP := Lib.hid hp
            clear hp
            go_wp2_with (go_at_call 44; refine (digit_any _ _).mono ?_; rintro e w' ⟨rfl, rfl⟩)
            go_step3
            refine ⟨rfl, ?_⟩
            go_wp2_with (go_at_call 44; refine (digit_any _ _).mono ?_; rintro e w' ⟨rfl, rfl⟩)
            try rw [Exit.noGoto_ret]
            go_ret3
            exact ⟨(congrArg retI E1.out).symm, by assumption⟩
          · have E1 := Lib.hid (scanF_n (sg := 1) h hc hE (by omega) (by have := (cap_val s f (cnt s f)).1 hv; omega))
            have r3 : ¬ (gb s f : Int) = 48 := by omega
            have rb3 : ((gb s f : Int) == 48) = false := by simpa using r3
            have r2 : ¬ 9007199254740991 < (capN s f (cnt s f) : Int) := by omega
            have V := Lib.hid ((cap_val s f (cnt s f)).1 hv)
            have HP := Lib.hid hp
            clear hp
            go_wp2_with (go_at_call 44; refine (digit_any _ _).mono ?_; rintro e w' ⟨rfl, rfl⟩)
            try rw [jump_ret]
            go_ret3
            exact ⟨by rw [E1.out, ← V.out, ← HP.out]; rfl, by assumption⟩
        · have D2 : (decide (48 ≤ (gb s p : Int)) && decide ((gb s p : Int) ≤ 57)) = true := by have := isD_yes hD; simp; omega
          have hk2 := cnt_more hk (by rw [← hp]; exact hD)
          obtain ⟨y1, y2⟩ := isD_yes hD
          have o1 : IntKind.u8.wrap ((gb s p : Int) - 48) = (gb s p : Int) - 48 := by rw [IntKind.wrap_u8']; omega
          have o2 : IntKind.i64.wrap ((gb s p : Int) - 48) = (gb s p : Int) - 48 := IntWalk.i64_in _ (by omega)
          have o5 : IntKind.i64.wrap ((p : Int) + 1) = (p : Int) + 1 := IntWalk.i64_in _ (by omega)
          by_cases hM : capN s f k ≤ 9007199254740991
          · have o0 : (capN s f k : Int) ≤ 9007199254740991 := by omega
            have o3 : IntKind.i64.wrap (10 * (capN s f k : Int)) = 10 * (capN s f k : Int) := IntWalk.i64_in _ (by omega)
            have o4 : IntKind.i64.wrap (10 * (capN s f k : Int) + ((gb s p : Int) - 48)) = 10 * (capN s f k : Int) + ((gb s p : Int) - 48) := IntWalk.i64_in _ (by omega)
            have C1 := Lib.hid (show (capN s f (k + 1) : Int) = 10 * (capN s f k : Int) + ((gb s p : Int) - 48) by rw [capN, if_pos hM, ← hp]; omega)
            clear hD RC CL
            have HP := Lib.hid hp
            clear hp
            go_wp2_with (go_at_call 44; refine (digit_any _ _).mono ?_; rintro e w' ⟨rfl, rfl⟩)
            go_roundw
            case rel => exact ⟨k + 1, hk2, congrArg (Value.int .i64) (by have := HP.out; omega), congrArg (Value.int .i64) C1.out.symm, by assumption⟩
            case measure => simp [intOf]; omega
          · have o0 : ¬ (capN s f k : Int) ≤ 9007199254740991 := by omega
            have C1 := Lib.hid (show (capN s f (k + 1) : Int) = (capN s f k : Int) by rw [capN, if_neg hM])
            clear hD RC CL
            have HP := Lib.hid hp
            clear hp
            go_wp2_with (go_at_call 44; refine (digit_any _ _).mono ?_; rintro e w' ⟨rfl, rfl⟩)
            go_roundw
            case rel => exact ⟨k + 1, hk2, congrArg (Value.int .i64) (by have := HP.out; omega), congrArg (Value.int .i64) C1.out.symm, by assumption⟩
            case measure => simp [intOf]; omega
      · have hk2 := cnt_same hk (by rw [← hp]; exact isE_notD hE)
        subst hk2
        have E1 := Lib.hid (scanF_e (sg := 1) h hc (by rw [← hp]; exact hE))
        have hx : gb s p = 46 ∨ gb s p = 101 ∨ gb s p = 69 := by
          simp [isE] at hE
          omega
        clear hE RC
        have HP := Lib.hid hp
        clear hp
        rcases hx with hx | hx | hx
        all_goals
          rw [hx] at gp
          go_wp2_with fail
          go_step3
          refine ⟨rfl, ?_⟩
          go_wp2_with fail
          try rw [Exit.noGoto_ret]
          go_ret3
          exact ⟨(congrArg retI E1.out).symm, by assumption⟩
    · have p1 : ¬ (p : Int) < (s.size : Int) := by omega
      have hp2 := gb_out s p (by omega)
      have hk2 := cnt_same hk (by rw [← hp, hp2]; rfl)
      subst hk2
      have hE : isE (gb s (f + cnt s f)) = false := by rw [← hp, hp2]; rfl
      rcases RC with e48 | ⟨n48, hv⟩ | ⟨n48, hv⟩
      · have E1 := Lib.hid (scanF_0 (sg := 1) h hc e48 (Or.inr rfl))
        rw [e48] at g0
        have HP := Lib.hid hp
        clear hp
        by_cases r1 : (f : Int) + 1 < (p : Int)
        · have rb1 : decide ((f : Int) + 1 < (p : Int)) = true := by simpa using r1
          go_wp2_with fail
          go_step3
          refine ⟨rfl, ?_⟩
          go_wp2_with fail
          try rw [Exit.noGoto_ret]
          go_ret3
          exact ⟨(congrArg retI E1.out).symm, by assumption⟩
        · have rb1 : decide ((f : Int) + 1 < (p : Int)) = false := by simpa using r1
          go_wp2_with fail
          go_step3
          refine ⟨rfl, ?_⟩
          go_wp2_with fail
          try rw [Exit.noGoto_ret]
          go_ret3
          exact ⟨(congrArg retI E1.out).symm, by assumption⟩
      · have E1 := Lib.hid (scanF_2 (sg := 1) h hc hE (by omega) ((cap_val s f (cnt s f)).2 hv))
        have r3 : ¬ (gb s f : Int) = 48 := by omega
        have rb3 : ((gb s f : Int) == 48) = false := by simpa using r3
        have r2 : 9007199254740991 < (capN s f (cnt s f) : Int) := by omega
        have HP := Lib.hid hp
        clear hp
        go_wp2_with fail
        go_step3
        refine ⟨rfl, ?_⟩
        go_wp2_with fail
        try rw [Exit.noGoto_ret]
        go_ret3
        exact ⟨(congrArg retI E1.out).symm, by assumption⟩
      · have E1 := Lib.hid (scanF_n (sg := 1) h hc hE (by omega) (by have := (cap_val s f (cnt s f)).1 hv; omega))
        have r3 : ¬ (gb s f : Int) = 48 := by omega
        have rb3 : ((gb s f : Int) == 48) = false := by simpa using r3
        have r2 : ¬ 9007199254740991 < (capN s f (cnt s f) : Int) := by omega
        have V := Lib.hid ((cap_val s f (cnt s f)).1 hv)
        have HP := Lib.hid hp
        clear hp
        go_wp2_with fail
        try rw [jump_ret]
        go_ret3
        exact ⟨by rw [E1.out, ← V.out, ← HP.out]; rfl, by assumption⟩
end Go.Proofs.YtndifilhfiooaaaDoor
namespace Go.Proofs.YtndifilhfiooaaaDoor
set_option maxRecDepth 20000
set_option linter.unusedSimpArgs false
set_option linter.unusedVariables false
open Go.RowKit
set_option maxHeartbeats 4000000 in
theorem scan_si6 (s : ByteArray) (a f : Nat) (w : World) (hf : f = a + 1) (hfs : f ≤ s.size) (hm : gb s a = 45) (hd : f < s.size → isD (gb s f) = false) (hs : s.size ≤ 140737488355328) :
    Calls Tryd.prog 32 #[.string s, .int .i64 (a : Int)] w fun e w' => e = retI (scanF s f 1) ∧ Below w.heap.size w w' := by
  have hp0 : ¬ (a : Int) < 0 := by omega
  have hp1 : ¬ (s.size : Int) < a := by omega
  have ha : a < s.size := by omega
  have ga := (gb_at s a ha).trans hm
  have nata : (a : Int).toNat = a := by omega
  have q3 : (a : Int) < (s.size : Int) := by omega
  have wf : IntKind.i64.wrap ((a : Int) + 1) = (f : Int) := by rw [IntWalk.i64_in _ (by omega)]; omega
  have sf : (a : Int) + 1 = (f : Int) := by omega
  clear hf
  rcases Nat.lt_or_ge f s.size with h | h
  · have g0 := gb_at s f h
    have nat0 : (f : Int).toNat = f := by omega
    have q1 : (f : Int) < (s.size : Int) := by omega
    have q2 : ¬ (f : Int) = (s.size : Int) := by omega
    have g1 := gb_lt s f
    have hd := hd h
    have E1 := Lib.hid (scanF_6 (sg := 1) h hd)
    have D1 : (decide (48 ≤ (gb s f : Int)) && decide ((gb s f : Int) ≤ 57)) = false := by have := isD_no hd; simp; omega
    clear hd
    go_enter Tryd.func32, Tryd.ntmps32
    go_wp2_with fail
    refine wp_scope_fwd 0 rfl ?_
    go_wp2_with (go_at_call 44; refine (digit_any _ _).mono ?_; rintro e w' ⟨rfl, rfl⟩)
    go_step3
    refine ⟨rfl, ?_⟩
    go_wp2_with fail
    try rw [Exit.noGoto_ret]
    go_ret3
    exact ⟨(congrArg retI E1.out).symm, Below.refl _ _⟩
  · have E1 := Lib.hid (scanF_5 (sg := 1) (show f = s.size by omega))
    have q2 : (f : Int) = (s.size : Int) := by omega
    have q1 : ¬ (f : Int) < (s.size : Int) := by omega
    clear hd
    go_enter Tryd.func32, Tryd.ntmps32
    go_wp2_with fail
    refine wp_scope_fwd 0 rfl ?_
    go_wp2_with fail
    go_step3
    refine ⟨rfl, ?_⟩
    go_wp2_with fail
    try rw [Exit.noGoto_ret]
    go_ret3
    exact ⟨(congrArg retI E1.out).symm, Below.refl _ _⟩
end Go.Proofs.YtndifilhfiooaaaDoor
namespace Go.Proofs.YtndifilhfiooaaaDoor
set_option maxRecDepth 20000
set_option linter.unusedSimpArgs false
set_option linter.unusedVariables false
open Go.RowKit
end Go.Proofs.YtndifilhfiooaaaDoor
namespace Go.Proofs.YtndifilhfiooaaaDoor
set_option maxRecDepth 20000
set_option linter.unusedSimpArgs false
set_option linter.unusedVariables false
open Go.RowKit
end Go.Proofs.YtndifilhfiooaaaDoor
