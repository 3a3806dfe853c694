/- Small lemmas on endings that the walks of this seat share. Code points and their bytes (layer 3): the code point at the head of some bytes; what it is by the forms. No program in it. -/
import Derived.WalkKit
import Derived.WalkSpells
import Derived.WalkLawsBesides
import Derived.Lib.Hide
import Derived.Handy
import Derived.Outline
import Derived.Deep.RegionLaw
import Derived.Deep.AppendLies
import Derived.Laws.IdiomStrings
import Derived.Deep.DeepFit
import Derived.BigQuiet
import Derived.Deep.QuietTactic
import Derived.Deep.RegionHeld3
import Derived.Lib.MapLaws
import Derived.Lib.QuoteLoop
import Derived.Test.YtndifilhfiooaaaDoorRows
namespace Go.Proofs.YtndifilhfiooaaaDoor
set_option maxRecDepth 20000
set_option linter.unusedSimpArgs false
set_option linter.unusedVariables false
theorem ret_bool {a b : Bool} (h : a = b) : Ending.returned (.bool a) = .returned (.bool b) := by rw [h]
open Go.RowKit
theorem gr_alloc {w0 w1 : World} (h1 : Below w0.heap.size w0 w1) (o : Obj) : Below w0.heap.size w0 (w1.alloc o) := h1.alloc h1.size o
/-- What a walk is told of a slice of integers that came in: nil; or a row of 'cap' cells, the numbers 'zs'. -/
def IsRow (k : IntKind) (w : World) (a : Option Addr) (len cap : Nat) (zs : List Int) : Prop :=
  (a = none ∧ len = 0 ∧ cap = 0 ∧ zs = []) ∨
  ∃ x, a = some x ∧ len ≤ cap ∧ cap ≤ maxLen ∧ zs.length = cap ∧ (∀ i, i < zs.length → w.cell? (x.add i) = some (.int k (zs.getD i 0))) ∧ ∀ n ∈ zs, (Lit.int k n).wf = true
/-- The cells of a row that came in, its address taken apart. -/
theorem row_at {k : IntKind} {w : World} {x : Addr} {zs : List Int} (hcell : ∀ i, i < zs.length → w.cell? (x.add i) = some (.int k (zs.getD i 0))) (h0 : 0 < zs.length) :
    ∃ b off, x = ⟨b, off, none⟩ ∧ b < w.heap.size ∧ ∀ i, i < zs.length → w.cell? ⟨b, off + i, none⟩ = some (.int k (zs.getD i 0)) := by
  obtain ⟨b, off, spot⟩ := x
  have hc := hcell 0 h0
  have hspot : spot = none := by simpa [Addr.add] using World.cell?_spot hc
  subst hspot
  refine ⟨b, off, rfl, ?_, fun i hi => ?_⟩
  rotate_left
  · have h1 := hcell i hi
    by_cases e : i = 0
    · subst e; simpa [Addr.add] using h1
    · simpa [Addr.add, e] using h1
  apply Nat.lt_of_not_le
  intro hb
  simp [Addr.add, World.cell?, Array.getElem?_eq_none hb] at hc
/-- A byte as a cell; a number as a byte. -/
def bc (b : UInt8) : Value := .int .u8 (b.toNat : Int)
/-- 'string(b)' of a row of the call's own. -/
theorem own_string {P : Program} {w : World} {base : Nat} {t ty e : TypeId} {v : Value} {n : Nat} {L : List UInt8} (hs : P.underlying t = some (.slice e)) (he : P.underlying e = some (.int .u8)) (hd : P.underlying ty = some .string)
    (hown : w.ownsRow base e 1 v n (L.map bc)) : (convert t ty v).run P w = .ok (.string ⟨L.toArray⟩) w := by
  obtain ⟨hl, hv | ⟨g, cap, cur, rfl, _, hg, hn, _, hcur, htake⟩⟩ := hown
  · obtain ⟨rfl, rfl⟩ := hv
    have hL : L = [] := by simpa using hl
    subst hL
    rw [run_convert_bytes_string w t ty e none 0 0 hs he hd]
    rfl
  · have hL : L.length = n := by simpa using hl
    subst hL
    refine run_convert_bytes_back w t ty e ⟨g, 0, none⟩ cap L hs he hd fun j hj => ?_
    have hadd : (⟨g, 0, none⟩ : Addr).add j = ⟨g, j, none⟩ := by unfold Addr.add; split <;> simp_all
    have h1 : (cur.toList.take (L.length * 1))[j]? = some (bc L[j]) := by rw [htake]; simp [hj]
    rw [List.getElem?_take, if_pos (by omega)] at h1
    rw [hadd]
    simpa [World.cell?, hg, bc] using h1
end Go.Proofs.YtndifilhfiooaaaDoor
namespace Go.Proofs.YtndifilhfiooaaaDoor
set_option maxRecDepth 20000
set_option linter.unusedSimpArgs false
set_option linter.unusedVariables false
open Go.RowKit Go.Lib
def isCp (n : Nat) : Prop := n ≤ 1114111 ∧ (n < 55296 ∨ 57343 < n)
/-- A code point's bytes. -/
def form (n : Nat) : List UInt8 := encodeRune (n : Int)
/-- The code point at the head, and how many bytes it has. -/
def nx (l : List UInt8) : Option (Nat × Nat) := if l = [] then none else if (decodeL l).1 = 65533 ∧ (decodeL l).2 < 3 then none else some (decodeL l)
theorem nx_form {l : List UInt8} {n k : Nat} (h : nx l = some (n, k)) : isCp n ∧ form n = l.take k ∧ k ≤ l.length := by
  unfold nx at h
  split at h
  · cases h
  · rename_i hne
    split at h
    · cases h
    · rename_i hv
      have e : decodeL l = (n, k) := Option.some.inj h
      have e1 := encode_decode l hne (fun hh => hv ⟨hh.1, by omega⟩)
      have e2 := decodeL_le l hne
      have e3 : (decodeL l).1 < 55296 ∨ (57343 < (decodeL l).1 ∧ (decodeL l).1 ≤ 1114111) := by
        rw [decodeL_N]
        exact decodeN_valid _ _ _ _ _ (UInt8.toNat_lt _)
      rw [e] at e1 e2 e3
      exact ⟨⟨by rcases e3 with h | ⟨_, h⟩ <;> simp at h ⊢ <;> omega, by rcases e3 with h | ⟨h, _⟩; exact .inl h; exact .inr h⟩, e1, e2⟩
theorem by_u8 (a : Nat) (h : a < 256) : ((a : Int).toNat.toUInt8).toNat = a := by
  show (UInt8.ofNat (a : Int).toNat).toNat = a
  rw [UInt8.toNat_ofNat', Int.toNat_natCast]
  omega
/-- The bytes of a code point, case by case, as numbers. -/
theorem form_cases {n : Nat} (h : isCp n) :
    (n < 128 ∧ (form n).map UInt8.toNat = [n]) ∨
    (128 ≤ n ∧ n < 2048 ∧ (form n).map UInt8.toNat = [192 + n / 64, 128 + n % 64]) ∨
    (2048 ≤ n ∧ n < 65536 ∧ (n < 55296 ∨ 57343 < n) ∧ (form n).map UInt8.toNat = [224 + n / 4096, 128 + n / 64 % 64, 128 + n % 64]) ∨
    (65536 ≤ n ∧ n ≤ 1114111 ∧ (form n).map UInt8.toNat = [240 + n / 262144, 128 + n / 4096 % 64, 128 + n / 64 % 64, 128 + n % 64]) := by
  obtain ⟨h1, h2⟩ := h
  unfold form encodeRune encodeRuneZ
  by_cases c1 : n < 128
  · refine .inl ⟨c1, ?_⟩
    rw [if_pos ⟨by omega, by omega⟩]
    simp only [List.map_cons, List.map_nil]
    rw [by_u8 n (by omega)]
  rw [if_neg (by omega)]
  by_cases c2 : n < 2048
  · refine .inr (.inl ⟨by omega, c2, ?_⟩)
    rw [if_pos ⟨by omega, by omega⟩]
    have e1 : (192 : Int) + (n : Int) / 64 = ((192 + n / 64 : Nat) : Int) := by omega
    have e2 : (128 : Int) + (n : Int) % 64 = ((128 + n % 64 : Nat) : Int) := by omega
    rw [e1, e2]
    simp only [List.map_cons, List.map_nil]
    rw [by_u8 _ (by omega), by_u8 _ (by omega)]
  rw [if_neg (by omega)]
  by_cases c3 : n < 65536
  · refine .inr (.inr (.inl ⟨by omega, c3, h2, ?_⟩))
    rw [if_pos (by omega)]
    have e1 : (224 : Int) + (n : Int) / 4096 = ((224 + n / 4096 : Nat) : Int) := by omega
    have e2 : (128 : Int) + (n : Int) / 64 % 64 = ((128 + n / 64 % 64 : Nat) : Int) := by omega
    have e3 : (128 : Int) + (n : Int) % 64 = ((128 + n % 64 : Nat) : Int) := by omega
    rw [e1, e2, e3]
    simp only [List.map_cons, List.map_nil]
    rw [by_u8 _ (by omega), by_u8 _ (by omega), by_u8 _ (by omega)]
  rw [if_neg (by omega), if_pos ⟨by omega, by omega⟩]
  refine .inr (.inr (.inr ⟨by omega, h1, ?_⟩))
  have e1 : (240 : Int) + (n : Int) / 262144 = ((240 + n / 262144 : Nat) : Int) := by omega
  have e2 : (128 : Int) + (n : Int) / 4096 % 64 = ((128 + n / 4096 % 64 : Nat) : Int) := by omega
  have e3 : (128 : Int) + (n : Int) / 64 % 64 = ((128 + n / 64 % 64 : Nat) : Int) := by omega
  have e4 : (128 : Int) + (n : Int) % 64 = ((128 + n % 64 : Nat) : Int) := by omega
  rw [e1, e2, e3, e4]
  simp only [List.map_cons, List.map_nil]
  rw [by_u8 _ (by omega), by_u8 _ (by omega), by_u8 _ (by omega), by_u8 _ (by omega)]
/-- Some bytes at the head, as numbers. -/
theorem head_at {l t : List UInt8} {q : List Nat} (h : l = t ++ l.drop t.length) (e : t.map UInt8.toNat = q) (i : Nat) (hi : i < q.length) : (l.getD i 0).toNat = q[i] := by
  have ht : t.length = q.length := by rw [← e, List.length_map]
  have hi2 : i < t.length := by omega
  have e1 : l.getD i 0 = t[i] := by
    rw [h, List.getD_eq_getElem?_getD, List.getElem?_append_left hi2, List.getElem?_eq_getElem hi2]
    rfl
  rw [e1]
  have e2 : q[i] = (t.map UInt8.toNat)[i]'(by rw [List.length_map]; exact hi2) := by simp only [e]
  rw [e2, List.getElem_map]
theorem form_nx {l : List UInt8} {n : Nat} (hn : isCp n) (h : form n <+: l) : nx l = some (n, (form n).length) := by
  obtain ⟨r, hr⟩ := h
  have hl : l = form n ++ l.drop (form n).length := by rw [← hr, List.drop_left]
  have hlen : (form n).length ≤ l.length := by rw [← hr, List.length_append]; omega
  have hd : decodeL l = (n, (form n).length) := by
    rw [decodeL_N]
    rcases form_cases hn with ⟨c1, e⟩ | ⟨c1, c2, e⟩ | ⟨c1, c2, c3, e⟩ | ⟨c1, c2, e⟩
    · have k : (form n).length = 1 := by rw [← List.length_map (f := UInt8.toNat), e]; rfl
      have b0 := head_at hl e 0 (by simp)
      rw [k, b0]
      unfold decodeN
      simp only [List.getElem_cons_zero]
      rw [if_pos c1]
    · have k : (form n).length = 2 := by rw [← List.length_map (f := UInt8.toNat), e]; rfl
      have b0 := head_at hl e 0 (by simp)
      have b1 := head_at hl e 1 (by simp)
      rw [k, b0, b1]
      simp only [List.getElem_cons_zero, List.getElem_cons_succ]
      generalize (l.getD 2 0).toNat = x2
      generalize (l.getD 3 0).toNat = x3
      have h2 : 2 ≤ l.length := by omega
      generalize l.length = m at *
      unfold decodeN
      rw [if_neg (by omega), if_pos (by omega), if_pos (by omega)]
      congr 1
      omega
    · have k : (form n).length = 3 := by rw [← List.length_map (f := UInt8.toNat), e]; rfl
      have b0 := head_at hl e 0 (by simp)
      have b1 := head_at hl e 1 (by simp)
      have b2 := head_at hl e 2 (by simp)
      rw [k, b0, b1, b2]
      simp only [List.getElem_cons_zero, List.getElem_cons_succ]
      generalize (l.getD 3 0).toNat = x3
      have h2 : 3 ≤ l.length := by omega
      generalize l.length = m at *
      unfold decodeN
      rw [if_neg (by omega), if_neg (by omega), if_pos (by omega)]
      have ev : (224 + n / 4096) % 16 * 4096 + (128 + n / 64 % 64) % 64 * 64 + (128 + n % 64) % 64 = n := by omega
      rw [ev, if_pos (by omega)]
    · have k : (form n).length = 4 := by rw [← List.length_map (f := UInt8.toNat), e]; rfl
      have b0 := head_at hl e 0 (by simp)
      have b1 := head_at hl e 1 (by simp)
      have b2 := head_at hl e 2 (by simp)
      have b3 := head_at hl e 3 (by simp)
      rw [k, b0, b1, b2, b3]
      simp only [List.getElem_cons_zero, List.getElem_cons_succ]
      have h2 : 4 ≤ l.length := by omega
      generalize l.length = m at *
      unfold decodeN
      rw [if_neg (by omega), if_neg (by omega), if_neg (by omega), if_pos (by omega)]
      have ev : (240 + n / 262144) % 8 * 262144 + (128 + n / 4096 % 64) % 64 * 4096 + (128 + n / 64 % 64) % 64 * 64 + (128 + n % 64) % 64 = n := by omega
      rw [ev, if_pos (by omega)]
  unfold nx
  have hk : 1 ≤ (form n).length := by
    rcases form_cases hn with ⟨_, e⟩ | ⟨_, _, e⟩ | ⟨_, _, _, e⟩ | ⟨_, _, e⟩ <;> (have := congrArg List.length e; rw [List.length_map] at this; rw [this]; simp)
  rw [if_neg (by intro h0; rw [h0, List.length_nil] at hlen; omega), hd]
  rw [if_neg]
  rintro ⟨h1, h2⟩
  simp only at h1 h2
  rcases form_cases hn with ⟨c, e⟩ | ⟨c1, c2, e⟩ | ⟨c1, c2, c3, e⟩ | ⟨c1, c2, e⟩
  · omega
  · omega
  · have := congrArg List.length e
    rw [List.length_map] at this
    simp at this
    omega
  · omega
theorem form_len_pos {n : Nat} (hn : isCp n) : 1 ≤ (form n).length ∧ (form n).length ≤ 4 := by
  rcases form_cases hn with ⟨_, e⟩ | ⟨_, _, e⟩ | ⟨_, _, _, e⟩ | ⟨_, _, e⟩ <;> (have := congrArg List.length e; rw [List.length_map] at this; rw [this]; simp)
theorem nx_iff {l : List UInt8} {n k : Nat} : nx l = some (n, k) ↔ isCp n ∧ form n <+: l ∧ k = (form n).length := by
  constructor
  · intro h
    obtain ⟨h1, h2, h3⟩ := nx_form h
    refine ⟨h1, ⟨l.drop k, by rw [h2, List.take_append_drop]⟩, by rw [h2, List.length_take]; omega⟩
  · rintro ⟨h1, h2, rfl⟩
    exact form_nx h1 h2
end Go.Proofs.YtndifilhfiooaaaDoor
