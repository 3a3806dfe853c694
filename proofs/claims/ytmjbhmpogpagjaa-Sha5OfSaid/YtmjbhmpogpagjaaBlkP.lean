/- Buffers of layer 16: what a world holds of one; what it is to cut bytes into blocks; no walk in it. -/
import Derived.Test.YtmjbhmpogpagjaaBlkD
import Derived.Lib.BufferWrite
namespace Go.Proofs.Ytmjbhmpogpagjaa
set_option maxRecDepth 20000
set_option linter.unusedSimpArgs false
set_option linter.unusedVariables false
open Go.RowKit
/-- L is these blocks of 'size' bytes, one behind the other, and then q, which is shorter than a block. -/
def Cuts (size : Nat) (L : List UInt8) (bl : List (List UInt8)) (q : List UInt8) : Prop := L = bl.flatten ++ q ∧ (∀ b ∈ bl, b.length = size) ∧ q.length < size
theorem Cuts.one {size : Nat} : ∀ {bl bl' : List (List UInt8)} {L q q' : List UInt8}, Cuts size L bl q → Cuts size L bl' q' → bl = bl' ∧ q = q'
  | [], [], L, q, q', h, h' => ⟨rfl, by have e := h.1.symm.trans h'.1; simpa using e⟩
  | [], b :: r, L, q, q', h, h' => by
    exfalso
    have e := congrArg List.length (h.1.symm.trans h'.1)
    have hb := h'.2.1 b (by simp)
    have hq := h.2.2
    simp at e
    omega
  | b :: r, [], L, q, q', h, h' => by
    exfalso
    have e := congrArg List.length (h.1.symm.trans h'.1)
    have hb := h.2.1 b (by simp)
    have hq := h'.2.2
    simp at e
    omega
  | b :: r, b' :: r', L, q, q', h, h' => by
    have e := h.1.symm.trans h'.1
    have hb := h.2.1 b (by simp)
    have hb' := h'.2.1 b' (by simp)
    simp only [List.flatten_cons, List.append_assoc] at e
    obtain ⟨e1, e2⟩ := List.append_inj e (by omega)
    obtain ⟨i1, i2⟩ := Cuts.one (bl := r) (bl' := r') (L := r.flatten ++ q) (q := q) (q' := q') ⟨rfl, fun x hx => h.2.1 x (by simp [hx]), h.2.2⟩ ⟨e2, fun x hx => h'.2.1 x (by simp [hx]), h'.2.2⟩
    exact ⟨by rw [e1, i1], i2⟩
theorem Cuts.nil {size : Nat} {q : List UInt8} (h : q.length < size) : Cuts size q [] q := ⟨by simp, by simp, h⟩
theorem Cuts.next {size : Nat} {L L' q q' : List UInt8} {bl bl' : List (List UInt8)} (h : Cuts size L bl q) (h' : Cuts size (q ++ L') bl' q') : Cuts size (L ++ L') (bl ++ bl') q' :=
  ⟨by rw [h.1, List.append_assoc, h'.1, List.flatten_append, List.append_assoc], fun b hb => by rcases List.mem_append.1 hb with hb | hb; exact h.2.1 b hb; exact h'.2.1 b hb, h'.2.2⟩
theorem Cuts.full {size : Nat} {L q : List UInt8} {bl : List (List UInt8)} (b : List UInt8) (hb : b.length = size) (h0 : 0 < size) (h : L = bl.flatten ++ b) (hbl : ∀ b ∈ bl, b.length = size) : Cuts size L (bl ++ [b]) [] :=
  ⟨by rw [h]; simp, fun x hx => by rcases List.mem_append.1 hx with hx | hx; exact hbl x hx; have e : x = b := by simpa using hx
                                   rw [e]; exact hb, h0⟩
/-- The cells of a buffer. -/
def bufL (size fill wr : Nat) (P : List UInt8) : List Value := [.int .i64 (size : Int), .int .i64 (fill : Int), .int .i64 (wr : Int)] ++ P.map bc
/-- Block g is a buffer of blocks of 'size' bytes, which holds q; wr bytes were written. -/
def IsBuf (w : World) (g size : Nat) (q : List UInt8) (wr : Nat) : Prop := ∃ P : List UInt8, P.length = 256 ∧ P.take q.length = q ∧ w.heap[g]? = some (.cells (bufL size q.length wr P).toArray 62 (0, 0))
theorem IsBuf.of_block {w w' : World} {g size wr : Nat} {q : List UInt8} (h : IsBuf w g size q wr) (e : w'.heap[g]? = w.heap[g]?) : IsBuf w' g size q wr := by
  obtain ⟨P, h1, h2, h3⟩ := h
  exact ⟨P, h1, h2, e.trans h3⟩
theorem IsBuf.lt {w : World} {g size wr : Nat} {q : List UInt8} (h : IsBuf w g size q wr) : g < w.heap.size := by
  obtain ⟨P, h1, h2, h3⟩ := h
  apply Nat.lt_of_not_le
  intro hle
  rw [Array.getElem?_eq_none hle] at h3
  simp at h3
def strV (L : List UInt8) : Value := .string ⟨L.toArray⟩
theorem bufL_get {size fill wr : Nat} {P : List UInt8} : (bufL size fill wr P)[0]? = some (.int .i64 (size : Int)) ∧ (bufL size fill wr P)[1]? = some (.int .i64 (fill : Int)) ∧ (bufL size fill wr P)[2]? = some (.int .i64 (wr : Int)) := ⟨rfl, rfl, rfl⟩
theorem bufL_set_fill {size fill wr : Nat} {P : List UInt8} (n : Nat) : (bufL size fill wr P).set 1 (.int .i64 (n : Int)) = bufL size n wr P := rfl
theorem bufL_set_wr {size fill wr : Nat} {P : List UInt8} (n : Nat) : (bufL size fill wr P).set 2 (.int .i64 (n : Int)) = bufL size fill n P := rfl
theorem bufL_held {size fill wr : Nat} {P : List UInt8} {k : Nat} (h : k < P.length) : (bufL size fill wr P)[3 + k]? = some (bc P[k]) := by
  unfold bufL
  rw [List.getElem?_append_right (by simp), show 3 + k - [Value.int .i64 (size : Int), .int .i64 (fill : Int), .int .i64 (wr : Int)].length = k by simp, List.getElem?_map, List.getElem?_eq_getElem h]
  rfl
end Go.Proofs.Ytmjbhmpogpagjaa
