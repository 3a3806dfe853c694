/- The reference's Less and Compare (layer 3). -/
import Derived.Test.YtdggijibmpbpdaaDoorUtfE
import Derived.BigQuiet
namespace Go.Proofs.YtdggijibmpbpdaaDoor
open Go.RowKit Go.Lib
def cmpAt (a b : List UInt8) (i : Nat) : Int := Lib.compareBytes (a.drop i) (b.drop i)
theorem cmpAt_step {a b : List UInt8} {i : Nat} (ha : i < a.length) (hb : i < b.length) : cmpAt a b i = if (a.getD i 0).toNat < (b.getD i 0).toNat then -1 else if (b.getD i 0).toNat < (a.getD i 0).toNat then 1 else cmpAt a b (i + 1) := by
  unfold cmpAt
  rw [List.drop_eq_getElem_cons ha, List.drop_eq_getElem_cons hb]
  have ea : a.getD i 0 = a[i] := by rw [List.getD_eq_getElem?_getD, List.getElem?_eq_getElem ha]; rfl
  have eb : b.getD i 0 = b[i] := by rw [List.getD_eq_getElem?_getD, List.getElem?_eq_getElem hb]; rfl
  rw [ea, eb]
  rw [Lib.compareBytes]
  rfl
theorem cmpAt_end {a b : List UInt8} {i : Nat} (h : a.length ≤ i ∨ b.length ≤ i) (ha : i ≤ a.length) (hb : i ≤ b.length) : (cmpAt a b i = -1) ↔ a.length < b.length := by
  unfold cmpAt
  rcases h with h | h
  · rw [List.drop_eq_nil_of_le h]
    cases hx : b.drop i with
    | nil =>
      have := congrArg List.length hx
      rw [List.length_drop] at this
      simp at this
      constructor
      · intro h; simp [Lib.compareBytes] at h
      · intro h; omega
    | cons x t =>
      have := congrArg List.length hx
      rw [List.length_drop] at this
      simp at this
      constructor
      · intro _; omega
      · intro _; simp [Lib.compareBytes]
  · rw [List.drop_eq_nil_of_le h]
    cases hx : a.drop i with
    | nil =>
      have := congrArg List.length hx
      rw [List.length_drop] at this
      simp at this
      constructor
      · intro h; simp [Lib.compareBytes] at h
      · intro h; omega
    | cons x t =>
      have := congrArg List.length hx
      rw [List.length_drop] at this
      simp at this
      constructor
      · intro h; simp [Lib.compareBytes] at h
      · intro _; omega
theorem below_dN {B : Nat} {a w : World} (h : Below B a w) (n : Nat) : Below B a (w.drewN n) := ⟨h.os, h.tape, h.output, h.size, h.block⟩
set_option maxHeartbeats 2000000 in
theorem less_any (a b : ByteArray) (w : World) (ha : a.size ≤ 100000) (hb : b.size ≤ 100000) :
    Calls Tryd.prog 25 #[.string a, .string b] w fun e w' => e = .returned (.bool (decide (Lib.compareBytes a.data.toList b.data.toList = -1))) ∧ Below w.heap.size w w' := by
  have HX : Hid (Lib.compareBytes a.data.toList b.data.toList = cmpAt a.data.toList b.data.toList 0) := rfl
  have la : a.data.toList.length = a.size := (Lib.size_eq a).symm
  have lb : b.data.toList.length = b.size := (Lib.size_eq b).symm
  have HS : Hid (∀ i, i < a.size → i < b.size → _) := fun i h1 h2 => cmpAt_step (a := a.data.toList) (b := b.data.toList) (i := i) (by omega) (by omega)
  have HE : Hid (∀ i, (a.size ≤ i ∨ b.size ≤ i) → i ≤ a.size → i ≤ b.size → ((cmpAt a.data.toList b.data.toList i = -1) ↔ a.size < b.size)) := fun i h h1 h2 => by
    have := cmpAt_end (a := a.data.toList) (b := b.data.toList) (i := i) (by omega) (by omega) (by omega)
    rw [la, lb] at this
    exact this
  clear la lb
  obtain ⟨C, hC⟩ : ∃ C, Lib.compareBytes a.data.toList b.data.toList = C := ⟨_, rfl⟩
  rw [hC] at HX ⊢
  clear hC
  have HB0 := Lib.hid (Below.refl w.heap.size w)
  go_enter Tryd.func25, Tryd.ntmps25
  go_wp2_with fail
  go_loopw [5] (fun v W => ∃ k : Nat, k ≤ a.size ∧ k ≤ b.size ∧ v = .int .i64 (k : Int) ∧ C = cmpAt a.data.toList b.data.toList k ∧ Below w.heap.size w W) (fun v _ => a.size - (Go.RowKit.intOf v).toNat)
  case atStart => exact ⟨0, by omega, by omega, rfl, HX.out, HB0.out⟩
  case round =>
    obtain ⟨k, hk1, hk2, rfl, hc, hbe⟩ := hrel
    have HB := Lib.hid hbe
    have HC := Lib.hid hc
    clear hbe hc
    by_cases h1 : k < a.size
    · by_cases h2 : k < b.size
      · have j1 : (k : Int) < (a.size : Int) := by omega
        have j2 : (k : Int) < (b.size : Int) := by omega
        obtain ⟨x, hx⟩ : ∃ x, (a.data.toList.getD k 0).toNat = x := ⟨_, rfl⟩
        obtain ⟨y, hy⟩ : ∃ y, (b.data.toList.getD k 0).toNat = y := ⟨_, rfl⟩
        have bx : ((a[k]'h1).toNat : Int) = (x : Int) := by rw [byte_of, hx]
        have by' : ((b[k]'h2).toNat : Int) = (y : Int) := by rw [byte_of, hy]
        have HQ := Lib.hid (HS.out k h1 h2)
        rw [hx, hy] at HQ
        clear hx hy
        rcases Nat.lt_trichotomy x y with hxy | hxy | hxy
        · have d1 : ((x : Int) == (y : Int)) = false := by simp; omega
          have d2 : ¬ (x : Int) = (y : Int) := by omega
          have d4 : ¬ x = y := by omega
          have d3 : decide ((x : Int) < (y : Int)) = true := by simp; omega
          have HF : Hid (C = -1) := by
            show C = -1
            rw [HC.out, HQ.out, if_pos hxy]
          go_wp2_with fail
          go_quiet (fail)
          go_wp2_with fail
          go_quiet (fail)
          go_wp2_with fail
          go_ret
          exact ⟨by rw [HF.out]; rfl, below_dN (below_dN HB.out _) _⟩
        · subst hxy
          have HF : Hid (C = cmpAt a.data.toList b.data.toList (k + 1)) := by
            show C = _
            rw [HC.out, HQ.out, if_neg (by omega), if_neg (by omega)]
          go_wp2_with fail
          go_quiet (fail)
          go_wp2_with fail
          go_roundw
          case rel => exact ⟨k + 1, by omega, by omega, congrArg (Value.int .i64) (by omega), HF.out, below_dN HB.out _⟩
          case measure =>
            simp [Go.RowKit.intOf]
            omega
        · have d1 : ((x : Int) == (y : Int)) = false := by simp; omega
          have d2 : ¬ (x : Int) = (y : Int) := by omega
          have d4 : ¬ x = y := by omega
          have d3 : decide ((x : Int) < (y : Int)) = false := by simp; omega
          have HF : Hid (C = 1) := by
            show C = 1
            rw [HC.out, HQ.out, if_neg (by omega), if_pos hxy]
          go_wp2_with fail
          go_quiet (fail)
          go_wp2_with fail
          go_quiet (fail)
          go_wp2_with fail
          go_ret
          refine ⟨?_, below_dN (below_dN HB.out _) _⟩
          rw [HF.out]
          show Ending.returned (.bool (decide (x < y))) = _
          simp
          omega
      · have j1 : (k : Int) < (a.size : Int) := by omega
        have j2 : ¬ (k : Int) < (b.size : Int) := by omega
        have HF := Lib.hid (HE.out k (.inr (by omega)) hk1 hk2)
        go_wp2_with fail
        go_ret
        exact ⟨by rw [HC.out]; have := HF.out; simp [this], HB.out⟩
    · have j1 : ¬ (k : Int) < (a.size : Int) := by omega
      have HF := Lib.hid (HE.out k (.inl (by omega)) hk1 hk2)
      go_wp2_with fail
      go_ret
      exact ⟨by rw [HC.out]; have := HF.out; simp [this], HB.out⟩
theorem cmp_cases : ∀ (a b : List UInt8), (Lib.compareBytes a b = -1 ∨ Lib.compareBytes a b = 0 ∨ Lib.compareBytes a b = 1) ∧ Lib.compareBytes b a = - Lib.compareBytes a b
  | [], [] => by simp [Lib.compareBytes]
  | [], _ :: _ => by simp [Lib.compareBytes]
  | _ :: _, [] => by simp [Lib.compareBytes]
  | x :: a, y :: b => by
    have h := cmp_cases a b
    rw [Lib.compareBytes, Lib.compareBytes]
    by_cases h1 : x < y
    · have h2 : ¬ y < x := fun h => absurd (UInt8.lt_trans h1 h) (UInt8.lt_irrefl x)
      rw [if_pos h1, if_neg h2, if_pos h1]
      exact ⟨.inl rfl, rfl⟩
    · rw [if_neg h1]
      by_cases h2 : y < x
      · rw [if_pos h2, if_pos h2]
        exact ⟨.inr (.inr rfl), rfl⟩
      · rw [if_neg h2, if_neg h2, if_neg h1]
        exact h
set_option maxHeartbeats 2000000 in
theorem rcompare_any (a b : ByteArray) (w : World) (ha : a.size ≤ 100000) (hb : b.size ≤ 100000) :
    Calls Tryd.prog 17 #[.string a, .string b] w fun e w' => e = .returned (.int .i64 (Lib.compareBytes a.data.toList b.data.toList)) ∧ Below w.heap.size w w' := by
  have h := cmp_cases a.data.toList b.data.toList
  have K1 := Lib.hid (fun w => less_any a b w ha hb)
  have K2 := Lib.hid (fun w => less_any b a w hb ha)
  rw [h.2] at K2
  obtain ⟨h, -⟩ := h
  generalize Lib.compareBytes a.data.toList b.data.toList = C at *
  rcases h with rfl | rfl | rfl
  · rw [show decide ((-1 : Int) = (-1 : Int)) = true from rfl] at K1
    rw [show decide (-(-1 : Int) = (-1 : Int)) = false from rfl] at K2
    go_enter Tryd.func17, Tryd.ntmps17
    go_wp2_with fail
    refine (K1.out _).mono ?_
    rintro e w1 ⟨rfl, hb1⟩
    go_wp2_with fail
    go_ret
    exact ⟨rfl, hb1⟩
  · rw [show decide ((0 : Int) = (-1 : Int)) = false from rfl] at K1
    rw [show decide (-(0 : Int) = (-1 : Int)) = false from rfl] at K2
    go_enter Tryd.func17, Tryd.ntmps17
    go_wp2_with fail
    refine (K1.out _).mono ?_
    rintro e w1 ⟨rfl, hb1⟩
    go_wp2_with fail
    refine (K2.out _).mono ?_
    rintro e w2 ⟨rfl, hb2⟩
    go_wp2_with fail
    go_ret
    exact ⟨rfl, hb1.trans (hb2.mono hb1.size)⟩
  · rw [show decide ((1 : Int) = (-1 : Int)) = false from rfl] at K1
    rw [show decide (-(1 : Int) = (-1 : Int)) = true from rfl] at K2
    go_enter Tryd.func17, Tryd.ntmps17
    go_wp2_with fail
    refine (K1.out _).mono ?_
    rintro e w1 ⟨rfl, hb1⟩
    go_wp2_with fail
    refine (K2.out _).mono ?_
    rintro e w2 ⟨rfl, hb2⟩
    go_wp2_with fail
    go_ret
    exact ⟨rfl, hb1.trans (hb2.mono hb1.size)⟩
end Go.Proofs.YtdggijibmpbpdaaDoor
