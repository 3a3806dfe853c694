/- The digits of a number, and what Scan reads of them. No program in it. -/
import Derived.Test.YtdnkpclpcelbaaaDoorLnuA
import Derived.Lib.ItoaNum
namespace Go.Proofs.YtdnkpclpcelbaaaDoor
set_option maxRecDepth 20000
set_option linter.unusedSimpArgs false
set_option linter.unusedVariables false
theorem gb_list {s : ByteArray} {L : List UInt8} (h : s.data.toList = L) (i : Nat) : gb s i = (L.getD i 0).toNat := by unfold gb; rw [h]
/-- The digits of a number, wherever they stand. -/
theorem dec_at (n : Nat) : ∀ (pre suf : List UInt8) (s : ByteArray), s.data.toList = pre ++ (Lib.decDigits n ++ suf) →
    (∀ j, j < Lib.nDigits n → isD (gb s (pre.length + j)) = true) ∧ valN s pre.length (Lib.nDigits n) = n ∧ (gb s pre.length = 48 → n = 0) := by
  induction n using Nat.strongRecOn with
  | _ n ih =>
    intro pre suf s hs
    by_cases h : n < 10
    · rw [Lib.decDigits, dif_pos h] at hs
      have g : gb s pre.length = 48 + n := by
        rw [gb_list hs]
        simp [List.getD_eq_getElem?_getD]
        omega
      rw [Lib.nDigits_small h]
      refine ⟨fun j hj => ?_, ?_, fun h48 => by omega⟩
      · rw [show j = 0 by omega, Nat.add_zero, g]
        simp [isD]; omega
      · simp only [valN, Nat.add_zero, g]; omega
    · rw [Lib.decDigits, dif_neg h, List.append_assoc] at hs
      obtain ⟨h1, h2, h3⟩ := ih (n / 10) (by omega) pre _ s hs
      have g : gb s (pre.length + Lib.nDigits (n / 10)) = 48 + n % 10 := by
        rw [gb_list hs, ← List.append_assoc, List.getD_eq_getElem?_getD, List.getElem?_append_right (by rw [List.length_append, Lib.decDigits_length]; omega)]
        simp [Lib.decDigits_length]
        omega
      rw [Lib.nDigits_big h]
      refine ⟨fun j hj => ?_, ?_, fun h48 => ?_⟩
      · by_cases e : j = Lib.nDigits (n / 10)
        · rw [e, g]; simp [isD]; omega
        · exact h1 j (by omega)
      · rw [valN, h2, g]; omega
      · have := h3 h48; omega
theorem cnt_of {s : ByteArray} {f k : Nat} (h : ∀ j, j < k → isD (gb s (f + j)) = true) (h1 : isD (gb s (f + k)) = false) : cnt s f = k := by
  have : ∀ j, j ≤ k → j ≤ cnt s f := fun j => by
    induction j with
    | zero => intro _; omega
    | succ j ih => intro hj; exact cnt_more (ih (by omega)) (h j (by omega))
  exact (cnt_same (this k (Nat.le_refl _)) h1).symm
/-- The text of a number. -/
def showB (n : Int) : ByteArray := ⟨(Lib.itoa n).toArray⟩
theorem showB_list (n : Int) : (showB n).data.toList = Lib.itoa n := by simp [showB]
theorem show_size (n : Int) : (showB n).size = (Lib.itoa n).length := by show (Lib.itoa n).toArray.size = _; simp
theorem show_scan (n : Int) : scanI (showB n) 0 = if -9007199254740991 ≤ n ∧ n ≤ 9007199254740991 then (n, ((showB n).size : Int), 0) else (0, 0, 2) := by
  have hl := showB_list n
  have hz := show_size n
  by_cases h0 : n < 0
  · rw [Lib.itoa, if_pos h0] at hl hz
    have hz' : (showB n).size = 1 + Lib.nDigits n.natAbs := by rw [hz, List.length_cons, Lib.decDigits_length]; omega
    obtain ⟨h1, h2, h3⟩ := dec_at n.natAbs [45] [] (showB n) (by rw [hl]; simp)
    have hp := Lib.nDigits_pos n.natAbs
    simp only [List.length_singleton] at h1 h2 h3
    have g0 : gb (showB n) 0 = 45 := by rw [gb_list hl]; rfl
    have ge : gb (showB n) (1 + Lib.nDigits n.natAbs) = 0 := gb_out _ _ (by omega)
    have hc : cnt (showB n) 1 = Lib.nDigits n.natAbs := cnt_of h1 (by rw [ge]; rfl)
    rw [scanI, if_neg (by omega), show Int.toNat 0 = 0 from rfl, if_pos g0, Nat.zero_add]
    have a1 : 1 < (showB n).size := by omega
    have a2 : ¬ (gb (showB n) 1 = 48 ∧ (1 < cnt (showB n) 1 ∨ 1 = 1)) := fun h => by have := h3 h.1; omega
    have a3 : isE (gb (showB n) (1 + cnt (showB n) 1)) = false := by rw [hc, ge]; rfl
    by_cases hf : -9007199254740991 ≤ n ∧ n ≤ 9007199254740991
    · rw [if_pos hf, scanF_n a1 (by omega) a3 a2 (by rw [hc, h2]; omega), hc, h2, if_pos rfl, hz']
      have : -(n.natAbs : Int) = n := by omega
      rw [this]
    · rw [if_neg hf, scanF_2 a1 (by omega) a3 a2 (by rw [hc, h2]; omega)]
  · rw [Lib.itoa, if_neg h0] at hl hz
    have hz' : (showB n).size = Lib.nDigits n.toNat := by rw [hz, Lib.decDigits_length]
    obtain ⟨h1, h2, h3⟩ := dec_at n.toNat [] [] (showB n) (by rw [hl]; simp)
    have hp := Lib.nDigits_pos n.toNat
    simp only [List.length_nil] at h1 h2 h3
    have g0 := h1 0 hp
    have ge : gb (showB n) (0 + Lib.nDigits n.toNat) = 0 := gb_out _ _ (by omega)
    have hc : cnt (showB n) 0 = Lib.nDigits n.toNat := cnt_of h1 (by rw [ge]; rfl)
    have g45 : gb (showB n) 0 ≠ 45 := fun h => by rw [Nat.add_zero, h] at g0; exact absurd g0 (by decide)
    rw [scanI, if_neg (by omega), show Int.toNat 0 = 0 from rfl, if_neg g45]
    have a1 : 0 < (showB n).size := by omega
    have a2 : ¬ (gb (showB n) 0 = 48 ∧ (1 < cnt (showB n) 0 ∨ 0 = 1)) := fun h => by
      have := h3 h.1
      rw [hc, this, Lib.nDigits_small (by omega)] at h
      omega
    have a3 : isE (gb (showB n) (0 + cnt (showB n) 0)) = false := by rw [hc, ge]; rfl
    by_cases hf : -9007199254740991 ≤ n ∧ n ≤ 9007199254740991
    · rw [if_pos hf, scanF_n a1 (by omega) a3 a2 (by rw [hc, h2]; omega), hc, h2, if_neg (by decide), hz', Nat.zero_add]
      have : (n.toNat : Int) = n := by omega
      rw [this]
    · rw [if_neg hf, scanF_2 a1 (by omega) a3 a2 (by rw [hc, h2]; omega)]
/-- The digits that stand somewhere are those of their number. -/
theorem dec_val (s : ByteArray) (f : Nat) : ∀ k, (∀ j, j < k + 1 → isD (gb s (f + j)) = true) → ¬ (gb s f = 48 ∧ 1 < k + 1) → Lib.decDigits (valN s f (k + 1)) = (List.range (k + 1)).map fun j => UInt8.ofNat (gb s (f + j))
  | 0, h, _ => by
    have := isD_yes (h 0 (by omega))
    rw [Nat.add_zero] at this
    rw [Lib.decDigits, dif_pos (by simp only [valN, Nat.add_zero]; omega)]
    simp only [valN, Nat.add_zero, List.range_succ, List.range_zero, List.nil_append, List.map_cons, List.map_nil]
    congr 2
    omega
  | k + 1, h, h0 => by
    have hd := isD_yes (h (k + 1) (by omega))
    have hf := isD_yes (h 0 (by omega))
    rw [Nat.add_zero] at hf
    have hp : 1 ≤ 10 ^ k := Nat.one_le_pow _ _ (by decide)
    have hv : 10 ^ k ≤ valN s f (k + 1) := val_ge s f (by omega) k
    have ih := dec_val s f k (fun j hj => h j (by omega)) (by omega)
    rw [valN, Lib.decDigits, dif_neg (by omega), show (10 * valN s f (k + 1) + (gb s (f + (k + 1)) - 48)) / 10 = valN s f (k + 1) by omega, ih, List.range_succ (n := k + 1), List.map_append, List.map_cons, List.map_nil]
    congr 3
    omega
theorem take_gb (s : ByteArray) (f k : Nat) (h : f + k ≤ s.size) : (s.data.toList.drop f).take k = (List.range k).map fun j => UInt8.ofNat (gb s (f + j)) := by
  have hl : s.data.toList.length = s.size := Array.length_toList
  refine List.ext_getElem (by simp; omega) fun i h1 h2 => ?_
  simp only [List.length_map, List.length_range] at h2
  simp only [List.getElem_take, List.getElem_drop, List.getElem_map, List.getElem_range]
  unfold gb
  rw [List.getD_eq_getElem?_getD, List.getElem?_eq_getElem (by omega), Option.getD_some, UInt8.ofNat_toNat]
theorem scanF_ok {s : ByteArray} {f sg : Nat} {y e : Int} (h : scanF s f sg = (y, e, 0)) :
    f ≠ s.size ∧ cnt s f ≠ 0 ∧ ¬ (gb s f = 48 ∧ (1 < cnt s f ∨ sg = 1)) ∧ y = (if sg = 1 then -(valN s f (cnt s f) : Int) else valN s f (cnt s f)) ∧ e = ((f + cnt s f : Nat) : Int) := by
  unfold scanF at h
  split at h
  · simp at h
  split at h
  · simp at h
  split at h
  · simp at h
  split at h
  · simp at h
  split at h
  · simp at h
  · rename_i a b c d e'
    simp only [Prod.mk.injEq] at h
    exact ⟨a, b, d, h.1.symm, h.2.1.symm⟩
/-- What is read is shown as it stood. -/
theorem scan_show (t : ByteArray) (y e : Int) (h : scanI t 0 = (y, e, 0)) : 0 ≤ e ∧ e ≤ t.size ∧ Lib.itoa y = t.data.toList.take e.toNat := by
  unfold scanI at h
  rw [if_neg (by omega), show Int.toNat 0 = 0 from rfl] at h
  split at h
  · rename_i h45
    obtain ⟨a, b, c, hy, he⟩ := scanF_ok h
    rw [Nat.zero_add] at *
    have hs : 0 < t.size := by
      apply Nat.lt_of_not_le
      intro hle
      rw [gb_out t 0 hle] at h45
      exact absurd h45 (by decide)
    have hle := cnt_le t 1 (by omega)
    obtain ⟨k, hk⟩ : ∃ k, cnt t 1 = k + 1 := ⟨cnt t 1 - 1, by omega⟩
    have hd := dec_val t 1 k (fun j hj => (cnt_lt t 1 j (by omega)).1) (fun hh => c ⟨hh.1, .inr rfl⟩)
    have hf := isD_yes (cnt_lt t 1 0 (by omega)).1
    have hne : gb t 1 ≠ 48 := fun hh => c ⟨hh, .inr rfl⟩
    have hv := val_ge t 1 (by rw [Nat.add_zero] at hf; omega) k
    have hp : 1 ≤ 10 ^ k := Nat.one_le_pow _ _ (by decide)
    rw [if_pos rfl, hk] at hy
    refine ⟨by omega, by omega, ?_⟩
    have ee : e.toNat = 1 + (k + 1) := by omega
    have hyn : y < 0 := by omega
    have hya : y.natAbs = valN t 1 (k + 1) := by omega
    rw [Lib.itoa, if_pos hyn, hya, hd, ee, ← take_gb t 1 (k + 1) (by omega), Nat.add_comm 1 (k + 1)]
    cases hL : t.data.toList with
    | nil => have : t.data.toList.length = t.size := Array.length_toList; rw [hL] at this; simp at this; omega
    | cons c r =>
      have : gb t 0 = c.toNat := by rw [gb_list hL]; rfl
      have h2 : c = 45 := UInt8.toNat_inj.1 (by rw [← this, h45]; rfl)
      rw [h2]
      simp
  · obtain ⟨a, b, c, hy, he⟩ := scanF_ok h
    have hle := cnt_le t 0 (by omega)
    obtain ⟨k, hk⟩ : ∃ k, cnt t 0 = k + 1 := ⟨cnt t 0 - 1, by omega⟩
    have hd := dec_val t 0 k (fun j hj => (cnt_lt t 0 j (by omega)).1) (fun hh => c ⟨hh.1, .inl (by omega)⟩)
    rw [if_neg (by decide), hk] at hy
    refine ⟨by omega, by omega, ?_⟩
    have ee : e.toNat = k + 1 := by omega
    have hyt : y.toNat = valN t 0 (k + 1) := by omega
    rw [Lib.itoa, if_neg (by omega), hyt, hd, ee, ← take_gb t 0 (k + 1) (by omega), List.drop_zero]
end Go.Proofs.YtdnkpclpcelbaaaDoor
