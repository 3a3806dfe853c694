/- Words put back as bytes are the bytes that they were read of. -/
import Derived.Test.YtoccoagkakeenaaOctJ
namespace Go.Proofs.Ytoccoagkakeenaa
open Go.RowKit
theorem ofI_toNat (b : UInt8) (z : Int) (h : z = (b.toNat : Int)) : ofI z = b := by subst h; unfold ofI; simp
theorem put4_get (a b c d : UInt8) : put4 (getN [a, b, c, d]) = [a, b, c, d] := by
  have e : getN [a, b, c, d] = (((0 * 256 + (a.toNat : Int)) * 256 + (b.toNat : Int)) * 256 + (c.toNat : Int)) * 256 + (d.toNat : Int) := rfl
  have ha := byte_bd a; have hb := byte_bd b; have hc := byte_bd c; have hd := byte_bd d
  unfold put4
  rw [e, ofI_toNat a _ (by omega), ofI_toNat b _ (by omega), ofI_toNat c _ (by omega), ofI_toNat d _ (by omega)]
theorem put8_get (a b c d e f g h : UInt8) : put8 (getN [a, b, c, d, e, f, g, h]) = [a, b, c, d, e, f, g, h] := by
  have E : getN [a, b, c, d, e, f, g, h] = (((((((0 * 256 + (a.toNat : Int)) * 256 + (b.toNat : Int)) * 256 + (c.toNat : Int)) * 256 + (d.toNat : Int)) * 256 + (e.toNat : Int)) * 256 + (f.toNat : Int)) * 256 + (g.toNat : Int)) * 256 + (h.toNat : Int) := rfl
  have ha := byte_bd a; have hb := byte_bd b; have hc := byte_bd c; have hd := byte_bd d
  have he := byte_bd e; have hf := byte_bd f; have hg := byte_bd g; have hh := byte_bd h
  rw [← (putR_8 _).1]
  simp only [putR, dk]
  rw [E]
  simp only [show ((256 ^ 7 : Nat) : Int) = 72057594037927936 from rfl, show ((256 ^ 6 : Nat) : Int) = 281474976710656 from rfl, show ((256 ^ 5 : Nat) : Int) = 1099511627776 from rfl, show ((256 ^ 4 : Nat) : Int) = 4294967296 from rfl,
    show ((256 ^ 3 : Nat) : Int) = 16777216 from rfl, show ((256 ^ 2 : Nat) : Int) = 65536 from rfl, show ((256 ^ 1 : Nat) : Int) = 256 from rfl, show ((256 ^ 0 : Nat) : Int) = 1 from rfl]
  rw [ofI_toNat a _ (by omega), ofI_toNat b _ (by omega), ofI_toNat c _ (by omega), ofI_toNat d _ (by omega), ofI_toNat e _ (by omega), ofI_toNat f _ (by omega), ofI_toNat g _ (by omega), ofI_toNat h _ (by omega)]
theorem put4_list (l : List UInt8) (h : l.length = 4) : put4 (getN l) = l := by
  match l, h with
  | [a, b, c, d], _ => exact put4_get a b c d
theorem put8_list (l : List UInt8) (h : l.length = 8) : put8 (getN l) = l := by
  match l, h with
  | [a, b, c, d, e, f, g, i], _ => exact put8_get a b c d e f g i
theorem lit8_list (l : List UInt8) (h : l.length = 8) : lit8 (getN l.reverse) = l := by
  rw [← (putR_8 _).2, (putR_8 _).1, put8_list _ (by simpa using h), List.reverse_reverse]
theorem flat_take (m : Nat) (l : List UInt8) (f : Nat → List UInt8) : ∀ n, m * n ≤ l.length → (∀ k, k < n → f k = (l.drop (m * k)).take m) → (List.range n).flatMap f = l.take (m * n)
  | 0, _, _ => by simp
  | n + 1, h, hf => by
    have h1 : m * (n + 1) = m * n + m := Nat.mul_succ m n
    rw [List.range_succ, List.flatMap_append, flat_take m l f n (by omega) (fun k hk => hf k (by omega)), h1, List.take_add]
    simp [hf n (by omega)]
/-- What is known of a row that was read of a text. -/
def RowOf (w : World) (k : IntKind) (A : Option Addr) (n cap : Nat) (X : Nat → Int) : Prop :=
  1 ≤ n → ∃ g, A = some ⟨g, 0, none⟩ ∧ g < w.heap.size ∧ n ≤ cap ∧ ∀ i, i < n → w.cell? ⟨g, i, none⟩ = some (.int k (X i))
theorem RowOf.below {w w' : World} {k : IntKind} {A : Option Addr} {n cap : Nat} {X : Nat → Int} (h : RowOf w k A n cap X) (hb : Below w.heap.size w w') : RowOf w' k A n cap X := fun h1 => by
  obtain ⟨g, e, hg, hc, hx⟩ := h h1
  exact ⟨g, e, Nat.lt_of_lt_of_le hg hb.size, hc, fun i hi => (hb.cell (p := ⟨g, i, none⟩) hg).trans (hx i hi)⟩
theorem put32_back (s : ByteArray) (A : Option Addr) (cap : Nat) (w : World) (hs : s.size ≤ 1000) (h : RowOf w .u32 A (s.size / 4) cap (fun k => getN (at4 s.data.toList k))) :
    Calls Try.prog 13 #[.slice A (s.size / 4) cap] w fun e w' => e = .returned (.string (s.extract 0 (s.size / 4 * 4))) ∧ Below w.heap.size w w' := by
  have hlen : s.data.toList.length = s.size := Array.length_toList
  have hL : (⟨((List.range (s.size / 4)).flatMap fun k => put4 (getN (at4 s.data.toList k))).toArray⟩ : ByteArray) = s.extract 0 (s.size / 4 * 4) := by
    apply ByteArray.ext
    apply Array.toList_inj.1
    rw [ByteArray.data_extract, Array.toList_extract]
    rw [flat_take 4 s.data.toList _ (s.size / 4) (by omega) (fun k hk => by
      have hl : (at4 s.data.toList k).length = 4 := by simp only [at4, List.length_take, List.length_drop]; omega
      rw [put4_list _ hl]; rfl)]
    simp [List.extract_eq_take_drop, Nat.mul_comm]
  rw [← hL]
  by_cases hn : 1 ≤ s.size / 4
  · obtain ⟨g, rfl, hg, hc, hx⟩ := h hn
    exact put32_call g 0 (s.size / 4) cap _ (fun k => getN (at4 s.data.toList k)) w (fun _ => rfl) (fun _ => hg) hc (by omega) (fun i hi => by rw [Nat.zero_add]; exact hx i hi)
  · exact put32_call 0 0 (s.size / 4) cap A (fun k => getN (at4 s.data.toList k)) w (fun h1 => absurd h1 hn) (fun h1 => absurd h1 hn) (by omega) (by omega) (fun i hi => absurd hi (by omega))
theorem put64_back (s : ByteArray) (A : Option Addr) (cap : Nat) (w : World) (hs : s.size ≤ 1000) (h : RowOf w .u64 A (s.size / 8) cap (fun k => getN (at8 s.data.toList k))) :
    Calls Try.prog 14 #[.slice A (s.size / 8) cap] w fun e w' => e = .returned (.string (s.extract 0 (s.size / 8 * 8))) ∧ Below w.heap.size w w' := by
  have hlen : s.data.toList.length = s.size := Array.length_toList
  have hL : (⟨((List.range (s.size / 8)).flatMap fun k => put8 (getN (at8 s.data.toList k))).toArray⟩ : ByteArray) = s.extract 0 (s.size / 8 * 8) := by
    apply ByteArray.ext
    apply Array.toList_inj.1
    rw [ByteArray.data_extract, Array.toList_extract]
    rw [flat_take 8 s.data.toList _ (s.size / 8) (by omega) (fun k hk => by
      have hl : (at8 s.data.toList k).length = 8 := by simp only [at8, List.length_take, List.length_drop]; omega
      rw [put8_list _ hl]; rfl)]
    simp [List.extract_eq_take_drop, Nat.mul_comm]
  rw [← hL]
  by_cases hn : 1 ≤ s.size / 8
  · obtain ⟨g, rfl, hg, hc, hx⟩ := h hn
    exact put64_call g 0 (s.size / 8) cap _ (fun k => getN (at8 s.data.toList k)) w (fun _ => rfl) (fun _ => hg) hc (by omega) (fun i hi => by rw [Nat.zero_add]; exact hx i hi)
  · exact put64_call 0 0 (s.size / 8) cap A (fun k => getN (at8 s.data.toList k)) w (fun h1 => absurd h1 hn) (fun h1 => absurd h1 hn) (by omega) (by omega) (fun i hi => absurd hi (by omega))
theorem little_back (s : ByteArray) (A : Option Addr) (cap : Nat) (w : World) (hs : s.size ≤ 1000) (h : RowOf w .u64 A (s.size / 8) cap (fun k => getN (at8 s.data.toList k).reverse)) :
    Calls Try.prog 15 #[.slice A (s.size / 8) cap] w fun e w' => e = .returned (.string (s.extract 0 (s.size / 8 * 8))) ∧ Below w.heap.size w w' := by
  have hlen : s.data.toList.length = s.size := Array.length_toList
  have hL : (⟨((List.range (s.size / 8)).flatMap fun k => lit8 (getN (at8 s.data.toList k).reverse)).toArray⟩ : ByteArray) = s.extract 0 (s.size / 8 * 8) := by
    apply ByteArray.ext
    apply Array.toList_inj.1
    rw [ByteArray.data_extract, Array.toList_extract]
    rw [flat_take 8 s.data.toList _ (s.size / 8) (by omega) (fun k hk => by
      have hl : (at8 s.data.toList k).length = 8 := by simp only [at8, List.length_take, List.length_drop]; omega
      rw [lit8_list _ hl]; rfl)]
    simp [List.extract_eq_take_drop, Nat.mul_comm]
  rw [← hL]
  by_cases hn : 1 ≤ s.size / 8
  · obtain ⟨g, rfl, hg, hc, hx⟩ := h hn
    exact little_call g 0 (s.size / 8) cap _ (fun k => getN (at8 s.data.toList k).reverse) w (fun _ => rfl) (fun _ => hg) hc (by omega) (fun i hi => by rw [Nat.zero_add]; exact hx i hi)
  · exact little_call 0 0 (s.size / 8) cap A (fun k => getN (at8 s.data.toList k).reverse) w (fun h1 => absurd h1 hn) (fun h1 => absurd h1 hn) (by omega) (by omega) (fun i hi => absurd hi (by omega))
end Go.Proofs.Ytoccoagkakeenaa
