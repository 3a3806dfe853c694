/- The examples of layer 13. -/
import Derived.Test.YthalmomheecpcaaWidH
namespace Go.Proofs.Ythalmomheecpcaa
open Go.RowKit
def M4 : Nat := 115792089237316195423570985008687907853269984665640564039457584007913129639935
def H4 : Nat := 57896044618658097711785492504343953926634992332820282019728792003956564819968
theorem num_M4 : numV M4 = .agg #[.int .u64 18446744073709551615, .int .u64 18446744073709551615, .int .u64 18446744073709551615, .int .u64 18446744073709551615] := by kernel_rfl
theorem num_H4 : numV H4 = .agg #[.int .u64 0, .int .u64 0, .int .u64 0, .int .u64 9223372036854775808] := by kernel_rfl
theorem num_0 : numV 0 = .agg #[.int .u64 0, .int .u64 0, .int .u64 0, .int .u64 0] := by kernel_rfl
theorem num_1 : numV 1 = .agg #[.int .u64 1, .int .u64 0, .int .u64 0, .int .u64 0] := by kernel_rfl
theorem num_2 : numV 2 = .agg #[.int .u64 2, .int .u64 0, .int .u64 0, .int .u64 0] := by kernel_rfl
theorem num_3 : numV 3 = .agg #[.int .u64 3, .int .u64 0, .int .u64 0, .int .u64 0] := by kernel_rfl
theorem num_5 : numV 5 = .agg #[.int .u64 5, .int .u64 0, .int .u64 0, .int .u64 0] := by kernel_rfl
theorem add_M4 : addN M4 1 = 0 ∧ addK M4 1 = 1 := by decide +kernel
theorem M4_small1 (w : World) : Calls Try.prog 20 #[.int .u64 1] w fun e w' => e = .returned (.agg #[.int .u64 1, .int .u64 0, .int .u64 0, .int .u64 0]) ∧ Below w.heap.size w w' := by
  have h := small_any 1 w (by decide)
  rw [num_1] at h
  exact h
theorem M4_add (w : World) : Calls Try.prog 35 #[.agg #[.int .u64 18446744073709551615, .int .u64 18446744073709551615, .int .u64 18446744073709551615, .int .u64 18446744073709551615], .agg #[.int .u64 1, .int .u64 0, .int .u64 0, .int .u64 0]] w fun e w' => e = .returned (.tuple #[.agg #[.int .u64 0, .int .u64 0, .int .u64 0, .int .u64 0], .int .u64 1]) ∧ Below w.heap.size w w' := by
  have h := add_any M4 1 w (by decide +kernel) (by decide +kernel)
  rw [add_M4.1, add_M4.2, num_M4, num_1, num_0] at h
  exact h
theorem lt_cell {w : World} {b i : Nat} {v : Value} (h : w.cell? ⟨b, i, none⟩ = some v) : b < w.heap.size := by
  apply Nat.lt_of_not_le
  intro hle
  simp [World.cell?, Array.getElem?_eq_none hle] at h
def LS (B : Nat) (v0 v1 v2 v3 : Value) (w w' : World) : Prop := w'.cell? ⟨B, 0, none⟩ = some v0 ∧ w'.cell? ⟨B, 1, none⟩ = some v1 ∧ w'.cell? ⟨B, 2, none⟩ = some v2 ∧ w'.cell? ⟨B, 3, none⟩ = some v3 ∧ Below B w w'
theorem LS_call {B : Nat} {v0 v1 v2 v3 : Value} {w a b : World} (h : LS B v0 v1 v2 v3 w a) (hb : Below a.heap.size a b) : LS B v0 v1 v2 v3 w b := by
  obtain ⟨h0, h1, h2, h3, h5⟩ := h
  have h4 := lt_cell h0
  have hz := hb.size
  exact ⟨(hb.cell (p := ⟨B, 0, none⟩) h4).trans h0, (hb.cell (p := ⟨B, 1, none⟩) h4).trans h1, (hb.cell (p := ⟨B, 2, none⟩) h4).trans h2, (hb.cell (p := ⟨B, 3, none⟩) h4).trans h3, h5.trans (hb.mono (by omega))⟩
theorem LS_alloc {B : Nat} {v0 v1 v2 v3 : Value} {w a : World} (h : LS B v0 v1 v2 v3 w a) (o : Obj) : LS B v0 v1 v2 v3 w (a.alloc o) := LS_call h (gr_alloc (Below.refl _ _) o)
theorem LS_drew {B : Nat} {v0 v1 v2 v3 : Value} {w a : World} (h : LS B v0 v1 v2 v3 w a) : LS B v0 v1 v2 v3 w a.drew := ⟨h.1, h.2.1, h.2.2.1, h.2.2.2.1, h.2.2.2.2.drew⟩
theorem new_zero (w : World) (k : Nat) (hk : k < 4) : (w.alloc (.cells #[.int .u64 0, .int .u64 0, .int .u64 0, .int .u64 0] 25)).cell? ⟨w.heap.size, k, none⟩ = some (.int .u64 0) ∧ (w.alloc (.cells #[.int .u64 0, .int .u64 0, .int .u64 0, .int .u64 0] 25)).frozen? ⟨w.heap.size, k, none⟩ = false := by
  have h : (w.alloc (.cells #[.int .u64 0, .int .u64 0, .int .u64 0, .int .u64 0] 25)).heap[w.heap.size]? = some (.cells ([.int .u64 0, .int .u64 0, .int .u64 0, .int .u64 0] : List Value).toArray 25 (0, 0)) := alloc_new w _
  refine arr_get h ?_
  match k, hk with
  | 0, _ => rfl | 1, _ => rfl | 2, _ => rfl | 3, _ => rfl
end Go.Proofs.Ythalmomheecpcaa
