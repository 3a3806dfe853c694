/- roots: what the closures of Square and Cube answer. -/
import Derived.Test.YtmjbhmpogpagjaaWidC
namespace Go.Proofs.Ytmjbhmpogpagjaa
set_option maxRecDepth 20000
set_option linter.unusedSimpArgs false
set_option linter.unusedVariables false
open Go.RowKit
theorem mul_open (a b : Nat) (w : World) (ha : a < B64 ^ 4) (hb : b < B64 ^ 4) (hl : a * b < B64 ^ 4) :
    Calls Try.prog 46 #[numV a, numV b] w fun e w' => e = .returned (.tuple #[.agg #[.int .u64 (wd (a * b) 0 : Int), .int .u64 (wd (a * b) 1 : Int), .int .u64 (wd (a * b) 2 : Int), .int .u64 (wd (a * b) 3 : Int)], .agg #[.int .u64 0, .int .u64 0, .int .u64 0, .int .u64 0]]) ∧ Below w.heap.size w w' := by
  have h := mul_any a b w ha hb
  rw [Nat.mod_eq_of_lt hl, Nat.div_eq_of_lt hl] at h
  have e0 : numV 0 = .agg #[.int .u64 0, .int .u64 0, .int .u64 0, .int .u64 0] := by simp [numV, wd]
  rw [e0] at h
  exact h
set_option maxHeartbeats 4000000 in
theorem sq_any (x whole B : Nat) (w : World) (hx : x < 4722366482869645213696) (hw : whole < B64 ^ 4) (hB : w.heap[B]? = some (.cells (numL whole).toArray 73 (0, 0))) :
    Calls Try.prog 45 #[numV x, .pointer (some ⟨B, 0, none⟩)] w fun e w' => e = .returned (.bool (decide (whole < x * x))) ∧ Below w.heap.size w w' := by
  have hlt : B < w.heap.size := by
    apply Nat.lt_of_not_le
    intro hle
    rw [Array.getElem?_eq_none hle] at hB
    simp at hB
  have hx4 : x < B64 ^ 4 := Nat.lt_trans hx (by decide)
  have hxx : x * x < B64 ^ 4 := Nat.lt_of_lt_of_le (Nat.mul_lt_mul'' hx hx) (by decide)
  have hcm : decide (0 < cmpI (x * x) whole) = decide (whole < x * x) := by
    unfold cmpI
    rcases Nat.lt_trichotomy (x * x) whole with h | h | h
    · rw [if_pos h]; simp; omega
    · rw [h]; simp
    · rw [if_neg (by omega), if_pos h]; simp [h]
  have c0 := (arr_get hB (numL_get whole 0 (by omega))).1
  have c1 := (arr_get hB (numL_get whole 1 (by omega))).1
  have c2 := (arr_get hB (numL_get whole 2 (by omega))).1
  have c3 := (arr_get hB (numL_get whole 3 (by omega))).1
  have MU := fun w => mul_open x x w hx4 hx4 hxx
  have CM := fun w => cmp_any (x * x) whole w hxx hw
  generalize hC : cmpI (x * x) whole = C at CM hcm
  have HCM := Lib.hid hcm
  clear hcm hC hxx hx hw hx4
  unfold numV at MU CM ⊢
  generalize x * x = X at MU CM HCM
  have HB := Lib.hid hB
  clear hB
  go_enter Try.func45, Try.ntmps45
  go_wp2_with fail
  go_at_call 46
  refine (MU _).mono ?_
  rintro e w1 ⟨rfl, hb1⟩
  have hsz := hb1.size
  rw [alloc_size1] at hsz
  have hB1 : w1.heap[B]? = some (.cells (numL whole).toArray 73 (0, 0)) := (hb1.block B (by rw [alloc_size1]; omega)).trans ((alloc_old _ _ _ hlt).trans HB.out)
  have k0 := (arr_get hB1 (numL_get whole 0 (by omega))).1
  have k1 := (arr_get hB1 (numL_get whole 1 (by omega))).1
  have k2 := (arr_get hB1 (numL_get whole 2 (by omega))).1
  have k3 := (arr_get hB1 (numL_get whole 3 (by omega))).1
  have hl1 : B < w1.heap.size := by omega
  have hbw : Below w.heap.size w w1 := (gr_alloc (Below.refl _ _) _).trans (hb1.mono (by rw [alloc_size1]; omega))
  clear hb1 hB1 c0 c1 c2 c3
  go_wp2_with (go_at_call 47; refine (CM _).mono ?_; rintro e w2 ⟨rfl, hb2⟩)
  go_ret
  refine ⟨ret_bool HCM.out, hbw.trans (Below.mono ((gr_alloc (gr_alloc (Below.refl _ _) _) _).trans (hb2.mono ?_)) (by omega))⟩
  simp only [alloc_size1]
  omega
set_option maxHeartbeats 4000000 in
theorem cu_any (x whole B : Nat) (w : World) (hx : x < 4722366482869645213696) (hw : whole < B64 ^ 4) (hB : w.heap[B]? = some (.cells (numL whole).toArray 73 (0, 0))) :
    Calls Try.prog 48 #[numV x, .pointer (some ⟨B, 0, none⟩)] w fun e w' => e = .returned (.bool (decide (whole < x * x * x))) ∧ Below w.heap.size w w' := by
  have hlt : B < w.heap.size := by
    apply Nat.lt_of_not_le
    intro hle
    rw [Array.getElem?_eq_none hle] at hB
    simp at hB
  have hx4 : x < B64 ^ 4 := Nat.lt_trans hx (by decide)
  have hx2 := Nat.mul_lt_mul'' hx hx
  have hxx : x * x < B64 ^ 4 := Nat.lt_of_lt_of_le hx2 (by decide)
  have hxxx : x * x * x < B64 ^ 4 := Nat.lt_of_lt_of_le (Nat.mul_lt_mul'' hx2 hx) (by decide)
  have hcm : decide (0 < cmpI (x * x * x) whole) = decide (whole < x * x * x) := by
    unfold cmpI
    rcases Nat.lt_trichotomy (x * x * x) whole with h | h | h
    · rw [if_pos h]; simp; omega
    · rw [h]; simp
    · rw [if_neg (by omega), if_pos h]; simp [h]
  have MU := fun w => mul_open x x w hx4 hx4 hxx
  have MV := fun w => mul_open (x * x) x w hxx hx4 hxxx
  have CM := fun w => cmp_any (x * x * x) whole w hxxx hw
  generalize hC : cmpI (x * x * x) whole = C at CM hcm
  have HCM := Lib.hid hcm
  clear hcm hC hxx hx hw hx4 hxxx hx2
  unfold numV at MU MV CM ⊢
  generalize x * x * x = Y at MV CM HCM
  generalize x * x = X at MU MV
  have HB := Lib.hid hB
  have HX := Lib.hid (alloc_new w (.cells (numL x).toArray 73))
  clear hB
  go_enter Try.func48, Try.ntmps48
  go_wp2_with fail
  go_at_call 46
  refine (MU _).mono ?_
  rintro e w1 ⟨rfl, hb1⟩
  have hsz := hb1.size
  rw [alloc_size1] at hsz
  have hB1 : Hid (w1.heap[B]? = some (.cells (numL whole).toArray 73 (0, 0))) := (hb1.block B (by rw [alloc_size1]; omega)).trans ((alloc_old _ _ _ hlt).trans HB.out)
  have hX1 : w1.heap[w.heap.size]? = some (.cells (numL x).toArray 73 (0, 0)) := (hb1.block w.heap.size (by rw [alloc_size1]; omega)).trans HX.out
  have k0 := (arr_get hX1 (numL_get x 0 (by omega))).1
  have k1 := (arr_get hX1 (numL_get x 1 (by omega))).1
  have k2 := (arr_get hX1 (numL_get x 2 (by omega))).1
  have k3 := (arr_get hX1 (numL_get x 3 (by omega))).1
  have hl1 : B < w1.heap.size := by omega
  have hl2 : w.heap.size < w1.heap.size := by omega
  have hbw : Below w.heap.size w w1 := (gr_alloc (Below.refl _ _) _).trans (hb1.mono (by rw [alloc_size1]; omega))
  clear hb1 hX1 HX HB
  go_wp2_with fail
  go_at_call 46
  refine (MV _).mono ?_
  rintro e w2 ⟨rfl, hb2⟩
  have hsz2 := hb2.size
  simp only [alloc_size1] at hsz2
  have hB2 : w2.heap[B]? = some (.cells (numL whole).toArray 73 (0, 0)) := (hb2.block B (by simp only [alloc_size1]; omega)).trans ((alloc_old _ _ _ (by rw [alloc_size1]; omega)).trans ((alloc_old _ _ _ hl1).trans hB1.out))
  have j0 := (arr_get hB2 (numL_get whole 0 (by omega))).1
  have j1 := (arr_get hB2 (numL_get whole 1 (by omega))).1
  have j2 := (arr_get hB2 (numL_get whole 2 (by omega))).1
  have j3 := (arr_get hB2 (numL_get whole 3 (by omega))).1
  have hl3 : B < w2.heap.size := by omega
  have hbw2 : Below w.heap.size w w2 := hbw.trans (Below.mono ((gr_alloc (gr_alloc (Below.refl _ _) _) _).trans (hb2.mono (by simp only [alloc_size1]; omega))) (by omega))
  clear hb2 hB2 hbw k0 k1 k2 k3
  go_wp2_with (go_at_call 47; refine (CM _).mono ?_; rintro e w3 ⟨rfl, hb3⟩)
  go_ret
  refine ⟨ret_bool HCM.out, hbw2.trans (Below.mono ((gr_alloc (gr_alloc (Below.refl _ _) _) _).trans (hb3.mono ?_)) (by omega))⟩
  simp only [alloc_size1]
  omega
end Go.Proofs.Ytmjbhmpogpagjaa
