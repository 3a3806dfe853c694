/- The examples of layer 13: lives. -/
import Derived.Test.YtlclhialkpppeaaWidI
import Derived.Test.YtlclhialkpppeaaWidLa
import Derived.Deep.DeepCutAuto
import Derived.Lib.QuietBelow
namespace Go.Proofs.Ytlclhialkpppeaa
open Go.RowKit
theorem fourV {w : World} {b : Nat} {t : TypeId} {v0 v1 v2 v3 : Value} (h : w.heap[b]? = some (.cells #[v0, v1, v2, v3] t (0, 0))) :
    (w.cell? ⟨b, 0, none⟩ = some v0 ∧ w.cell? ⟨b, 1, none⟩ = some v1 ∧ w.cell? ⟨b, 2, none⟩ = some v2 ∧ w.cell? ⟨b, 3, none⟩ = some v3) ∧
    w.frozen? ⟨b, 0, none⟩ = false ∧ w.frozen? ⟨b, 1, none⟩ = false ∧ w.frozen? ⟨b, 2, none⟩ = false ∧ w.frozen? ⟨b, 3, none⟩ = false := by
  have h' : w.heap[b]? = some (.cells ([v0, v1, v2, v3] : List Value).toArray t (0, 0)) := h
  exact ⟨⟨(arr_get (i := 0) h' rfl).1, (arr_get (i := 1) h' rfl).1, (arr_get (i := 2) h' rfl).1, (arr_get (i := 3) h' rfl).1⟩, (arr_get (i := 0) h' rfl).2, (arr_get (i := 1) h' rfl).2, (arr_get (i := 2) h' rfl).2, (arr_get (i := 3) h' rfl).2⟩
theorem keep {w w' : World} {b : Nat} {o : Obj} (r : w.heap[b]? = some o) (hb : Below w.heap.size w w') : w'.heap[b]? = some o := (hb.block b (lt_blk r)).trans r
theorem alloc_keep {w : World} {b : Nat} {o : Obj} (r : w.heap[b]? = some o) (z : Obj) : (w.alloc z).heap[b]? = some o := (alloc_old w z b (lt_blk r)).trans r
theorem set4_row {w : World} {b : Nat} {t : TypeId} {u0 u1 u2 u3 v0 v1 v2 v3 : Value} (h : w.heap[b]? = some (.cells #[u0, u1, u2, u3] t (0, 0))) :
    ((((w.setCell ⟨b, 0, none⟩ v0).setCell ⟨b, 1, none⟩ v1).setCell ⟨b, 2, none⟩ v2).setCell ⟨b, 3, none⟩ v3).heap[b]? = some (.cells #[v0, v1, v2, v3] t (0, 0)) := by
  have h' : w.heap[b]? = some (.cells ([u0, u1, u2, u3] : List Value).toArray t (0, 0)) := h
  exact arr_set (i := 3) (arr_set (i := 2) (arr_set (i := 1) (arr_set (i := 0) h' v0) v1) v2) v3
theorem set4_far {w : World} {b c : Nat} {v0 v1 v2 v3 : Value} (h : c ≠ b) :
    ((((w.setCell ⟨b, 0, none⟩ v0).setCell ⟨b, 1, none⟩ v1).setCell ⟨b, 2, none⟩ v2).setCell ⟨b, 3, none⟩ v3).heap[c]? = w.heap[c]? := by
  rw [Below.heap_setCell _ ⟨b, 3, none⟩ _ _ h, Below.heap_setCell _ ⟨b, 2, none⟩ _ _ h, Below.heap_setCell _ ⟨b, 1, none⟩ _ _ h, Below.heap_setCell _ ⟨b, 0, none⟩ _ _ h]
theorem set4_below {B : Nat} {w0 w : World} {b : Nat} {v0 v1 v2 v3 : Value} (h : Below B w0 w) (hb : B ≤ b) :
    Below B w0 ((((w.setCell ⟨b, 0, none⟩ v0).setCell ⟨b, 1, none⟩ v1).setCell ⟨b, 2, none⟩ v2).setCell ⟨b, 3, none⟩ v3) :=
  (((h.setCell (p := ⟨b, 0, none⟩) hb _).setCell (p := ⟨b, 1, none⟩) hb _).setCell (p := ⟨b, 2, none⟩) hb _).setCell (p := ⟨b, 3, none⟩) hb _
theorem gr_allocB {B : Nat} {w0 w1 : World} (h : Below B w0 w1) (hs : B ≤ w1.heap.size) (o : Obj) : Below B w0 (w1.alloc o) := h.alloc hs o
theorem far4 {w : World} {b c : Nat} {v0 v1 v2 v3 x0 x1 x2 x3 : Value} (h : w.cell? ⟨c, 0, none⟩ = some x0 ∧ w.cell? ⟨c, 1, none⟩ = some x1 ∧ w.cell? ⟨c, 2, none⟩ = some x2 ∧ w.cell? ⟨c, 3, none⟩ = some x3) (hne : c ≠ b) :
    ((((w.setCell ⟨b, 0, none⟩ v0).setCell ⟨b, 1, none⟩ v1).setCell ⟨b, 2, none⟩ v2).setCell ⟨b, 3, none⟩ v3).cell? ⟨c, 0, none⟩ = some x0 ∧ ((((w.setCell ⟨b, 0, none⟩ v0).setCell ⟨b, 1, none⟩ v1).setCell ⟨b, 2, none⟩ v2).setCell ⟨b, 3, none⟩ v3).cell? ⟨c, 1, none⟩ = some x1 ∧
    ((((w.setCell ⟨b, 0, none⟩ v0).setCell ⟨b, 1, none⟩ v1).setCell ⟨b, 2, none⟩ v2).setCell ⟨b, 3, none⟩ v3).cell? ⟨c, 2, none⟩ = some x2 ∧ ((((w.setCell ⟨b, 0, none⟩ v0).setCell ⟨b, 1, none⟩ v1).setCell ⟨b, 2, none⟩ v2).setCell ⟨b, 3, none⟩ v3).cell? ⟨c, 3, none⟩ = some x3 := by
  have hf : ∀ k, ((((w.setCell ⟨b, 0, none⟩ v0).setCell ⟨b, 1, none⟩ v1).setCell ⟨b, 2, none⟩ v2).setCell ⟨b, 3, none⟩ v3).cell? ⟨c, k, none⟩ = w.cell? ⟨c, k, none⟩ := fun k => by
    have := set4_far (w := w) (b := b) (c := c) (v0 := v0) (v1 := v1) (v2 := v2) (v3 := v3) hne
    simp only [World.cell?, this]
  exact ⟨(hf 0).trans h.1, (hf 1).trans h.2.1, (hf 2).trans h.2.2.1, (hf 3).trans h.2.2.2⟩
theorem small2 : Hid (∀ w, Calls Try.prog 16 #[.int .u64 2] w fun e w' => e = .returned (.agg #[.int .u64 2, .int .u64 0, .int .u64 0, .int .u64 0]) ∧ Below w.heap.size w w') := fun w => by
  have h := small_any 2 w (by decide)
  rw [num_2] at h
  exact h
theorem mulH2 : Hid (∀ w, Calls Try.prog 11 #[.agg #[.int .u64 0, .int .u64 0, .int .u64 0, .int .u64 9223372036854775808], .agg #[.int .u64 2, .int .u64 0, .int .u64 0, .int .u64 0]] w fun e w' => e = .returned (.tuple #[.agg #[.int .u64 0, .int .u64 0, .int .u64 0, .int .u64 0], .agg #[.int .u64 1, .int .u64 0, .int .u64 0, .int .u64 0]]) ∧ Below w.heap.size w w') := fun w => by
  have h := mul_any H4 2 w (by decide +kernel) (by decide +kernel)
  rw [show H4 * 2 % B64 ^ 4 = 0 by decide +kernel, show H4 * 2 / B64 ^ 4 = 1 by decide +kernel, num_H4, num_2, num_0, num_1] at h
  exact h
theorem isz0 : Hid (∀ w, Calls Try.prog 5 #[.agg #[.int .u64 0, .int .u64 0, .int .u64 0, .int .u64 0]] w fun e w' => e = .returned (.bool true) ∧ Below w.heap.size w w') := fun w => by
  have h := isZero_any 0 w (by decide +kernel)
  rw [num_0] at h
  exact h
theorem smalls : Hid ((∀ w, Calls Try.prog 16 #[.int .u64 1] w fun e w' => e = .returned (.agg #[.int .u64 1, .int .u64 0, .int .u64 0, .int .u64 0]) ∧ Below w.heap.size w w') ∧
    (∀ w, Calls Try.prog 16 #[.int .u64 5] w fun e w' => e = .returned (.agg #[.int .u64 5, .int .u64 0, .int .u64 0, .int .u64 0]) ∧ Below w.heap.size w w') ∧
    (∀ w, Calls Try.prog 16 #[.int .u64 3] w fun e w' => e = .returned (.agg #[.int .u64 3, .int .u64 0, .int .u64 0, .int .u64 0]) ∧ Below w.heap.size w w') ∧
    (∀ w, Calls Try.prog 16 #[.int .u64 2] w fun e w' => e = .returned (.agg #[.int .u64 2, .int .u64 0, .int .u64 0, .int .u64 0]) ∧ Below w.heap.size w w')) := by
  refine ⟨fun w => ?_, fun w => ?_, fun w => ?_, fun w => ?_⟩
  · have h := small_any 1 w (by decide); rw [num_1] at h; exact h
  · have h := small_any 5 w (by decide); rw [num_5] at h; exact h
  · have h := small_any 3 w (by decide); rw [num_3] at h; exact h
  · have h := small_any 2 w (by decide); rw [num_2] at h; exact h
theorem rem523 : Hid (∀ w, Calls Try.prog 4 #[.agg #[.int .u64 5, .int .u64 0, .int .u64 0, .int .u64 0], .agg #[.int .u64 0, .int .u64 0, .int .u64 0, .int .u64 0], .agg #[.int .u64 3, .int .u64 0, .int .u64 0, .int .u64 0]] w fun e w' => e = .returned (.agg #[.int .u64 2, .int .u64 0, .int .u64 0, .int .u64 0]) ∧ Below w.heap.size w w') := fun w => by
  have h := rem_whole 5 0 3 w (by decide +kernel) (by decide +kernel) (by decide +kernel)
  rw [show remN 5 0 3 = 2 by decide +kernel, num_5, num_0, num_3, num_2] at h
  exact h
set_option maxHeartbeats 4000000 in
theorem lives13 (w : World) :
    Calls Try.prog 6 #[] w fun e w' => e = .returned (.bool true) ∧ Below w.heap.size w w' := by
  have hm : Try.prog.follows .mixedOrders = true := by kernel_rfl
  go_enter Try.func6, Try.ntmps6
  go_wp2_with fail
  have hM : (w.alloc (.cells (numL M4).toArray 24)).heap[w.heap.size]? = some (.cells (numL M4).toArray 24 (0, 0)) := alloc_new _ _
  have hMb : Below w.heap.size w (w.alloc (.cells (numL M4).toArray 24)) := gr_alloc (Below.refl _ _) _
  have eM : (numL M4).toArray = #[.int .u64 18446744073709551615, .int .u64 18446744073709551615, .int .u64 18446744073709551615, .int .u64 18446744073709551615] := by kernel_rfl
  rw [eM] at hM hMb
  have HM := Lib.hid hM
  have HMB := Lib.hid hMb
  clear hM hMb eM
  obtain ⟨X, hX⟩ : ∃ X, X = w.alloc (.cells #[.int .u64 18446744073709551615, .int .u64 18446744073709551615, .int .u64 18446744073709551615, .int .u64 18446744073709551615] 24) := ⟨_, rfl⟩
  rw [← hX] at HM HMB ⊢
  have HX := Lib.hid hX
  clear hX
  go_cut [2, 3] (fun s2 s3 wc => ∃ B, s2 = .pointer (some ⟨B, 0, none⟩) ∧ s3 = .int .u64 1 ∧ wc.heap[B]? = some (.cells #[.int .u64 0, .int .u64 0, .int .u64 0, .int .u64 0] 24 (0, 0)) ∧ Below w.heap.size w wc)
  case rest =>
    obtain ⟨B, rfl, rfl, hrow, hbe⟩ := hcut
    have KS := small2
    have KM := mulH2
    have HR := Lib.hid hrow
    have HBE := Lib.hid hbe
    clear hrow hbe
    go_wp2_with fail
    refine (KS.out _).mono ?_
    rintro e w3 ⟨rfl, hb3⟩
    go_wp2_with fail
    refine (KM.out _).mono ?_
    rintro e w4 ⟨rfl, hb4⟩
    go_wp2_with fail
    have r0 := alloc_keep (alloc_keep (keep (keep HR.out hb3) hb4) (.cells #[.int .u64 0, .int .u64 0, .int .u64 0, .int .u64 0] 24)) (.cells #[.int .u64 1, .int .u64 0, .int .u64 0, .int .u64 0] 24)
    have r4 := alloc_keep (alloc_new w4 (.cells #[.int .u64 0, .int .u64 0, .int .u64 0, .int .u64 0] 24)) (.cells #[.int .u64 1, .int .u64 0, .int .u64 0, .int .u64 0] 24)
    have r5 : ((w4.alloc (.cells #[.int .u64 0, .int .u64 0, .int .u64 0, .int .u64 0] 24)).alloc (.cells #[.int .u64 1, .int .u64 0, .int .u64 0, .int .u64 0] 24)).heap[w4.heap.size + 1]? = some (.cells #[.int .u64 1, .int .u64 0, .int .u64 0, .int .u64 0] 24 (0, 0)) := by
      have := alloc_new (w4.alloc (.cells #[.int .u64 0, .int .u64 0, .int .u64 0, .int .u64 0] 24)) (.cells #[.int .u64 1, .int .u64 0, .int .u64 0, .int .u64 0] 24)
      rw [alloc_size1] at this
      exact this
    have hW : Below w.heap.size w ((w4.alloc (.cells #[.int .u64 0, .int .u64 0, .int .u64 0, .int .u64 0] 24)).alloc (.cells #[.int .u64 1, .int .u64 0, .int .u64 0, .int .u64 0] 24)) := by
      have h1 := HBE.out.trans (Below.mono hb3 HBE.out.size)
      have h2 := h1.trans (Below.mono hb4 h1.size)
      exact gr_allocB (gr_allocB h2 h2.size _) (by rw [alloc_size1]; exact Nat.le_succ_of_le h2.size) _
    generalize (w4.alloc (.cells #[.int .u64 0, .int .u64 0, .int .u64 0, .int .u64 0] 24)).alloc (.cells #[.int .u64 1, .int .u64 0, .int .u64 0, .int .u64 0] 24) = W at *
    obtain ⟨⟨a0, a1, a2, a3⟩, _⟩ := fourV r0
    obtain ⟨⟨b0, b1, b2, b3⟩, _⟩ := fourV r4
    obtain ⟨⟨c0, c1, c2, c3⟩, _⟩ := fourV r5
    have A0 := fun d os => cell_regrown a0 d os
    have A1 := fun d os => cell_regrown a1 d os
    have A2 := fun d os => cell_regrown a2 d os
    have A3 := fun d os => cell_regrown a3 d os
    have B0 := fun d os => cell_regrown b0 d os
    have B1 := fun d os => cell_regrown b1 d os
    have B2 := fun d os => cell_regrown b2 d os
    have B3 := fun d os => cell_regrown b3 d os
    have C0 := fun d os => cell_regrown c0 d os
    have C1 := fun d os => cell_regrown c1 d os
    have C2 := fun d os => cell_regrown c2 d os
    have C3 := fun d os => cell_regrown c3 d os
    have HW := Lib.hid hW
    have KZ := isz0
    have KS := smalls
    have KR := rem523
    clear r0 r4 r5 hW a0 a1 a2 a3 b0 b1 b2 b3 c0 c1 c2 c3 hb3 hb4 HR HBE KM
    have kq1 := fun w => eql_num w 1 0 0 0 1 0 0 0
    have kq2 := fun w => eql_num w 2 0 0 0 2 0 0 0
    refine wp_region_quiet_below (by assumption) (by kernel_rfl) ?_
    repeat (quiet_step (first
      | (go_at_call 5; exact Calls.regrown_of (KZ.out _))
      | (go_at_call_of 16 (Value.int IntKind.u64 1); exact Calls.regrown_of (KS.out.1 _))
      | (go_at_call_of 16 (Value.int IntKind.u64 5); exact Calls.regrown_of (KS.out.2.1 _))
      | (go_at_call_of 16 (Value.int IntKind.u64 3); exact Calls.regrown_of (KS.out.2.2.1 _))
      | (go_at_call_of 16 (Value.int IntKind.u64 2); exact Calls.regrown_of (KS.out.2.2.2 _))
      | (go_at_call 4; exact Calls.regrown_of (KR.out _))))
    refine wpQuiet_nil ?_
    intro _ hw'
    obtain ⟨⟨nq, osq⟩, hw''⟩ := hw'
    subst hw''
    go_wp2_with fail
    go_ret
    exact ⟨rfl, HW.out.trans ((below_regrown W _ _).mono HW.out.size)⟩
  case first =>
    obtain ⟨⟨c0, c1, c2, c3⟩, _⟩ := fourV HM.out
    have lX : w.heap.size < X.heap.size := lt_blk HM.out
    have bX : Below w.heap.size w X.drew := HMB.out.drew
    have sX : w.heap.size ≤ X.drew.heap.size := Nat.le_of_lt lX
    go_region_with (first
      | (go_at_call 16; refine (M4_small1 _).mono ?_; rintro e w1 ⟨rfl, hb1⟩
         first
           | (have r1 := keep (w := X.drew) HM.out hb1
              obtain ⟨⟨k0, k1, k2, k3⟩, _⟩ := fourV r1
              have bb1 := bX.trans (Below.mono hb1 sX)
              have ls1 : w.heap.size < w1.heap.size := lt_blk r1)
           | (have r1 : w1.heap[w.heap.size]? = _ := (hb1.block _ (by show w.heap.size < (X.alloc _).heap.size; rw [alloc_size1]; omega)).trans ((alloc_old X _ _ lX).trans HM.out)
              obtain ⟨⟨k0, k1, k2, k3⟩, _⟩ := fourV r1
              have bb1 := (gr_allocB (w1 := X) HMB.out sX _).drew.trans (Below.mono hb1 (by show w.heap.size ≤ (X.alloc _).heap.size; rw [alloc_size1]; omega))
              have ls1 : w.heap.size < w1.heap.size := lt_blk r1
              have n1 : w1.heap[X.heap.size]? = _ := (hb1.block _ (by show X.heap.size < (X.alloc _).heap.size; rw [alloc_size1]; omega)).trans (alloc_new X _)
              obtain ⟨⟨j0, j1, j2, j3⟩, g0, g1, g2, g3⟩ := fourV n1))
      | (go_at_call 13; refine (M4_add _).mono ?_; rintro e w2 ⟨rfl, hb2⟩
         first
           | (have n2 := keep n1 hb2
              obtain ⟨⟨l0, l1, l2, l3⟩, m0, m1, m2, m3⟩ := fourV n2
              have bb2 := bb1.trans (Below.mono hb2 (Nat.le_of_lt ls1)))
           | (have n2 := keep (alloc_new w1 _) hb2
              obtain ⟨⟨l0, l1, l2, l3⟩, m0, m1, m2, m3⟩ := fourV n2
              have bb2 := (gr_allocB (w1 := w1) bb1 (Nat.le_of_lt ls1) _).trans (Below.mono hb2 (by rw [alloc_size1]; omega)))
           | (have bb2 := bb1.trans (Below.mono hb2 (Nat.le_of_lt ls1)))))
    all_goals
      go_wp2_with fail
      go_meet
      case rel =>
        refine ⟨_, rfl, rfl, ?_, ?_⟩
        · first
            | exact alloc_new w2 _
            | exact set4_row n2
        · first
            | exact gr_allocB bb2 bb2.size _
            | exact set4_below bb2 (by omega)
end Go.Proofs.Ytlclhialkpppeaa
