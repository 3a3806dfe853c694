/- roots.root: what it answers, of either closure. -/
import Derived.Test.YtmjbhmpogpagjaaRooB
namespace Go.Proofs.Ytmjbhmpogpagjaa
set_option maxRecDepth 20000
set_option linter.unusedSimpArgs false
set_option linter.unusedVariables false
open Go.RowKit
/-- What is found: the greatest number of 72 bits that isn't too many. -/
def top (P : Nat → Prop) (x : Nat) : Prop := x < 4722366482869645213696 ∧ P x ∧ ∀ y, x < y → y < 4722366482869645213696 → ¬ P y
def set4 (W : World) (b : Nat) (v0 v1 v2 v3 : Value) : World := (((W.setCell ⟨b, 0, none⟩ v0).setCell ⟨b, 1, none⟩ v1).setCell ⟨b, 2, none⟩ v2).setCell ⟨b, 3, none⟩ v3
theorem set4_other (W : World) (b B : Nat) (v0 v1 v2 v3 : Value) (o : Obj) (h : W.heap[B]? = some o) (hn : B ≠ b) : (set4 W b v0 v1 v2 v3).heap[B]? = some o := by
  unfold set4
  rw [Below.heap_setCell _ _ _ _ hn, Below.heap_setCell _ _ _ _ hn, Below.heap_setCell _ _ _ _ hn, Below.heap_setCell _ _ _ _ hn]
  exact h
theorem set4_size (W : World) (b : Nat) (v0 v1 v2 v3 : Value) : (set4 W b v0 v1 v2 v3).heap.size = W.heap.size := by
  have sz : ∀ (W : World) (a : Addr) (v : Value), (W.setCell a v).heap.size = W.heap.size := fun W a v => by show (W.heap.modify _ _).size = _; rw [Array.size_modify]
  unfold set4
  rw [sz, sz, sz, sz]
theorem set4_below {a W : World} {b : Nat} (h : Below b a W) (v0 v1 v2 v3 : Value) : Below b a (set4 W b v0 v1 v2 v3) :=
  (((h.setCell (p := ⟨b, 0, none⟩) (Nat.le_refl _) v0).setCell (p := ⟨b, 1, none⟩) (Nat.le_refl _) v1).setCell (p := ⟨b, 2, none⟩) (Nat.le_refl _) v2).setCell (p := ⟨b, 3, none⟩) (Nat.le_refl _) v3
theorem numV_open (n : Nat) : numV n = .agg (numL n).toArray := rfl
set_option maxHeartbeats 8000000 in
theorem root_sq (whole B : Nat) (w : World) (hw : whole < B64 ^ 4) (hB : w.heap[B]? = some (.cells (numL whole).toArray 73 (0, 0))) :
    Calls Try.prog 44 #[.func (.func 45) #[] #[.pointer (some ⟨B, 0, none⟩)]] w fun e w' => ∃ x, top (fun y => y * y ≤ whole) x ∧ e = .returned (.int .u64 (wd x 0 : Int)) ∧ Below w.heap.size w w' := by
  have hlt : B < w.heap.size := by
    apply Nat.lt_of_not_le
    intro hle
    rw [Array.getElem?_eq_none hle] at hB
    simp at hB
  have e0 : (numL 0).toArray = #[.int .u64 0, .int .u64 0, .int .u64 0, .int .u64 0] := by simp [numL, wd]
  have hX1 : (w.alloc (.cells (numL 0).toArray 73)).heap[w.heap.size]? = some (.cells (numL 0).toArray 73 (0, 0)) := alloc_new _ _
  have hXB : (w.alloc (.cells (numL 0).toArray 73)).heap[B]? = some (.cells (numL whole).toArray 73 (0, 0)) := (alloc_old _ _ _ hlt).trans hB
  have hXb : Below w.heap.size w (w.alloc (.cells (numL 0).toArray 73)) := gr_alloc (Below.refl _ _) _
  have hXs : w.heap.size < (w.alloc (.cells (numL 0).toArray 73)).heap.size := by rw [alloc_size1]; omega
  rw [e0] at hX1 hXB hXb hXs
  have HB := Lib.hid hB
  clear hB
  go_enter Try.func44, Try.ntmps44
  go_wp2_with fail
  generalize w.alloc (.cells #[.int .u64 0, .int .u64 0, .int .u64 0, .int .u64 0] 73) = Y at *
  rw [← e0] at hX1
  clear e0
  go_loopw [7] (fun i wr => ∃ i' m : Nat, i' ≤ 72 ∧ i = .int .i64 (i' : Int) ∧ m < 2 ^ i' ∧ (fun x => x * x ≤ whole) (m * 2 ^ (72 - i')) ∧ (∀ y, m * 2 ^ (72 - i') + 2 ^ (72 - i') ≤ y → y < 4722366482869645213696 → ¬ y * y ≤ whole) ∧ wr.heap[w.heap.size]? = some (.cells (numL (m * 2 ^ (72 - i'))).toArray 73 (0, 0)) ∧ wr.heap[B]? = some (.cells (numL whole).toArray 73 (0, 0)) ∧ Below w.heap.size w wr ∧ w.heap.size < wr.heap.size) (fun i _ => 72 - (intOf i).toNat)
  case atStart => exact ⟨0, 0, by omega, rfl, by omega, by simp, fun y h1 h2 => by simp at h1; omega, by simpa using hX1, hXB, hXb, hXs⟩
  case round =>
    clear hX1 hXB hXb hXs
    obtain ⟨i, m, hi, rfl, hm, hP, hQ, hx, hB, hb, hsz⟩ := hrel
    by_cases hlt2 : i < 72
    · have p1 : (i : Int) < 72 := by omega
      obtain ⟨a, ha⟩ : ∃ a, i + a = 71 := ⟨71 - i, by omega⟩
      have e1 : 72 - i = a + 1 := by omega
      rw [e1] at hP hQ hx
      obtain ⟨x, hxe⟩ : ∃ x, x = m * 2 ^ (a + 1) := ⟨_, rfl⟩
      have hx72 : x + 2 ^ (a + 1) ≤ 4722366482869645213696 := by
        have h1 : (m + 1) * 2 ^ (a + 1) ≤ 2 ^ i * 2 ^ (a + 1) := Nat.mul_le_mul_right _ hm
        rw [← Nat.pow_add, show i + (a + 1) = 72 by omega, Nat.add_mul, Nat.one_mul, ← hxe] at h1
        exact h1
      have hpa : 2 ^ (a + 1) = 2 ^ a + 2 ^ a := by rw [Nat.pow_succ]; omega
      have hpp : 0 < 2 ^ a := Nat.two_pow_pos a
      rw [← hxe] at hP hQ hx
      obtain ⟨hset, hsw, t, ht⟩ := more_words x m a (by omega) hxe
      obtain ⟨Q, hQe⟩ : ∃ Q, Q = a / 64 := ⟨_, rfl⟩
      obtain ⟨r, hre⟩ : ∃ r, r = a % 64 := ⟨_, rfl⟩
      rw [← hQe, ← hre] at hset ht hsw
      have hor := or_bit (wd x Q) t r (by omega) (wd_lt x Q) ht
      have hpr : 2 ^ r < 18446744073709551616 := Nat.pow_lt_pow_right (a := 2) (m := r) (n := 64) (by omega) (by omega)
      have ps : ((2 : Int) ^ r) = ((2 ^ r : Nat) : Int) := by rw [Int.natCast_pow]; rfl
      have t1 : (a : Int).tdiv 64 = (Q : Int) := by rw [Int.tdiv_eq_ediv_of_nonneg (by omega)]; omega
      have t2 : (a : Int).tmod 64 = (r : Int) := by rw [Int.tmod_eq_emod_of_nonneg (by omega)]; omega
      have s1 : (71 : Int) - (i : Int) = (a : Int) := by omega
      have o1 : IntKind.i64.wrap ((71 : Int) - (i : Int)) = (a : Int) := by rw [s1]; exact IntWalk.i64_in _ (by omega)
      have hsum : wd x Q + 2 ^ r < 18446744073709551616 := by rw [hsw]; exact wd_lt _ _
      have c0 := (arr_get hx (numL_get x 0 (by omega))).1
      have c1 := (arr_get hx (numL_get x 1 (by omega))).1
      have c2 := (arr_get hx (numL_get x 2 (by omega))).1
      have c3 := (arr_get hx (numL_get x 3 (by omega))).1
      have HS1 := Lib.hid s1
      have HXE := Lib.hid hxe
      clear s1 e1 hxe
      go_wp2_with fail
      change Code.wp _ _ _ _ (wr.alloc (.cells (numL x).toArray 73))
      have z1 : (wr.alloc (.cells (numL x).toArray 73)).heap[w.heap.size]? = some (.cells (numL x).toArray 73 (0, 0)) := (alloc_old _ _ _ hsz).trans hx
      have z2 : (wr.alloc (.cells (numL x).toArray 73)).heap[B]? = some (.cells (numL whole).toArray 73 (0, 0)) := (alloc_old _ _ _ (by omega)).trans hB
      have z3 : (wr.alloc (.cells (numL x).toArray 73)).heap[wr.heap.size]? = some (.cells (numL x).toArray 73 (0, 0)) := alloc_new _ _
      have z4 : Below w.heap.size w (wr.alloc (.cells (numL x).toArray 73)) := gr_alloc hb _
      have z5 : (wr.alloc (.cells (numL x).toArray 73)).heap.size = wr.heap.size + 1 := alloc_size1 _ _
      clear c0 c1 c2 c3 hx hB hb
      generalize wr.alloc (.cells (numL x).toArray 73) = Z at *
      obtain ⟨cq, fq⟩ := arr_get z3 (numL_get x Q (by omega))
      have q4 : (Q : Int) < 4 := by omega
      obtain ⟨S, hS⟩ : ∃ S, S = 2 ^ r := ⟨_, rfl⟩
      rw [← hS] at hset hor hpr hsum
      have ps' : ((2 : Int) ^ r) = (S : Int) := by rw [ps, hS]
      have o2 : IntKind.u64.wrap ((2 : Int) ^ r) = (S : Int) := by rw [ps']; exact IntWalk.u64_in _ (by omega)
      have Z1 := Lib.hid z1
      have Z2 := Lib.hid z2
      have Z3 := Lib.hid z3
      have HSET := Lib.hid hset
      have HQ := Lib.hid hQ
      have HX72 := Lib.hid hx72
      have HT := Lib.hid ht
      have HM := Lib.hid hm
      have nQ : (Q : Int).toNat = Q := by omega
      have r64 : (r : Int) < 64 := by omega
      have d1 : (a : Int) / 64 = (Q : Int) := by omega
      have d2 : (a : Int) % 64 = (r : Int) := by omega
      have w1 : IntKind.i64.wrap (Q : Int) = (Q : Int) := IntWalk.i64_in _ (by omega)
      have Q4 := Lib.hid hQe
      clear hQe hre
      clear z1 z2 z3 hset hQ hx72 ht hm ps hS hsw
      obtain ⟨V, hV⟩ : ∃ V, V = wd x Q := ⟨_, rfl⟩
      rw [← hV] at cq hor hsum HSET
      clear hV HT
      go_region
      have hset' : (numL x).set Q (.int .u64 ((V : Int) + (S : Int))) = numL (x + 2 ^ a) := by rw [← Int.natCast_add]; exact HSET.out
      have y3 := arr_set (i := Q) Z3.out (.int .u64 ((V : Int) + (S : Int)))
      rw [hset'] at y3
      have y1 := Z1.out
      rw [← Below.heap_setCell _ ⟨wr.heap.size, Q, none⟩ (.int .u64 ((V : Int) + (S : Int))) _ (by show w.heap.size ≠ wr.heap.size; omega)] at y1
      have y2 := Z2.out
      rw [← Below.heap_setCell _ ⟨wr.heap.size, Q, none⟩ (.int .u64 ((V : Int) + (S : Int))) _ (by show B ≠ wr.heap.size; omega)] at y2
      have y4 := z4.setCell (p := ⟨wr.heap.size, Q, none⟩) (by show w.heap.size ≤ wr.heap.size; omega) (.int .u64 ((V : Int) + (S : Int)))
      have y5 : (Z.setCell ⟨wr.heap.size, Q, none⟩ (.int .u64 ((V : Int) + (S : Int)))).heap.size = wr.heap.size + 1 := by rw [← z5]; show (Z.heap.modify _ _).size = _; rw [Array.size_modify]
      clear hset' Z1 Z2 Z3 z4 z5 cq fq hor HSET
      generalize Z.setCell ⟨wr.heap.size, Q, none⟩ (.int .u64 ((V : Int) + (S : Int))) = U at *
      have c0 := (arr_get y3 (numL_get (x + 2 ^ a) 0 (by omega))).1
      have c1 := (arr_get y3 (numL_get (x + 2 ^ a) 1 (by omega))).1
      have c2 := (arr_get y3 (numL_get (x + 2 ^ a) 2 (by omega))).1
      have c3 := (arr_get y3 (numL_get (x + 2 ^ a) 3 (by omega))).1
      have Y1 := Lib.hid y1
      have Y2 := Lib.hid y2
      have Y3 := Lib.hid y3
      clear y1 y2 y3
      go_wp2_with fail
      go_at_call 45
      have hm72 : x + 2 ^ a < 4722366482869645213696 := by have := HX72.out; omega
      refine (sq_any (x + 2 ^ a) whole B U.drew hm72 hw Y2.out).mono ?_
      rintro e w2 ⟨rfl, hb2⟩
      have hsz2 : wr.heap.size + 1 ≤ w2.heap.size := by have := hb2.size; rw [← y5]; exact this
      have u1 : w2.heap[w.heap.size]? = some (.cells (numL x).toArray 73 (0, 0)) := (hb2.block w.heap.size (by show _ < U.heap.size; omega)).trans Y1.out
      have u2 : Hid (w2.heap[B]? = some (.cells (numL whole).toArray 73 (0, 0))) := (hb2.block B (by show _ < U.heap.size; omega)).trans Y2.out
      have u3 : w2.heap[wr.heap.size]? = some (.cells (numL (x + 2 ^ a)).toArray 73 (0, 0)) := (hb2.block wr.heap.size (by show _ < U.heap.size; omega)).trans Y3.out
      have u4' : Below w.heap.size w w2 := y4.drew.trans (hb2.mono (show w.heap.size ≤ U.drew.heap.size by show w.heap.size ≤ U.heap.size; omega))
      clear hb2 y4 y5 Y1 Y2 Y3 c0 c1 c2 c3
      have e72 : 72 - (i + 1) = a := by omega
      have hxm : x = 2 * m * 2 ^ a := by rw [HXE.out, Nat.pow_succ, Nat.mul_comm (2 ^ a) 2, ← Nat.mul_assoc, Nat.mul_comm m 2]
      have hxm2 : x + 2 ^ a = (2 * m + 1) * 2 ^ a := by rw [Nat.add_mul, Nat.one_mul, ← hxm]
      have hm2 : 2 * m + 1 < 2 ^ (i + 1) := by have := HM.out; rw [Nat.pow_succ]; omega
      have HXM := Lib.hid hxm
      have HXM2 := Lib.hid hxm2
      have HM2 := Lib.hid hm2
      have E72 := Lib.hid e72
      have HPA := Lib.hid hpa
      clear hxm hxm2 hm2 e72 hpa
      obtain ⟨M, hM⟩ : ∃ M, M = x + 2 ^ a := ⟨_, rfl⟩
      rw [← hM] at u3 HXM2 ⊢
      by_cases hT : whole < M * M
      · have HT := Lib.hid hT
        have hd : decide (whole < M * M) = true := by simpa using hT
        have U1 := Lib.hid u1
        have hMe := Lib.hid hM
        clear hT u1 u3 hM
        rw [hd]
        clear hd
        go_wp2_with fail
        go_roundw
        case rel =>
          refine ⟨i + 1, 2 * m, by omega, congrArg (Value.int .i64) (by omega), by have := HM2.out; omega, ?_, ?_, ?_, u2.out, u4', by omega⟩
          · rw [E72.out, ← HXM.out]; exact hP
          · rw [E72.out, ← HXM.out, ← hMe.out]
            intro y h1 _ h2
            have h := h1
            exact absurd (Nat.lt_of_lt_of_le HT.out (Nat.le_trans (Nat.mul_le_mul h h) h2)) (Nat.lt_irrefl _)
          · rw [E72.out, ← HXM.out]; exact U1.out
        case measure => simp [intOf]; omega
      · have hd : decide (whole < M * M) = false := by simpa using hT
        have HT := Lib.hid hT
        have hMe := Lib.hid hM
        clear hT hM
        rw [hd]
        clear hd
        have d0 := (arr_get u3 (numL_get M 0 (by omega))).1
        have d1' := (arr_get u3 (numL_get M 1 (by omega))).1
        have d2' := (arr_get u3 (numL_get M 2 (by omega))).1
        have d3 := (arr_get u3 (numL_get M 3 (by omega))).1
        obtain ⟨g0, h0⟩ := arr_get u1 (numL_get x 0 (by omega))
        obtain ⟨g1, h1⟩ := arr_get u1 (numL_get x 1 (by omega))
        obtain ⟨g2, h2⟩ := arr_get u1 (numL_get x 2 (by omega))
        obtain ⟨g3, h3⟩ := arr_get u1 (numL_get x 3 (by omega))
        have v1 := arr_set (i := 3) (arr_set (i := 2) (arr_set (i := 1) (arr_set (i := 0) u1 (.int .u64 (wd M 0 : Int))) (.int .u64 (wd M 1 : Int))) (.int .u64 (wd M 2 : Int))) (.int .u64 (wd M 3 : Int))
        have q2 : ((((numL x).set 0 (.int .u64 (wd M 0 : Int))).set 1 (.int .u64 (wd M 1 : Int))).set 2 (.int .u64 (wd M 2 : Int))).set 3 (.int .u64 (wd M 3 : Int)) = numL M := rfl
        rw [q2] at v1
        have V1 := Lib.hid v1
        clear u1 u3 q2 v1
        go_wp2_with fail
        go_roundw
        case rel =>
          have nB : B ≠ w.heap.size := by omega
          refine ⟨i + 1, 2 * m + 1, by omega, congrArg (Value.int .i64) (by omega), HM2.out, ?_, ?_, ?_, ?_, ?_, ?_⟩
          · rw [E72.out, ← HXM2.out]; exact Nat.le_of_not_lt HT.out
          · rw [E72.out, ← HXM2.out]
            intro y h1 h2
            exact HQ.out y (by have := HPA.out; have := hMe.out; omega) h2
          · rw [E72.out, ← HXM2.out]; exact V1.out
          · exact set4_other w2 w.heap.size B (.int .u64 (wd M 0 : Int)) (.int .u64 (wd M 1 : Int)) (.int .u64 (wd M 2 : Int)) (.int .u64 (wd M 3 : Int)) _ u2.out nB
          · exact set4_below u4' (.int .u64 (wd M 0 : Int)) (.int .u64 (wd M 1 : Int)) (.int .u64 (wd M 2 : Int)) (.int .u64 (wd M 3 : Int))
          · exact Nat.lt_of_lt_of_eq (by omega : w.heap.size < w2.heap.size) (set4_size w2 w.heap.size (.int .u64 (wd M 0 : Int)) (.int .u64 (wd M 1 : Int)) (.int .u64 (wd M 2 : Int)) (.int .u64 (wd M 3 : Int))).symm
        case measure => simp [intOf]; omega
    · obtain rfl : i = 72 := by omega
      have p1 : ¬ ((72 : Nat) : Int) < 72 := by omega
      rw [Nat.sub_self, Nat.pow_zero, Nat.mul_one] at hP hQ hx
      have c0 := (arr_get hx (numL_get m 0 (by omega))).1
      have HT : Hid (top (fun y => y * y ≤ whole) m) := ⟨Nat.lt_of_lt_of_le hm (by decide), hP, fun y h1 h2 => hQ y h1 h2⟩
      clear hx hB hP hQ hm
      go_wp2_with fail
      go_ret
      exact ⟨m, HT.out, ret_int rfl, hb⟩
set_option maxHeartbeats 8000000 in
theorem root_cu (whole B : Nat) (w : World) (hw : whole < B64 ^ 4) (hB : w.heap[B]? = some (.cells (numL whole).toArray 73 (0, 0))) :
    Calls Try.prog 44 #[.func (.func 48) #[] #[.pointer (some ⟨B, 0, none⟩)]] w fun e w' => ∃ x, top (fun y => y * y * y ≤ whole) x ∧ e = .returned (.int .u64 (wd x 0 : Int)) ∧ Below w.heap.size w w' := by
  have hlt : B < w.heap.size := by
    apply Nat.lt_of_not_le
    intro hle
    rw [Array.getElem?_eq_none hle] at hB
    simp at hB
  have e0 : (numL 0).toArray = #[.int .u64 0, .int .u64 0, .int .u64 0, .int .u64 0] := by simp [numL, wd]
  have hX1 : (w.alloc (.cells (numL 0).toArray 73)).heap[w.heap.size]? = some (.cells (numL 0).toArray 73 (0, 0)) := alloc_new _ _
  have hXB : (w.alloc (.cells (numL 0).toArray 73)).heap[B]? = some (.cells (numL whole).toArray 73 (0, 0)) := (alloc_old _ _ _ hlt).trans hB
  have hXb : Below w.heap.size w (w.alloc (.cells (numL 0).toArray 73)) := gr_alloc (Below.refl _ _) _
  have hXs : w.heap.size < (w.alloc (.cells (numL 0).toArray 73)).heap.size := by rw [alloc_size1]; omega
  rw [e0] at hX1 hXB hXb hXs
  have HB := Lib.hid hB
  clear hB
  go_enter Try.func44, Try.ntmps44
  go_wp2_with fail
  generalize w.alloc (.cells #[.int .u64 0, .int .u64 0, .int .u64 0, .int .u64 0] 73) = Y at *
  rw [← e0] at hX1
  clear e0
  go_loopw [7] (fun i wr => ∃ i' m : Nat, i' ≤ 72 ∧ i = .int .i64 (i' : Int) ∧ m < 2 ^ i' ∧ (fun x => x * x * x ≤ whole) (m * 2 ^ (72 - i')) ∧ (∀ y, m * 2 ^ (72 - i') + 2 ^ (72 - i') ≤ y → y < 4722366482869645213696 → ¬ y * y * y ≤ whole) ∧ wr.heap[w.heap.size]? = some (.cells (numL (m * 2 ^ (72 - i'))).toArray 73 (0, 0)) ∧ wr.heap[B]? = some (.cells (numL whole).toArray 73 (0, 0)) ∧ Below w.heap.size w wr ∧ w.heap.size < wr.heap.size) (fun i _ => 72 - (intOf i).toNat)
  case atStart => exact ⟨0, 0, by omega, rfl, by omega, by simp, fun y h1 h2 => by simp at h1; omega, by simpa using hX1, hXB, hXb, hXs⟩
  case round =>
    clear hX1 hXB hXb hXs
    obtain ⟨i, m, hi, rfl, hm, hP, hQ, hx, hB, hb, hsz⟩ := hrel
    by_cases hlt2 : i < 72
    · have p1 : (i : Int) < 72 := by omega
      obtain ⟨a, ha⟩ : ∃ a, i + a = 71 := ⟨71 - i, by omega⟩
      have e1 : 72 - i = a + 1 := by omega
      rw [e1] at hP hQ hx
      obtain ⟨x, hxe⟩ : ∃ x, x = m * 2 ^ (a + 1) := ⟨_, rfl⟩
      have hx72 : x + 2 ^ (a + 1) ≤ 4722366482869645213696 := by
        have h1 : (m + 1) * 2 ^ (a + 1) ≤ 2 ^ i * 2 ^ (a + 1) := Nat.mul_le_mul_right _ hm
        rw [← Nat.pow_add, show i + (a + 1) = 72 by omega, Nat.add_mul, Nat.one_mul, ← hxe] at h1
        exact h1
      have hpa : 2 ^ (a + 1) = 2 ^ a + 2 ^ a := by rw [Nat.pow_succ]; omega
      have hpp : 0 < 2 ^ a := Nat.two_pow_pos a
      rw [← hxe] at hP hQ hx
      obtain ⟨hset, hsw, t, ht⟩ := more_words x m a (by omega) hxe
      obtain ⟨Q, hQe⟩ : ∃ Q, Q = a / 64 := ⟨_, rfl⟩
      obtain ⟨r, hre⟩ : ∃ r, r = a % 64 := ⟨_, rfl⟩
      rw [← hQe, ← hre] at hset ht hsw
      have hor := or_bit (wd x Q) t r (by omega) (wd_lt x Q) ht
      have hpr : 2 ^ r < 18446744073709551616 := Nat.pow_lt_pow_right (a := 2) (m := r) (n := 64) (by omega) (by omega)
      have ps : ((2 : Int) ^ r) = ((2 ^ r : Nat) : Int) := by rw [Int.natCast_pow]; rfl
      have t1 : (a : Int).tdiv 64 = (Q : Int) := by rw [Int.tdiv_eq_ediv_of_nonneg (by omega)]; omega
      have t2 : (a : Int).tmod 64 = (r : Int) := by rw [Int.tmod_eq_emod_of_nonneg (by omega)]; omega
      have s1 : (71 : Int) - (i : Int) = (a : Int) := by omega
      have o1 : IntKind.i64.wrap ((71 : Int) - (i : Int)) = (a : Int) := by rw [s1]; exact IntWalk.i64_in _ (by omega)
      have hsum : wd x Q + 2 ^ r < 18446744073709551616 := by rw [hsw]; exact wd_lt _ _
      have c0 := (arr_get hx (numL_get x 0 (by omega))).1
      have c1 := (arr_get hx (numL_get x 1 (by omega))).1
      have c2 := (arr_get hx (numL_get x 2 (by omega))).1
      have c3 := (arr_get hx (numL_get x 3 (by omega))).1
      have HS1 := Lib.hid s1
      have HXE := Lib.hid hxe
      clear s1 e1 hxe
      go_wp2_with fail
      change Code.wp _ _ _ _ (wr.alloc (.cells (numL x).toArray 73))
      have z1 : (wr.alloc (.cells (numL x).toArray 73)).heap[w.heap.size]? = some (.cells (numL x).toArray 73 (0, 0)) := (alloc_old _ _ _ hsz).trans hx
      have z2 : (wr.alloc (.cells (numL x).toArray 73)).heap[B]? = some (.cells (numL whole).toArray 73 (0, 0)) := (alloc_old _ _ _ (by omega)).trans hB
      have z3 : (wr.alloc (.cells (numL x).toArray 73)).heap[wr.heap.size]? = some (.cells (numL x).toArray 73 (0, 0)) := alloc_new _ _
      have z4 : Below w.heap.size w (wr.alloc (.cells (numL x).toArray 73)) := gr_alloc hb _
      have z5 : (wr.alloc (.cells (numL x).toArray 73)).heap.size = wr.heap.size + 1 := alloc_size1 _ _
      clear c0 c1 c2 c3 hx hB hb
      generalize wr.alloc (.cells (numL x).toArray 73) = Z at *
      obtain ⟨cq, fq⟩ := arr_get z3 (numL_get x Q (by omega))
      have q4 : (Q : Int) < 4 := by omega
      obtain ⟨S, hS⟩ : ∃ S, S = 2 ^ r := ⟨_, rfl⟩
      rw [← hS] at hset hor hpr hsum
      have ps' : ((2 : Int) ^ r) = (S : Int) := by rw [ps, hS]
      have o2 : IntKind.u64.wrap ((2 : Int) ^ r) = (S : Int) := by rw [ps']; exact IntWalk.u64_in _ (by omega)
      have Z1 := Lib.hid z1
      have Z2 := Lib.hid z2
      have Z3 := Lib.hid z3
      have HSET := Lib.hid hset
      have HQ := Lib.hid hQ
      have HX72 := Lib.hid hx72
      have HT := Lib.hid ht
      have HM := Lib.hid hm
      have nQ : (Q : Int).toNat = Q := by omega
      have r64 : (r : Int) < 64 := by omega
      have d1 : (a : Int) / 64 = (Q : Int) := by omega
      have d2 : (a : Int) % 64 = (r : Int) := by omega
      have w1 : IntKind.i64.wrap (Q : Int) = (Q : Int) := IntWalk.i64_in _ (by omega)
      have Q4 := Lib.hid hQe
      clear hQe hre
      clear z1 z2 z3 hset hQ hx72 ht hm ps hS hsw
      obtain ⟨V, hV⟩ : ∃ V, V = wd x Q := ⟨_, rfl⟩
      rw [← hV] at cq hor hsum HSET
      clear hV HT
      go_region
      have hset' : (numL x).set Q (.int .u64 ((V : Int) + (S : Int))) = numL (x + 2 ^ a) := by rw [← Int.natCast_add]; exact HSET.out
      have y3 := arr_set (i := Q) Z3.out (.int .u64 ((V : Int) + (S : Int)))
      rw [hset'] at y3
      have y1 := Z1.out
      rw [← Below.heap_setCell _ ⟨wr.heap.size, Q, none⟩ (.int .u64 ((V : Int) + (S : Int))) _ (by show w.heap.size ≠ wr.heap.size; omega)] at y1
      have y2 := Z2.out
      rw [← Below.heap_setCell _ ⟨wr.heap.size, Q, none⟩ (.int .u64 ((V : Int) + (S : Int))) _ (by show B ≠ wr.heap.size; omega)] at y2
      have y4 := z4.setCell (p := ⟨wr.heap.size, Q, none⟩) (by show w.heap.size ≤ wr.heap.size; omega) (.int .u64 ((V : Int) + (S : Int)))
      have y5 : (Z.setCell ⟨wr.heap.size, Q, none⟩ (.int .u64 ((V : Int) + (S : Int)))).heap.size = wr.heap.size + 1 := by rw [← z5]; show (Z.heap.modify _ _).size = _; rw [Array.size_modify]
      clear hset' Z1 Z2 Z3 z4 z5 cq fq hor HSET
      generalize Z.setCell ⟨wr.heap.size, Q, none⟩ (.int .u64 ((V : Int) + (S : Int))) = U at *
      have c0 := (arr_get y3 (numL_get (x + 2 ^ a) 0 (by omega))).1
      have c1 := (arr_get y3 (numL_get (x + 2 ^ a) 1 (by omega))).1
      have c2 := (arr_get y3 (numL_get (x + 2 ^ a) 2 (by omega))).1
      have c3 := (arr_get y3 (numL_get (x + 2 ^ a) 3 (by omega))).1
      have Y1 := Lib.hid y1
      have Y2 := Lib.hid y2
      have Y3 := Lib.hid y3
      clear y1 y2 y3
      go_wp2_with fail
      go_at_call 48
      have hm72 : x + 2 ^ a < 4722366482869645213696 := by have := HX72.out; omega
      refine (cu_any (x + 2 ^ a) whole B U.drew hm72 hw Y2.out).mono ?_
      rintro e w2 ⟨rfl, hb2⟩
      have hsz2 : wr.heap.size + 1 ≤ w2.heap.size := by have := hb2.size; rw [← y5]; exact this
      have u1 : w2.heap[w.heap.size]? = some (.cells (numL x).toArray 73 (0, 0)) := (hb2.block w.heap.size (by show _ < U.heap.size; omega)).trans Y1.out
      have u2 : Hid (w2.heap[B]? = some (.cells (numL whole).toArray 73 (0, 0))) := (hb2.block B (by show _ < U.heap.size; omega)).trans Y2.out
      have u3 : w2.heap[wr.heap.size]? = some (.cells (numL (x + 2 ^ a)).toArray 73 (0, 0)) := (hb2.block wr.heap.size (by show _ < U.heap.size; omega)).trans Y3.out
      have u4' : Below w.heap.size w w2 := y4.drew.trans (hb2.mono (show w.heap.size ≤ U.drew.heap.size by show w.heap.size ≤ U.heap.size; omega))
      clear hb2 y4 y5 Y1 Y2 Y3 c0 c1 c2 c3
      have e72 : 72 - (i + 1) = a := by omega
      have hxm : x = 2 * m * 2 ^ a := by rw [HXE.out, Nat.pow_succ, Nat.mul_comm (2 ^ a) 2, ← Nat.mul_assoc, Nat.mul_comm m 2]
      have hxm2 : x + 2 ^ a = (2 * m + 1) * 2 ^ a := by rw [Nat.add_mul, Nat.one_mul, ← hxm]
      have hm2 : 2 * m + 1 < 2 ^ (i + 1) := by have := HM.out; rw [Nat.pow_succ]; omega
      have HXM := Lib.hid hxm
      have HXM2 := Lib.hid hxm2
      have HM2 := Lib.hid hm2
      have E72 := Lib.hid e72
      have HPA := Lib.hid hpa
      clear hxm hxm2 hm2 e72 hpa
      obtain ⟨M, hM⟩ : ∃ M, M = x + 2 ^ a := ⟨_, rfl⟩
      rw [← hM] at u3 HXM2 ⊢
      by_cases hT : whole < M * M * M
      · have HT := Lib.hid hT
        have hd : decide (whole < M * M * M) = true := by simpa using hT
        have U1 := Lib.hid u1
        have hMe := Lib.hid hM
        clear hT u1 u3 hM
        rw [hd]
        clear hd
        go_wp2_with fail
        go_roundw
        case rel =>
          refine ⟨i + 1, 2 * m, by omega, congrArg (Value.int .i64) (by omega), by have := HM2.out; omega, ?_, ?_, ?_, u2.out, u4', by omega⟩
          · rw [E72.out, ← HXM.out]; exact hP
          · rw [E72.out, ← HXM.out, ← hMe.out]
            intro y h1 _ h2
            have h := h1
            exact absurd (Nat.lt_of_lt_of_le HT.out (Nat.le_trans (Nat.mul_le_mul (Nat.mul_le_mul h h) h) h2)) (Nat.lt_irrefl _)
          · rw [E72.out, ← HXM.out]; exact U1.out
        case measure => simp [intOf]; omega
      · have hd : decide (whole < M * M * M) = false := by simpa using hT
        have HT := Lib.hid hT
        have hMe := Lib.hid hM
        clear hT hM
        rw [hd]
        clear hd
        have d0 := (arr_get u3 (numL_get M 0 (by omega))).1
        have d1' := (arr_get u3 (numL_get M 1 (by omega))).1
        have d2' := (arr_get u3 (numL_get M 2 (by omega))).1
        have d3 := (arr_get u3 (numL_get M 3 (by omega))).1
        obtain ⟨g0, h0⟩ := arr_get u1 (numL_get x 0 (by omega))
        obtain ⟨g1, h1⟩ := arr_get u1 (numL_get x 1 (by omega))
        obtain ⟨g2, h2⟩ := arr_get u1 (numL_get x 2 (by omega))
        obtain ⟨g3, h3⟩ := arr_get u1 (numL_get x 3 (by omega))
        have v1 := arr_set (i := 3) (arr_set (i := 2) (arr_set (i := 1) (arr_set (i := 0) u1 (.int .u64 (wd M 0 : Int))) (.int .u64 (wd M 1 : Int))) (.int .u64 (wd M 2 : Int))) (.int .u64 (wd M 3 : Int))
        have q2 : ((((numL x).set 0 (.int .u64 (wd M 0 : Int))).set 1 (.int .u64 (wd M 1 : Int))).set 2 (.int .u64 (wd M 2 : Int))).set 3 (.int .u64 (wd M 3 : Int)) = numL M := rfl
        rw [q2] at v1
        have V1 := Lib.hid v1
        clear u1 u3 q2 v1
        go_wp2_with fail
        go_roundw
        case rel =>
          have nB : B ≠ w.heap.size := by omega
          refine ⟨i + 1, 2 * m + 1, by omega, congrArg (Value.int .i64) (by omega), HM2.out, ?_, ?_, ?_, ?_, ?_, ?_⟩
          · rw [E72.out, ← HXM2.out]; exact Nat.le_of_not_lt HT.out
          · rw [E72.out, ← HXM2.out]
            intro y h1 h2
            exact HQ.out y (by have := HPA.out; have := hMe.out; omega) h2
          · rw [E72.out, ← HXM2.out]; exact V1.out
          · exact set4_other w2 w.heap.size B (.int .u64 (wd M 0 : Int)) (.int .u64 (wd M 1 : Int)) (.int .u64 (wd M 2 : Int)) (.int .u64 (wd M 3 : Int)) _ u2.out nB
          · exact set4_below u4' (.int .u64 (wd M 0 : Int)) (.int .u64 (wd M 1 : Int)) (.int .u64 (wd M 2 : Int)) (.int .u64 (wd M 3 : Int))
          · exact Nat.lt_of_lt_of_eq (by omega : w.heap.size < w2.heap.size) (set4_size w2 w.heap.size (.int .u64 (wd M 0 : Int)) (.int .u64 (wd M 1 : Int)) (.int .u64 (wd M 2 : Int)) (.int .u64 (wd M 3 : Int))).symm
        case measure => simp [intOf]; omega
    · obtain rfl : i = 72 := by omega
      have p1 : ¬ ((72 : Nat) : Int) < 72 := by omega
      rw [Nat.sub_self, Nat.pow_zero, Nat.mul_one] at hP hQ hx
      have c0 := (arr_get hx (numL_get m 0 (by omega))).1
      have HT : Hid (top (fun y => y * y * y ≤ whole) m) := ⟨Nat.lt_of_lt_of_le hm (by decide), hP, fun y h1 h2 => hQ y h1 h2⟩
      clear hx hB hP hQ hm
      go_wp2_with fail
      go_ret
      exact ⟨m, HT.out, ret_int rfl, hb⟩
end Go.Proofs.Ytmjbhmpogpagjaa
