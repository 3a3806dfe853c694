/- wide.Rem: what it answers. The examples of layer 13. The examples of layer 13: lives. The law of bytes and bits, layer 13. -/
import Derived.Deep.DeepCutAuto
import Derived.Lib.QuietBelow
import Derived.Test.YtigfoophimjgdaaK20
import Derived.Test.YtigfoophimjgdaaK02
import Derived.Test.YtigfoophimjgdaaK05
namespace Go.Proofs.Ytigfoophimjgdaa
set_option maxRecDepth 20000
set_option linter.unusedSimpArgs false
set_option linter.unusedVariables false
open Go.RowKit
/-- The rest behind the first i bits of n, where x was the rest ahead of them. -/
def restN (m x n i : Nat) : Nat := (x * 2 ^ i + n / 2 ^ (256 - i)) % m
theorem rest_0 (m x n : Nat) (hx : x < m) (hn : n < B64 ^ 4) : restN m x n 0 = x := by
  unfold restN
  rw [Nat.pow_zero, Nat.mul_one, Nat.div_eq_of_lt (by rw [show 2 ^ (256 - 0) = B64 ^ 4 from rfl]; exact hn), Nat.add_zero, Nat.mod_eq_of_lt hx]
theorem rest_next (m x n i : Nat) (hi : i < 256) : (2 * restN m x n i + bitN n (255 - i)) % m = restN m x n (i + 1) := by
  unfold restN bitN
  have h1 : n / 2 ^ (256 - (i + 1)) = 2 * (n / 2 ^ (256 - i)) + n / 2 ^ (255 - i) % 2 := by
    rw [show 256 - (i + 1) = 255 - i by omega, show 256 - i = (255 - i) + 1 by omega, Nat.pow_succ, ← Nat.div_div_eq_div_mul]
    omega
  rw [h1, Nat.pow_succ, ← Nat.mul_assoc]
  generalize x * 2 ^ i = a
  generalize n / 2 ^ (256 - i) = c
  generalize n / 2 ^ (255 - i) % 2 = b
  rw [show a * 2 + (2 * c + b) = 2 * (a + c) + b by omega, Nat.add_mod, Nat.mul_mod, Nat.mod_mod, ← Nat.mul_mod, ← Nat.add_mod]
theorem rest_all (m x n : Nat) : restN m x n 256 = (x * B64 ^ 4 + n) % m := by
  unfold restN
  rw [Nat.sub_self, Nat.pow_zero, Nat.div_one]
  rfl
theorem rest_lt (m x n i : Nat) (hm : 0 < m) : restN m x n i < m := Nat.mod_lt _ hm
def remN (lo hi m : Nat) : Nat := if m = 0 then 0 else (hi * B64 ^ 4 + lo) % m
/-- What the loops of Rem leave as it was. -/
def remSt (hs R m r : Nat) (w : World) : Prop := w.heap[R]? = some (.cells (numL r).toArray 25 (0, 0)) ∧ w.heap[hs + 1 + 1]? = some (.cells (numL m).toArray 25 (0, 0)) ∧ w.heap[hs + 1 + 1 + 1]? = some (.cells (numL 0).toArray 25 (0, 0))
theorem remSt_below {hs R m r : Nat} {w w' : World} (h : remSt hs R m r w) (hb : Below w.heap.size w w') : remSt hs R m r w' := by
  obtain ⟨h1, h2, h3⟩ := h
  have lt : ∀ {k : Nat} {o : Obj}, w.heap[k]? = some o → k < w.heap.size := fun {k o} h => by
    apply Nat.lt_of_not_le
    intro hle
    rw [Array.getElem?_eq_none hle] at h
    simp at h
  exact ⟨(hb.block _ (lt h1)).trans h1, (hb.block _ (lt h2)).trans h2, (hb.block _ (lt h3)).trans h3⟩
theorem lt_get {w : World} {k : Nat} {o : Obj} (h : w.heap[k]? = some o) : k < w.heap.size := by
  apply Nat.lt_of_not_le
  intro hle
  rw [Array.getElem?_eq_none hle] at h
  simp at h
def remW (lo hi m : Nat) (w : World) : World := ((((w.alloc (.cells (numL lo).toArray 25)).alloc (.cells (numL hi).toArray 25)).alloc (.cells (numL m).toArray 25)).alloc (.cells (numL 0).toArray 25))
theorem remW_at (lo hi m : Nat) (w : World) : (remW lo hi m w).heap[w.heap.size]? = some (.cells (numL lo).toArray 25 (0, 0)) ∧ (remW lo hi m w).heap[w.heap.size + 1]? = some (.cells (numL hi).toArray 25 (0, 0)) ∧ (remW lo hi m w).heap[w.heap.size + 1 + 1]? = some (.cells (numL m).toArray 25 (0, 0)) ∧ (remW lo hi m w).heap[w.heap.size + 1 + 1 + 1]? = some (.cells (numL 0).toArray 25 (0, 0)) ∧ Below w.heap.size w (remW lo hi m w) ∧ (remW lo hi m w).heap.size = w.heap.size + 4 := by
  unfold remW
  refine ⟨?_, ?_, ?_, ?_, gr_alloc (gr_alloc (gr_alloc (gr_alloc (Below.refl _ _) _) _) _) _, by simp only [alloc_size1]⟩
  · rw [alloc_old _ _ _ (by simp only [alloc_size1]; omega), alloc_old _ _ _ (by simp only [alloc_size1]; omega), alloc_old _ _ _ (by simp only [alloc_size1]; omega), alloc_new]
  · rw [alloc_old _ _ _ (by simp only [alloc_size1]; omega), alloc_old _ _ _ (by simp only [alloc_size1]; omega)]
    have := alloc_new (w.alloc (.cells (numL lo).toArray 25)) (.cells (numL hi).toArray 25)
    simp only [alloc_size1] at this
    exact this
  · rw [alloc_old _ _ _ (by simp only [alloc_size1]; omega)]
    have := alloc_new ((w.alloc (.cells (numL lo).toArray 25)).alloc (.cells (numL hi).toArray 25)) (.cells (numL m).toArray 25)
    simp only [alloc_size1] at this
    exact this
  · have := alloc_new (((w.alloc (.cells (numL lo).toArray 25)).alloc (.cells (numL hi).toArray 25)).alloc (.cells (numL m).toArray 25)) (.cells (numL 0).toArray 25)
    simp only [alloc_size1] at this
    exact this
def restK (lo hi m k : Nat) : Nat := if k = 0 then 0 else if k = 1 then hi % m else (hi * B64 ^ 4 + lo) % m
theorem restK_0 (lo hi m : Nat) : restK lo hi m 0 = 0 := by unfold restK; rw [if_pos rfl]
theorem restK_1 (lo hi m : Nat) : restK lo hi m 1 = hi % m := by unfold restK; rw [if_neg (by omega), if_pos rfl]
theorem restK_2 (lo hi m : Nat) : restK lo hi m 2 = (hi * B64 ^ 4 + lo) % m := by unfold restK; rw [if_neg (by omega), if_neg (by omega)]
theorem of_grown {w0 w v : World} {B R : Nat} (h0 : Below B w0 w) (h : w.grownBy v (some R)) (hB : B ≤ w.heap.size) (hR : B ≤ R) : Below B w0 v :=
  h0.trans ⟨h.os, h.tape, h.output, h.size, fun k hk => h.5 k (by omega) (fun e => by injection e; omega)⟩
theorem grown_block {w v : World} {R k : Nat} {o : Obj} (h : w.grownBy v (some R)) (hk : w.heap[k]? = some o) (hne : k ≠ R) : v.heap[k]? = some o :=
  (h.5 k (lt_get hk) (fun e => by injection e; omega)).trans hk
theorem bit_open (n j : Nat) (w : World) (hj : j < 256) :
    Calls Try.prog 53 #[.agg #[.int .u64 (wd n 0 : Int), .int .u64 (wd n 1 : Int), .int .u64 (wd n 2 : Int), .int .u64 (wd n 3 : Int)], .int .i64 (255 - (j : Int))] w fun e w' => e = .returned (.int .u64 (bitN n (255 - j) : Int)) ∧ Below w.heap.size w w' := by
  have h := bit_any n (255 - j) w (by omega)
  rw [show (((255 - j : Nat)) : Int) = 255 - (j : Int) by omega] at h
  exact h
theorem pick_0 (lo hi : Nat) (w : World) : Sem.run Try.prog (Instr.index 145 (.agg #[.int .u64 (wd hi 0 : Int), .int .u64 (wd hi 1 : Int), .int .u64 (wd hi 2 : Int), .int .u64 (wd hi 3 : Int), .int .u64 (wd lo 0 : Int), .int .u64 (wd lo 1 : Int), .int .u64 (wd lo 2 : Int), .int .u64 (wd lo 3 : Int)]) (.int .i64 0)) w = .ok (.agg #[.int .u64 (wd hi 0 : Int), .int .u64 (wd hi 1 : Int), .int .u64 (wd hi 2 : Int), .int .u64 (wd hi 3 : Int)]) w := by kernel_rfl
theorem pick_1 (lo hi : Nat) (w : World) : Sem.run Try.prog (Instr.index 145 (.agg #[.int .u64 (wd hi 0 : Int), .int .u64 (wd hi 1 : Int), .int .u64 (wd hi 2 : Int), .int .u64 (wd hi 3 : Int), .int .u64 (wd lo 0 : Int), .int .u64 (wd lo 1 : Int), .int .u64 (wd lo 2 : Int), .int .u64 (wd lo 3 : Int)]) (.int .i64 1)) w = .ok (.agg #[.int .u64 (wd lo 0 : Int), .int .u64 (wd lo 1 : Int), .int .u64 (wd lo 2 : Int), .int .u64 (wd lo 3 : Int)]) w := by kernel_rfl
set_option maxHeartbeats 8000000 in
theorem rem_any (lo hi m : Nat) (w : World) (hlo : lo < B64 ^ 4) (hhi : hi < B64 ^ 4) (hm : m < B64 ^ 4) (h0 : 0 < m) :
    Calls Try.prog 69 #[numV lo, numV hi, numV m] w fun e w' => e = .returned (numV (remN lo hi m)) ∧ Below w.heap.size w w' := by
  have IZ := fun w => isZero_any m w hm
  rw [decide_eq_false (by omega : ¬ m = 0)] at IZ
  unfold numV at IZ
  have hIZ := Lib.hid IZ
  clear IZ
  rw [show numV lo = .agg #[.int .u64 (wd lo 0 : Int), .int .u64 (wd lo 1 : Int), .int .u64 (wd lo 2 : Int), .int .u64 (wd lo 3 : Int)] from rfl, show numV hi = .agg #[.int .u64 (wd hi 0 : Int), .int .u64 (wd hi 1 : Int), .int .u64 (wd hi 2 : Int), .int .u64 (wd hi 3 : Int)] from rfl, show numV m = .agg #[.int .u64 (wd m 0 : Int), .int .u64 (wd m 1 : Int), .int .u64 (wd m 2 : Int), .int .u64 (wd m 3 : Int)] from rfl]
  have e0 : (numL 0).toArray = #[.int .u64 0, .int .u64 0, .int .u64 0, .int .u64 0] := by simp [numL, wd]
  go_enter Try.func69, Try.ntmps69
  go_wp2_with fail
  go_at_call 29
  have hW := remW_at lo hi m w
  change Calls _ _ _ (remW lo hi m w) _
  generalize remW lo hi m w = X at *
  obtain ⟨a0, a1, a2, a3, aB, aS⟩ := hW
  refine (hIZ.out X).mono ?_
  rintro e w1 ⟨rfl, hb1⟩
  have s1 := hb1.size
  have b0 := (hb1.block w.heap.size (by omega)).trans a0
  have b1 := (hb1.block (w.heap.size + 1) (by omega)).trans a1
  have b2 := (hb1.block (w.heap.size + 1 + 1) (by omega)).trans a2
  have b3 := (hb1.block (w.heap.size + 1 + 1 + 1) (by omega)).trans a3
  have bB : Below w.heap.size w w1 := aB.trans (hb1.mono (by omega))
  clear a0 a1 a2 a3 aB hb1 hIZ
  have c0 := (arr_get b0 (numL_get lo 0 (by omega))).1
  have c1 := (arr_get b0 (numL_get lo 1 (by omega))).1
  have c2 := (arr_get b0 (numL_get lo 2 (by omega))).1
  have c3 := (arr_get b0 (numL_get lo 3 (by omega))).1
  have d0 := (arr_get b1 (numL_get hi 0 (by omega))).1
  have d1 := (arr_get b1 (numL_get hi 1 (by omega))).1
  have d2 := (arr_get b1 (numL_get hi 2 (by omega))).1
  have d3 := (arr_get b1 (numL_get hi 3 (by omega))).1
  have l0 : w.heap.size < w1.heap.size := by omega
  have l1 : w.heap.size + 1 < w1.heap.size := by omega
  have hx1 : remSt w.heap.size w1.heap.size m 0 (w1.alloc (.cells (numL 0).toArray 25)) := ⟨alloc_new _ _, (alloc_old _ _ _ (by omega)).trans b2, (alloc_old _ _ _ (by omega)).trans b3⟩
  have hx2 : Below w.heap.size w (w1.alloc (.cells (numL 0).toArray 25)) := gr_alloc bB _
  have hx3 : w1.heap.size < (w1.alloc (.cells (numL 0).toArray 25)).heap.size := by rw [alloc_size1]; omega
  have hx4 : w.heap.size + 4 ≤ w1.heap.size := by omega
  have HX1 := Lib.hid hx1
  have HX2 := Lib.hid hx2
  clear hx1 hx2 b0 b1 b2 b3 bB
  go_wp2_with fail
  go_loopw [19] (fun j wr => ∃ k : Nat, k ≤ 2 ∧ j = .int .i64 (k : Int) ∧ remSt w.heap.size w1.heap.size m (restK lo hi m k) wr ∧ Below w.heap.size w wr ∧ w1.heap.size < wr.heap.size) (fun j _ => 2 - (intOf j).toNat)
  case atStart => exact ⟨0, by omega, rfl, HX1.out, HX2.out, hx3⟩
  case round =>
    clear HX1 HX2 hx3
    obtain ⟨k, hk, hje, hst, hbl, hsz⟩ := hrel
    have hcase : k = 0 ∨ k = 1 ∨ k = 2 := by omega
    rcases hcase with rfl | rfl | rfl
    · change _ = Value.int .i64 0 at hje
      subst hje
      have q1 := remSt_below hst (gr_alloc (Below.refl _ _) (.cells (numL hi).toArray 25))
      have q1 : remSt w.heap.size w1.heap.size m (restN m (0) hi 0) (wr.alloc (.cells (numL hi).toArray 25)) := by
        rw [rest_0 m (0) hi (h0) (by assumption)]
        rw [restK_0] at q1
        exact q1
      have q2 : (wr.alloc (.cells (numL hi).toArray 25)).heap[wr.heap.size]? = some (.cells (numL hi).toArray 25 (0, 0)) := alloc_new _ _
      have q3 : Below w.heap.size w (wr.alloc (.cells (numL hi).toArray 25)) := gr_alloc hbl _
      have q4 : (wr.alloc (.cells (numL hi).toArray 25)).heap.size = wr.heap.size + 1 := alloc_size1 _ _
      have Q := Lib.hid (And.intro q1 (And.intro q2 q3))
      clear hst hbl q1 q2 q3
      have P0 := pick_0 lo hi wr
      go_wp2_with fail
      clear P0 c0 c1 c2 c3 d0 d1 d2 d3
      go_loopw [22] (fun i v => ∃ j : Nat, j ≤ 256 ∧ i = .int .i64 (j : Int) ∧ remSt w.heap.size w1.heap.size m (restN m (0) hi j) v ∧ v.heap[wr.heap.size]? = some (.cells (numL hi).toArray 25 (0, 0)) ∧ Below w.heap.size w v ∧ wr.heap.size < v.heap.size) (fun i _ => 256 - (intOf i).toNat)
      case atStart => exact ⟨0, by omega, rfl, Q.out.1, Q.out.2.1, Q.out.2.2, Nat.lt_of_lt_of_eq (Nat.lt_succ_self _) q4.symm⟩
      case round =>
        clear Q q4
        obtain ⟨j, hj, rfl, hst, hn, hbl, hsv⟩ := hrel
        by_cases hlt : j < 256
        · have p1 : (j : Int) < 256 := by omega
          have n0 := (arr_get hn (numL_get hi 0 (by omega))).1
          have n1 := (arr_get hn (numL_get hi 1 (by omega))).1
          have n2 := (arr_get hn (numL_get hi 2 (by omega))).1
          have n3 := (arr_get hn (numL_get hi 3 (by omega))).1
          have ST := Lib.hid hst
          have HN := Lib.hid hn
          have BL := Lib.hid hbl
          clear hst hn hbl
          go_wp2_with fail
          go_at_call 53
          refine (bit_open hi j _ hlt).mono ?_
          rintro e v2 ⟨rfl, hb2⟩
          clear n0 n1 n2 n3
          have hz2 := hb2.size
          have ST2 := Lib.hid (remSt_below ST.out hb2)
          have HN2 := Lib.hid ((hb2.block _ hsv).trans HN.out)
          have BL2 := Lib.hid (BL.out.trans (hb2.mono (by omega)))
          clear ST HN BL hb2
          go_wp2_with fail
          go_at_call 105
          refine (take_any (restN m (0) hi j) m (bitN hi (255 - j)) w1.heap.size (w.heap.size + 1 + 1) v2 (rest_lt _ _ _ _ h0) hm (bitN_lt _ _) ST2.out.1 ST2.out.2.1).mono ?_
          rintro e v3 ⟨rfl, hr3, hg3⟩
          rw [rest_next _ _ _ _ hlt] at hr3
          have hz3 := hg3.4
          have ST3 := Lib.hid (show remSt w.heap.size w1.heap.size m (restN m (0) hi (j + 1)) v3 from ⟨hr3, grown_block hg3 ST2.out.2.1 (by omega), grown_block hg3 ST2.out.2.2 (by omega)⟩)
          have HN3 := Lib.hid (grown_block hg3 HN2.out (by omega))
          have BL3 := Lib.hid (of_grown BL2.out hg3 (by omega) (by omega))
          clear ST2 HN2 BL2 hg3 hr3
          go_wp2_with fail
          go_roundw
          case rel => exact ⟨j + 1, by omega, congrArg (Value.int .i64) (by omega), ST3.out, HN3.out, BL3.out, by omega⟩
          case measure => simp [intOf]; omega
        · have p1 : ¬ (j : Int) < 256 := by omega
          obtain rfl : j = 256 := by omega
          rw [rest_all] at hst
          have hst' : remSt w.heap.size w1.heap.size m (restK lo hi m 1) wr := by
            rw [Nat.zero_mul, Nat.zero_add] at hst
            rw [restK_1]
            exact hst
          have ST := Lib.hid hst'
          have BL := Lib.hid hbl
          clear hst hst' hn hbl
          go_wp2_with fail
          go_roundw
          case rel => exact ⟨1, by omega, rfl, ST.out, BL.out, by omega⟩
          case measure => simp [intOf]
    · change _ = Value.int .i64 1 at hje
      subst hje
      have q1 := remSt_below hst (gr_alloc (Below.refl _ _) (.cells (numL lo).toArray 25))
      have q1 : remSt w.heap.size w1.heap.size m (restN m (hi % m) lo 0) (wr.alloc (.cells (numL lo).toArray 25)) := by
        rw [rest_0 m (hi % m) lo (Nat.mod_lt _ h0) (by assumption)]
        rw [restK_1] at q1
        exact q1
      have q2 : (wr.alloc (.cells (numL lo).toArray 25)).heap[wr.heap.size]? = some (.cells (numL lo).toArray 25 (0, 0)) := alloc_new _ _
      have q3 : Below w.heap.size w (wr.alloc (.cells (numL lo).toArray 25)) := gr_alloc hbl _
      have q4 : (wr.alloc (.cells (numL lo).toArray 25)).heap.size = wr.heap.size + 1 := alloc_size1 _ _
      have Q := Lib.hid (And.intro q1 (And.intro q2 q3))
      clear hst hbl q1 q2 q3
      have P0 := pick_1 lo hi wr
      go_wp2_with fail
      clear P0 c0 c1 c2 c3 d0 d1 d2 d3
      go_loopw [22] (fun i v => ∃ j : Nat, j ≤ 256 ∧ i = .int .i64 (j : Int) ∧ remSt w.heap.size w1.heap.size m (restN m (hi % m) lo j) v ∧ v.heap[wr.heap.size]? = some (.cells (numL lo).toArray 25 (0, 0)) ∧ Below w.heap.size w v ∧ wr.heap.size < v.heap.size) (fun i _ => 256 - (intOf i).toNat)
      case atStart => exact ⟨0, by omega, rfl, Q.out.1, Q.out.2.1, Q.out.2.2, Nat.lt_of_lt_of_eq (Nat.lt_succ_self _) q4.symm⟩
      case round =>
        clear Q q4
        obtain ⟨j, hj, rfl, hst, hn, hbl, hsv⟩ := hrel
        by_cases hlt : j < 256
        · have p1 : (j : Int) < 256 := by omega
          have n0 := (arr_get hn (numL_get lo 0 (by omega))).1
          have n1 := (arr_get hn (numL_get lo 1 (by omega))).1
          have n2 := (arr_get hn (numL_get lo 2 (by omega))).1
          have n3 := (arr_get hn (numL_get lo 3 (by omega))).1
          have ST := Lib.hid hst
          have HN := Lib.hid hn
          have BL := Lib.hid hbl
          clear hst hn hbl
          go_wp2_with fail
          go_at_call 53
          refine (bit_open lo j _ hlt).mono ?_
          rintro e v2 ⟨rfl, hb2⟩
          clear n0 n1 n2 n3
          have hz2 := hb2.size
          have ST2 := Lib.hid (remSt_below ST.out hb2)
          have HN2 := Lib.hid ((hb2.block _ hsv).trans HN.out)
          have BL2 := Lib.hid (BL.out.trans (hb2.mono (by omega)))
          clear ST HN BL hb2
          go_wp2_with fail
          go_at_call 105
          refine (take_any (restN m (hi % m) lo j) m (bitN lo (255 - j)) w1.heap.size (w.heap.size + 1 + 1) v2 (rest_lt _ _ _ _ h0) hm (bitN_lt _ _) ST2.out.1 ST2.out.2.1).mono ?_
          rintro e v3 ⟨rfl, hr3, hg3⟩
          rw [rest_next _ _ _ _ hlt] at hr3
          have hz3 := hg3.4
          have ST3 := Lib.hid (show remSt w.heap.size w1.heap.size m (restN m (hi % m) lo (j + 1)) v3 from ⟨hr3, grown_block hg3 ST2.out.2.1 (by omega), grown_block hg3 ST2.out.2.2 (by omega)⟩)
          have HN3 := Lib.hid (grown_block hg3 HN2.out (by omega))
          have BL3 := Lib.hid (of_grown BL2.out hg3 (by omega) (by omega))
          clear ST2 HN2 BL2 hg3 hr3
          go_wp2_with fail
          go_roundw
          case rel => exact ⟨j + 1, by omega, congrArg (Value.int .i64) (by omega), ST3.out, HN3.out, BL3.out, by omega⟩
          case measure => simp [intOf]; omega
        · have p1 : ¬ (j : Int) < 256 := by omega
          obtain rfl : j = 256 := by omega
          rw [rest_all] at hst
          have hst' : remSt w.heap.size w1.heap.size m (restK lo hi m 2) wr := by
            have hmul : (hi % m * B64 ^ 4 + lo) % m = (hi * B64 ^ 4 + lo) % m := by
              rw [Nat.add_mod, Nat.mul_mod, Nat.mod_mod, ← Nat.mul_mod, ← Nat.add_mod]
            rw [hmul] at hst
            rw [restK_2]
            exact hst
          have ST := Lib.hid hst'
          have BL := Lib.hid hbl
          clear hst hst' hn hbl
          go_wp2_with fail
          go_roundw
          case rel => exact ⟨2, by omega, rfl, ST.out, BL.out, by omega⟩
          case measure => simp [intOf]
    · change _ = Value.int .i64 2 at hje
      subst hje
      have r0 := (arr_get hst.1 (numL_get _ 0 (by omega))).1
      have r1 := (arr_get hst.1 (numL_get _ 1 (by omega))).1
      have r2 := (arr_get hst.1 (numL_get _ 2 (by omega))).1
      have r3 := (arr_get hst.1 (numL_get _ 3 (by omega))).1
      have z0 := (arr_get hst.2.2 (numL_get _ 0 (by omega)))
      have z1 := (arr_get hst.2.2 (numL_get _ 1 (by omega)))
      have z2 := (arr_get hst.2.2 (numL_get _ 2 (by omega)))
      have z3 := (arr_get hst.2.2 (numL_get _ 3 (by omega)))
      obtain ⟨z0, y0⟩ := z0
      obtain ⟨z1, y1⟩ := z1
      obtain ⟨z2, y2⟩ := z2
      obtain ⟨z3, y3⟩ := z3
      have hn := set4_num (y := restK lo hi m 2) hst.2.2
      have hbb : Below w.heap.size w (set4 wr (w.heap.size + 1 + 1 + 1) (.int .u64 (wd (restK lo hi m 2) 0 : Int)) (.int .u64 (wd (restK lo hi m 2) 1 : Int)) (.int .u64 (wd (restK lo hi m 2) 2 : Int)) (.int .u64 (wd (restK lo hi m 2) 3 : Int))) := (((hbl.setCell (by simp only []; omega) _).setCell (by simp only []; omega) _).setCell (by simp only []; omega) _).setCell (by simp only []; omega) _
      have kl := run_loadVar_row (P := Try.prog) _ _ 25 25 _ (0, 0) _ hn Try.underlying25 rfl (by kernel_rfl)
      have KL := Lib.hid kl
      have BB := Lib.hid hbb
      clear hst hbl kl hbb hn
      go_wp2_with fail
      exact bodyPost_ret (v := numV (restK lo hi m 2)) (results_arr Try.results69 (by rfl) KL.out) rfl ⟨by unfold restK remN; rw [if_neg (by omega), if_neg (by omega), if_neg (by omega)], BB.out⟩
set_option maxHeartbeats 8000000 in
theorem rem_zero (lo hi : Nat) (w : World) :
    Calls Try.prog 69 #[numV lo, numV hi, numV 0] w fun e w' => e = .returned (numV (remN lo hi 0)) ∧ Below w.heap.size w w' := by
  have IZ := fun w => isZero_any 0 w (Nat.pow_pos B64_pos)
  rw [decide_eq_true (rfl : (0 : Nat) = 0)] at IZ
  unfold numV at IZ
  have hIZ := Lib.hid IZ
  clear IZ
  rw [show numV lo = .agg #[.int .u64 (wd lo 0 : Int), .int .u64 (wd lo 1 : Int), .int .u64 (wd lo 2 : Int), .int .u64 (wd lo 3 : Int)] from rfl, show numV hi = .agg #[.int .u64 (wd hi 0 : Int), .int .u64 (wd hi 1 : Int), .int .u64 (wd hi 2 : Int), .int .u64 (wd hi 3 : Int)] from rfl, show numV 0 = .agg #[.int .u64 (wd 0 0 : Int), .int .u64 (wd 0 1 : Int), .int .u64 (wd 0 2 : Int), .int .u64 (wd 0 3 : Int)] from rfl]
  have e0 : (numL 0).toArray = #[.int .u64 0, .int .u64 0, .int .u64 0, .int .u64 0] := by simp [numL, wd]
  go_enter Try.func69, Try.ntmps69
  go_wp2_with fail
  go_at_call 29
  have hW := remW_at lo hi 0 w
  change Calls _ _ _ (remW lo hi 0 w) _
  generalize remW lo hi 0 w = X at *
  obtain ⟨a0, a1, a2, a3, aB, aS⟩ := hW
  refine (hIZ.out X).mono ?_
  rintro e w1 ⟨rfl, hb1⟩
  have s1 := hb1.size
  have b3 := (hb1.block (w.heap.size + 1 + 1 + 1) (by omega)).trans a3
  have bB : Below w.heap.size w w1 := aB.trans (hb1.mono (by omega))
  clear a0 a1 a2 a3 aB hb1 hIZ
  obtain ⟨z0, y0⟩ := (arr_get b3 (numL_get _ 0 (by omega)))
  obtain ⟨z1, y1⟩ := (arr_get b3 (numL_get _ 1 (by omega)))
  obtain ⟨z2, y2⟩ := (arr_get b3 (numL_get _ 2 (by omega)))
  obtain ⟨z3, y3⟩ := (arr_get b3 (numL_get _ 3 (by omega)))
  have hn := set4_num (y := 0) b3
  have hbb : Below w.heap.size w (set4 w1 (w.heap.size + 1 + 1 + 1) (.int .u64 (wd 0 0 : Int)) (.int .u64 (wd 0 1 : Int)) (.int .u64 (wd 0 2 : Int)) (.int .u64 (wd 0 3 : Int))) := (((bB.setCell (by simp only []; omega) _).setCell (by simp only []; omega) _).setCell (by simp only []; omega) _).setCell (by simp only []; omega) _
  have kl := run_loadVar_row (P := Try.prog) _ _ 25 25 _ (0, 0) _ hn Try.underlying25 rfl (by kernel_rfl)
  have KL := Lib.hid kl
  have BB := Lib.hid hbb
  clear kl hbb hn b3 bB
  go_wp2_with fail
  exact bodyPost_ret (v := numV 0) (results_arr Try.results69 (by rfl) KL.out) rfl ⟨by unfold remN; rw [if_pos rfl], BB.out⟩
/-- wide.Rem, whatever m is. -/
theorem rem_whole (lo hi m : Nat) (w : World) (hlo : lo < B64 ^ 4) (hhi : hi < B64 ^ 4) (hm : m < B64 ^ 4) :
    Calls Try.prog 69 #[numV lo, numV hi, numV m] w fun e w' => e = .returned (numV (remN lo hi m)) ∧ Below w.heap.size w w' := by
  by_cases h : m = 0
  · subst h; exact rem_zero lo hi w
  · exact rem_any lo hi m w hlo hhi hm (by omega)
end Go.Proofs.Ytigfoophimjgdaa
namespace Go.Proofs.Ytigfoophimjgdaa
set_option maxRecDepth 20000
set_option linter.unusedSimpArgs false
set_option linter.unusedVariables false
open Go.RowKit
def M4 : Nat := 115792089237316195423570985008687907853269984665640564039457584007913129639935
def H4 : Nat := 57896044618658097711785492504343953926634992332820282019728792003956564819968
theorem num_M4 : numV M4 = .agg #[.int .u64 18446744073709551615, .int .u64 18446744073709551615, .int .u64 18446744073709551615, .int .u64 18446744073709551615] := by kernel_rfl
theorem num_H4 : numV H4 = .agg #[.int .u64 0, .int .u64 0, .int .u64 0, .int .u64 9223372036854775808] := by kernel_rfl
theorem num_0 : numV 0 = .agg #[.int .u64 0, .int .u64 0, .int .u64 0, .int .u64 0] := by kernel_rfl
theorem num_1 : numV 1 = .agg #[.int .u64 1, .int .u64 0, .int .u64 0, .int .u64 0] := by kernel_rfl
theorem num_2 : numV 2 = .agg #[.int .u64 2, .int .u64 0, .int .u64 0, .int .u64 0] := by kernel_rfl
theorem num_3 : numV 3 = .agg #[.int .u64 3, .int .u64 0, .int .u64 0, .int .u64 0] := by kernel_rfl
theorem num_5 : numV 5 = .agg #[.int .u64 5, .int .u64 0, .int .u64 0, .int .u64 0] := by kernel_rfl
theorem add_M4 : addN M4 1 = 0 ∧ addK M4 1 = 1 := by decide +kernel
theorem M4_small1 (w : World) : Calls Try.prog 65 #[.int .u64 1] w fun e w' => e = .returned (.agg #[.int .u64 1, .int .u64 0, .int .u64 0, .int .u64 0]) ∧ Below w.heap.size w w' := by
  have h := small_any 1 w (by decide)
  rw [num_1] at h
  exact h
theorem M4_add (w : World) : Calls Try.prog 68 #[.agg #[.int .u64 18446744073709551615, .int .u64 18446744073709551615, .int .u64 18446744073709551615, .int .u64 18446744073709551615], .agg #[.int .u64 1, .int .u64 0, .int .u64 0, .int .u64 0]] w fun e w' => e = .returned (.tuple #[.agg #[.int .u64 0, .int .u64 0, .int .u64 0, .int .u64 0], .int .u64 1]) ∧ Below w.heap.size w w' := by
  have h := add_any M4 1 w (by decide +kernel) (by decide +kernel)
  rw [add_M4.1, add_M4.2, num_M4, num_1, num_0] at h
  exact h
theorem lt_cell {w : World} {b i : Nat} {v : Value} (h : w.cell? ⟨b, i, none⟩ = some v) : b < w.heap.size := by
  apply Nat.lt_of_not_le
  intro hle
  simp [World.cell?, Array.getElem?_eq_none hle] at h
def LS (B : Nat) (v0 v1 v2 v3 : Value) (w w' : World) : Prop := w'.cell? ⟨B, 0, none⟩ = some v0 ∧ w'.cell? ⟨B, 1, none⟩ = some v1 ∧ w'.cell? ⟨B, 2, none⟩ = some v2 ∧ w'.cell? ⟨B, 3, none⟩ = some v3 ∧ Below B w w'
theorem LS_call {B : Nat} {v0 v1 v2 v3 : Value} {w a b : World} (h : LS B v0 v1 v2 v3 w a) (hb : Below a.heap.size a b) : LS B v0 v1 v2 v3 w b := by
  obtain ⟨h0, h1, h2, h3, h5⟩ := h
  have h4 := lt_cell h0
  have hz := hb.size
  exact ⟨(hb.cell (p := ⟨B, 0, none⟩) h4).trans h0, (hb.cell (p := ⟨B, 1, none⟩) h4).trans h1, (hb.cell (p := ⟨B, 2, none⟩) h4).trans h2, (hb.cell (p := ⟨B, 3, none⟩) h4).trans h3, h5.trans (hb.mono (by omega))⟩
theorem LS_alloc {B : Nat} {v0 v1 v2 v3 : Value} {w a : World} (h : LS B v0 v1 v2 v3 w a) (o : Obj) : LS B v0 v1 v2 v3 w (a.alloc o) := LS_call h (gr_alloc (Below.refl _ _) o)
theorem LS_drew {B : Nat} {v0 v1 v2 v3 : Value} {w a : World} (h : LS B v0 v1 v2 v3 w a) : LS B v0 v1 v2 v3 w a.drew := ⟨h.1, h.2.1, h.2.2.1, h.2.2.2.1, h.2.2.2.2.drew⟩
theorem new_zero (w : World) (k : Nat) (hk : k < 4) : (w.alloc (.cells #[.int .u64 0, .int .u64 0, .int .u64 0, .int .u64 0] 25)).cell? ⟨w.heap.size, k, none⟩ = some (.int .u64 0) ∧ (w.alloc (.cells #[.int .u64 0, .int .u64 0, .int .u64 0, .int .u64 0] 25)).frozen? ⟨w.heap.size, k, none⟩ = false := by
  have h : (w.alloc (.cells #[.int .u64 0, .int .u64 0, .int .u64 0, .int .u64 0] 25)).heap[w.heap.size]? = some (.cells ([.int .u64 0, .int .u64 0, .int .u64 0, .int .u64 0] : List Value).toArray 25 (0, 0)) := alloc_new w _
  refine arr_get h ?_
  match k, hk with
  | 0, _ => rfl | 1, _ => rfl | 2, _ => rfl | 3, _ => rfl
end Go.Proofs.Ytigfoophimjgdaa
namespace Go.Proofs.Ytigfoophimjgdaa
set_option maxRecDepth 20000
set_option linter.unusedSimpArgs false
set_option linter.unusedVariables false
open Go.RowKit
theorem small2 : Hid (∀ w, Calls Try.prog 65 #[.int .u64 2] w fun e w' => e = .returned (.agg #[.int .u64 2, .int .u64 0, .int .u64 0, .int .u64 0]) ∧ Below w.heap.size w w') := fun w => by
  have h := small_any 2 w (by decide)
  rw [num_2] at h
  exact h
theorem mulH2 : Hid (∀ w, Calls Try.prog 96 #[.agg #[.int .u64 0, .int .u64 0, .int .u64 0, .int .u64 9223372036854775808], .agg #[.int .u64 2, .int .u64 0, .int .u64 0, .int .u64 0]] w fun e w' => e = .returned (.tuple #[.agg #[.int .u64 0, .int .u64 0, .int .u64 0, .int .u64 0], .agg #[.int .u64 1, .int .u64 0, .int .u64 0, .int .u64 0]]) ∧ Below w.heap.size w w') := fun w => by
  have h := mul_any H4 2 w (by decide +kernel) (by decide +kernel)
  rw [show H4 * 2 % B64 ^ 4 = 0 by decide +kernel, show H4 * 2 / B64 ^ 4 = 1 by decide +kernel, num_H4, num_2, num_0, num_1] at h
  exact h
theorem isz0 : Hid (∀ w, Calls Try.prog 29 #[.agg #[.int .u64 0, .int .u64 0, .int .u64 0, .int .u64 0]] w fun e w' => e = .returned (.bool true) ∧ Below w.heap.size w w') := fun w => by
  have h := isZero_any 0 w (by decide +kernel)
  rw [num_0] at h
  exact h
theorem smalls : Hid ((∀ w, Calls Try.prog 65 #[.int .u64 1] w fun e w' => e = .returned (.agg #[.int .u64 1, .int .u64 0, .int .u64 0, .int .u64 0]) ∧ Below w.heap.size w w') ∧
    (∀ w, Calls Try.prog 65 #[.int .u64 5] w fun e w' => e = .returned (.agg #[.int .u64 5, .int .u64 0, .int .u64 0, .int .u64 0]) ∧ Below w.heap.size w w') ∧
    (∀ w, Calls Try.prog 65 #[.int .u64 3] w fun e w' => e = .returned (.agg #[.int .u64 3, .int .u64 0, .int .u64 0, .int .u64 0]) ∧ Below w.heap.size w w') ∧
    (∀ w, Calls Try.prog 65 #[.int .u64 2] w fun e w' => e = .returned (.agg #[.int .u64 2, .int .u64 0, .int .u64 0, .int .u64 0]) ∧ Below w.heap.size w w')) := by
  refine ⟨fun w => ?_, fun w => ?_, fun w => ?_, fun w => ?_⟩
  · have h := small_any 1 w (by decide); rw [num_1] at h; exact h
  · have h := small_any 5 w (by decide); rw [num_5] at h; exact h
  · have h := small_any 3 w (by decide); rw [num_3] at h; exact h
  · have h := small_any 2 w (by decide); rw [num_2] at h; exact h
theorem rem523 : Hid (∀ w, Calls Try.prog 69 #[.agg #[.int .u64 5, .int .u64 0, .int .u64 0, .int .u64 0], .agg #[.int .u64 0, .int .u64 0, .int .u64 0, .int .u64 0], .agg #[.int .u64 3, .int .u64 0, .int .u64 0, .int .u64 0]] w fun e w' => e = .returned (.agg #[.int .u64 2, .int .u64 0, .int .u64 0, .int .u64 0]) ∧ Below w.heap.size w w') := fun w => by
  have h := rem_whole 5 0 3 w (by decide +kernel) (by decide +kernel) (by decide +kernel)
  rw [show remN 5 0 3 = 2 by decide +kernel, num_5, num_0, num_3, num_2] at h
  exact h
end Go.Proofs.Ytigfoophimjgdaa
namespace Go.Proofs.Ytigfoophimjgdaa
set_option maxRecDepth 20000
set_option linter.unusedSimpArgs false
set_option linter.unusedVariables false
open Go.RowKit
theorem leN_digits (n : Nat) : ∀ k m, leN ((List.range k).map fun i => UInt8.ofNat (n / 256 ^ (m + i) % 256)) = n / 256 ^ m % 256 ^ k
  | 0, m => by simp [leN, Nat.mod_one]
  | k + 1, m => by
    rw [List.range_succ_eq_map, List.map_cons, List.map_map, leN]
    have h := leN_digits n k (m + 1)
    have e : (fun i => UInt8.ofNat (n / 256 ^ (m + i) % 256)) ∘ Nat.succ = fun i => UInt8.ofNat (n / 256 ^ (m + 1 + i) % 256) := by
      funext i
      simp only [Function.comp]
      rw [show m + Nat.succ i = m + 1 + i by omega]
    rw [e, h, Nat.add_zero, UInt8.toNat_ofNat', show (256 : Nat) ^ (k + 1) = 256 * 256 ^ k by rw [Nat.pow_succ, Nat.mul_comm], Nat.mod_mul, Nat.pow_succ 256 m, ← Nat.div_div_eq_div_mul]
    have h8 : n / 256 ^ m % 256 % 2 ^ 8 = n / 256 ^ m % 256 := Nat.mod_eq_of_lt (Nat.mod_lt _ (by decide))
    rw [h8]
theorem leN_byL (n : Nat) (h : n < B64 ^ 4) : leN (byL n) = n := by
  have := leN_digits n 32 0
  simp only [Nat.zero_add, Nat.pow_zero, Nat.div_one] at this
  unfold byL
  rw [this, Nat.mod_eq_of_lt (by rw [show 256 ^ 32 = B64 ^ 4 by decide]; exact h)]
theorem byL_leN (l : List UInt8) (h : l.length = 32) : byL (leN l) = l := by
  unfold byL
  refine List.ext_getElem (by simp [h]) fun i h1 h2 => ?_
  simp only [List.getElem_map, List.getElem_range]
  rw [leN_at, List.getD_eq_getElem?_getD, List.getElem?_eq_getElem h2]
  simp
theorem high_step (n k : Nat) : Go.bitLen (n % 2 ^ (k + 1)) = if n / 2 ^ k % 2 = 1 then k + 1 else Go.bitLen (n % 2 ^ k) := by
  have hm : n % 2 ^ (k + 1) = n % 2 ^ k + 2 ^ k * (n / 2 ^ k % 2) := by rw [Nat.pow_succ, Nat.mod_mul]
  have hlt := Nat.mod_lt n (Nat.pow_pos (n := k) (by decide : 0 < 2))
  split
  · rename_i h
    rw [hm, h, Nat.mul_one]
    have h0 : n % 2 ^ k + 2 ^ k ≠ 0 := by omega
    obtain ⟨h1, h2⟩ := bitLen_spec (n % 2 ^ k + 2 ^ k)
    have h2 := h2 h0
    generalize Go.bitLen (n % 2 ^ k + 2 ^ k) = L at *
    have a1 : k < L := (Nat.pow_lt_pow_iff_right (by decide : 1 < 2)).1 (Nat.lt_of_le_of_lt (Nat.le_add_left _ _) h1)
    have a2 : L - 1 < k + 1 := (Nat.pow_lt_pow_iff_right (by decide : 1 < 2)).1 (Nat.lt_of_le_of_lt h2 (by rw [Nat.pow_succ]; omega))
    omega
  · rename_i h
    have : n / 2 ^ k % 2 = 0 := by omega
    rw [hm, this, Nat.mul_zero, Nat.add_zero]
theorem bit_out (n : Nat) (i : Int) (w : World) (hi : ¬ (0 ≤ i ∧ i < 256)) :
    Calls Try.prog 53 #[numV n, .int .i64 i] w fun e w' => e = .returned (.int .u64 0) ∧ Below w.heap.size w w' := by
  rw [show numV n = .agg #[.int .u64 (wd n 0 : Int), .int .u64 (wd n 1 : Int), .int .u64 (wd n 2 : Int), .int .u64 (wd n 3 : Int)] from rfl]
  have x1 : Below w.heap.size w (w.alloc (.cells (numL n).toArray 25)) := gr_alloc (Below.refl _ _) _
  by_cases h0 : i < 0
  · clear hi
    go_enter Try.func53, Try.ntmps53
    go_wp2_with fail
    go_ret
    exact ⟨rfl, x1⟩
  · have h1 : (255 : Int) < i := by omega
    clear hi
    go_enter Try.func53, Try.ntmps53
    go_wp2_with fail
    go_ret
    exact ⟨rfl, x1⟩
theorem bitLen_zero (a : Nat) : decide (a = 0) = ((Go.bitLen a : Int) == 0) := by
  by_cases h : a = 0
  · subst h; rfl
  · obtain ⟨h1, h2⟩ := bitLen_spec a
    have : Go.bitLen a ≠ 0 := by
      intro e
      rw [e] at h1
      simp at h1
      exact h h1
    have h3 : ¬ ((Go.bitLen a : Int) = 0) := by omega
    rw [decide_eq_false h]
    symm
    simpa using h3
end Go.Proofs.Ytigfoophimjgdaa
