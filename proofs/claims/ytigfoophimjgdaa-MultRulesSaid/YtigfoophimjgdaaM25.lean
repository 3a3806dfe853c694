/- wide.Rem: what it answers. scalar.L, scalar.Sum$1, scalar.Product$1 (layer 22): contracts. scalar.Of, scalar.Reduce (layer 22): contracts. scalar.join, scalar.Sum, scalar.Product (layer 22): contracts. The laws of the curve (layer 20): they return true. -/
import Derived.Test.YtigfoophimjgdaaM24
import Derived.Test.YtigfoophimjgdaaM04
import Derived.Test.YtigfoophimjgdaaM02
import Derived.Test.YtigfoophimjgdaaM03
import Derived.Test.YtigfoophimjgdaaM16
import Derived.Test.YtigfoophimjgdaaM20
namespace Go.Proofs.Ytigfoophimjgdaa
set_option maxRecDepth 20000
set_option linter.unusedSimpArgs false
set_option linter.unusedVariables false
open Go.RowKit
/-- The rest behind the first i bits of n, where x was the rest ahead of them. -/
def restN (m x n i : Nat) : Nat := (x * 2 ^ i + n / 2 ^ (256 - i)) % m
theorem rest_0 (m x n : Nat) (hx : x < m) (hn : n < B64 ^ 4) : restN m x n 0 = x := by
  unfold restN
  rw [Nat.pow_zero, Nat.mul_one, Nat.div_eq_of_lt (by rw [show 2 ^ (256 - 0) = B64 ^ 4 from rfl]; exact hn), Nat.add_zero, Nat.mod_eq_of_lt hx]
theorem rest_next (m x n i : Nat) (hi : i < 256) : (2 * restN m x n i + bitN n (255 - i)) % m = restN m x n (i + 1) := by
  unfold restN bitN
  have h1 : n / 2 ^ (256 - (i + 1)) = 2 * (n / 2 ^ (256 - i)) + n / 2 ^ (255 - i) % 2 := by
    rw [show 256 - (i + 1) = 255 - i by omega, show 256 - i = (255 - i) + 1 by omega, Nat.pow_succ, ← Nat.div_div_eq_div_mul]
    omega
  rw [h1, Nat.pow_succ, ← Nat.mul_assoc]
  generalize x * 2 ^ i = a
  generalize n / 2 ^ (256 - i) = c
  generalize n / 2 ^ (255 - i) % 2 = b
  rw [show a * 2 + (2 * c + b) = 2 * (a + c) + b by omega, Nat.add_mod, Nat.mul_mod, Nat.mod_mod, ← Nat.mul_mod, ← Nat.add_mod]
theorem rest_all (m x n : Nat) : restN m x n 256 = (x * B64 ^ 4 + n) % m := by
  unfold restN
  rw [Nat.sub_self, Nat.pow_zero, Nat.div_one]
  rfl
theorem rest_lt (m x n i : Nat) (hm : 0 < m) : restN m x n i < m := Nat.mod_lt _ hm
def remN (lo hi m : Nat) : Nat := if m = 0 then 0 else (hi * B64 ^ 4 + lo) % m
/-- What the loops of Rem leave as it was. -/
def remSt (hs R m r : Nat) (w : World) : Prop := w.heap[R]? = some (.cells (numL r).toArray 25 (0, 0)) ∧ w.heap[hs + 1 + 1]? = some (.cells (numL m).toArray 25 (0, 0)) ∧ w.heap[hs + 1 + 1 + 1]? = some (.cells (numL 0).toArray 25 (0, 0))
theorem remSt_below {hs R m r : Nat} {w w' : World} (h : remSt hs R m r w) (hb : Below w.heap.size w w') : remSt hs R m r w' := by
  obtain ⟨h1, h2, h3⟩ := h
  have lt : ∀ {k : Nat} {o : Obj}, w.heap[k]? = some o → k < w.heap.size := fun {k o} h => by
    apply Nat.lt_of_not_le
    intro hle
    rw [Array.getElem?_eq_none hle] at h
    simp at h
  exact ⟨(hb.block _ (lt h1)).trans h1, (hb.block _ (lt h2)).trans h2, (hb.block _ (lt h3)).trans h3⟩
theorem lt_get {w : World} {k : Nat} {o : Obj} (h : w.heap[k]? = some o) : k < w.heap.size := by
  apply Nat.lt_of_not_le
  intro hle
  rw [Array.getElem?_eq_none hle] at h
  simp at h
def remW (lo hi m : Nat) (w : World) : World := ((((w.alloc (.cells (numL lo).toArray 25)).alloc (.cells (numL hi).toArray 25)).alloc (.cells (numL m).toArray 25)).alloc (.cells (numL 0).toArray 25))
theorem remW_at (lo hi m : Nat) (w : World) : (remW lo hi m w).heap[w.heap.size]? = some (.cells (numL lo).toArray 25 (0, 0)) ∧ (remW lo hi m w).heap[w.heap.size + 1]? = some (.cells (numL hi).toArray 25 (0, 0)) ∧ (remW lo hi m w).heap[w.heap.size + 1 + 1]? = some (.cells (numL m).toArray 25 (0, 0)) ∧ (remW lo hi m w).heap[w.heap.size + 1 + 1 + 1]? = some (.cells (numL 0).toArray 25 (0, 0)) ∧ Below w.heap.size w (remW lo hi m w) ∧ (remW lo hi m w).heap.size = w.heap.size + 4 := by
  unfold remW
  refine ⟨?_, ?_, ?_, ?_, gr_alloc (gr_alloc (gr_alloc (gr_alloc (Below.refl _ _) _) _) _) _, by simp only [alloc_size1]⟩
  · rw [alloc_old _ _ _ (by simp only [alloc_size1]; omega), alloc_old _ _ _ (by simp only [alloc_size1]; omega), alloc_old _ _ _ (by simp only [alloc_size1]; omega), alloc_new]
  · rw [alloc_old _ _ _ (by simp only [alloc_size1]; omega), alloc_old _ _ _ (by simp only [alloc_size1]; omega)]
    have := alloc_new (w.alloc (.cells (numL lo).toArray 25)) (.cells (numL hi).toArray 25)
    simp only [alloc_size1] at this
    exact this
  · rw [alloc_old _ _ _ (by simp only [alloc_size1]; omega)]
    have := alloc_new ((w.alloc (.cells (numL lo).toArray 25)).alloc (.cells (numL hi).toArray 25)) (.cells (numL m).toArray 25)
    simp only [alloc_size1] at this
    exact this
  · have := alloc_new (((w.alloc (.cells (numL lo).toArray 25)).alloc (.cells (numL hi).toArray 25)).alloc (.cells (numL m).toArray 25)) (.cells (numL 0).toArray 25)
    simp only [alloc_size1] at this
    exact this
def restK (lo hi m k : Nat) : Nat := if k = 0 then 0 else if k = 1 then hi % m else (hi * B64 ^ 4 + lo) % m
theorem restK_0 (lo hi m : Nat) : restK lo hi m 0 = 0 := by unfold restK; rw [if_pos rfl]
theorem restK_1 (lo hi m : Nat) : restK lo hi m 1 = hi % m := by unfold restK; rw [if_neg (by omega), if_pos rfl]
theorem restK_2 (lo hi m : Nat) : restK lo hi m 2 = (hi * B64 ^ 4 + lo) % m := by unfold restK; rw [if_neg (by omega), if_neg (by omega)]
theorem of_grown {w0 w v : World} {B R : Nat} (h0 : Below B w0 w) (h : w.grownBy v (some R)) (hB : B ≤ w.heap.size) (hR : B ≤ R) : Below B w0 v :=
  h0.trans ⟨h.os, h.tape, h.output, h.size, fun k hk => h.5 k (by omega) (fun e => by injection e; omega)⟩
theorem grown_block {w v : World} {R k : Nat} {o : Obj} (h : w.grownBy v (some R)) (hk : w.heap[k]? = some o) (hne : k ≠ R) : v.heap[k]? = some o :=
  (h.5 k (lt_get hk) (fun e => by injection e; omega)).trans hk
theorem bit_open (n j : Nat) (w : World) (hj : j < 256) :
    Calls Try.prog 53 #[.agg #[.int .u64 (wd n 0 : Int), .int .u64 (wd n 1 : Int), .int .u64 (wd n 2 : Int), .int .u64 (wd n 3 : Int)], .int .i64 (255 - (j : Int))] w fun e w' => e = .returned (.int .u64 (bitN n (255 - j) : Int)) ∧ Below w.heap.size w w' := by
  have h := bit_any n (255 - j) w (by omega)
  rw [show (((255 - j : Nat)) : Int) = 255 - (j : Int) by omega] at h
  exact h
theorem pick_0 (lo hi : Nat) (w : World) : Sem.run Try.prog (Instr.index 145 (.agg #[.int .u64 (wd hi 0 : Int), .int .u64 (wd hi 1 : Int), .int .u64 (wd hi 2 : Int), .int .u64 (wd hi 3 : Int), .int .u64 (wd lo 0 : Int), .int .u64 (wd lo 1 : Int), .int .u64 (wd lo 2 : Int), .int .u64 (wd lo 3 : Int)]) (.int .i64 0)) w = .ok (.agg #[.int .u64 (wd hi 0 : Int), .int .u64 (wd hi 1 : Int), .int .u64 (wd hi 2 : Int), .int .u64 (wd hi 3 : Int)]) w := by kernel_rfl
theorem pick_1 (lo hi : Nat) (w : World) : Sem.run Try.prog (Instr.index 145 (.agg #[.int .u64 (wd hi 0 : Int), .int .u64 (wd hi 1 : Int), .int .u64 (wd hi 2 : Int), .int .u64 (wd hi 3 : Int), .int .u64 (wd lo 0 : Int), .int .u64 (wd lo 1 : Int), .int .u64 (wd lo 2 : Int), .int .u64 (wd lo 3 : Int)]) (.int .i64 1)) w = .ok (.agg #[.int .u64 (wd lo 0 : Int), .int .u64 (wd lo 1 : Int), .int .u64 (wd lo 2 : Int), .int .u64 (wd lo 3 : Int)]) w := by kernel_rfl
set_option maxHeartbeats 8000000 in
theorem rem_any (lo hi m : Nat) (w : World) (hlo : lo < B64 ^ 4) (hhi : hi < B64 ^ 4) (hm : m < B64 ^ 4) (h0 : 0 < m) :
    Calls Try.prog 69 #[numV lo, numV hi, numV m] w fun e w' => e = .returned (numV (remN lo hi m)) ∧ Below w.heap.size w w' := by
  have IZ := fun w => isZero_any m w hm
  rw [decide_eq_false (by omega : ¬ m = 0)] at IZ
  unfold numV at IZ
  have hIZ := Lib.hid IZ
  clear IZ
  rw [show numV lo = .agg #[.int .u64 (wd lo 0 : Int), .int .u64 (wd lo 1 : Int), .int .u64 (wd lo 2 : Int), .int .u64 (wd lo 3 : Int)] from rfl, show numV hi = .agg #[.int .u64 (wd hi 0 : Int), .int .u64 (wd hi 1 : Int), .int .u64 (wd hi 2 : Int), .int .u64 (wd hi 3 : Int)] from rfl, show numV m = .agg #[.int .u64 (wd m 0 : Int), .int .u64 (wd m 1 : Int), .int .u64 (wd m 2 : Int), .int .u64 (wd m 3 : Int)] from rfl]
  have e0 : (numL 0).toArray = #[.int .u64 0, .int .u64 0, .int .u64 0, .int .u64 0] := by simp [numL, wd]
  go_enter Try.func69, Try.ntmps69
  go_wp2_with fail
  go_at_call 29
  have hW := remW_at lo hi m w
  change Calls _ _ _ (remW lo hi m w) _
  generalize remW lo hi m w = X at *
  obtain ⟨a0, a1, a2, a3, aB, aS⟩ := hW
  refine (hIZ.out X).mono ?_
  rintro e w1 ⟨rfl, hb1⟩
  have s1 := hb1.size
  have b0 := (hb1.block w.heap.size (by omega)).trans a0
  have b1 := (hb1.block (w.heap.size + 1) (by omega)).trans a1
  have b2 := (hb1.block (w.heap.size + 1 + 1) (by omega)).trans a2
  have b3 := (hb1.block (w.heap.size + 1 + 1 + 1) (by omega)).trans a3
  have bB : Below w.heap.size w w1 := aB.trans (hb1.mono (by omega))
  clear a0 a1 a2 a3 aB hb1 hIZ
  have c0 := (arr_get b0 (numL_get lo 0 (by omega))).1
  have c1 := (arr_get b0 (numL_get lo 1 (by omega))).1
  have c2 := (arr_get b0 (numL_get lo 2 (by omega))).1
  have c3 := (arr_get b0 (numL_get lo 3 (by omega))).1
  have d0 := (arr_get b1 (numL_get hi 0 (by omega))).1
  have d1 := (arr_get b1 (numL_get hi 1 (by omega))).1
  have d2 := (arr_get b1 (numL_get hi 2 (by omega))).1
  have d3 := (arr_get b1 (numL_get hi 3 (by omega))).1
  have l0 : w.heap.size < w1.heap.size := by omega
  have l1 : w.heap.size + 1 < w1.heap.size := by omega
  have hx1 : remSt w.heap.size w1.heap.size m 0 (w1.alloc (.cells (numL 0).toArray 25)) := ⟨alloc_new _ _, (alloc_old _ _ _ (by omega)).trans b2, (alloc_old _ _ _ (by omega)).trans b3⟩
  have hx2 : Below w.heap.size w (w1.alloc (.cells (numL 0).toArray 25)) := gr_alloc bB _
  have hx3 : w1.heap.size < (w1.alloc (.cells (numL 0).toArray 25)).heap.size := by rw [alloc_size1]; omega
  have hx4 : w.heap.size + 4 ≤ w1.heap.size := by omega
  have HX1 := Lib.hid hx1
  have HX2 := Lib.hid hx2
  clear hx1 hx2 b0 b1 b2 b3 bB
  go_wp2_with fail
  go_loopw [19] (fun j wr => ∃ k : Nat, k ≤ 2 ∧ j = .int .i64 (k : Int) ∧ remSt w.heap.size w1.heap.size m (restK lo hi m k) wr ∧ Below w.heap.size w wr ∧ w1.heap.size < wr.heap.size) (fun j _ => 2 - (intOf j).toNat)
  case atStart => exact ⟨0, by omega, rfl, HX1.out, HX2.out, hx3⟩
  case round =>
    clear HX1 HX2 hx3
    obtain ⟨k, hk, hje, hst, hbl, hsz⟩ := hrel
    have hcase : k = 0 ∨ k = 1 ∨ k = 2 := by omega
    rcases hcase with rfl | rfl | rfl
    · change _ = Value.int .i64 0 at hje
      subst hje
      have q1 := remSt_below hst (gr_alloc (Below.refl _ _) (.cells (numL hi).toArray 25))
      have q1 : remSt w.heap.size w1.heap.size m (restN m (0) hi 0) (wr.alloc (.cells (numL hi).toArray 25)) := by
        rw [rest_0 m (0) hi (h0) (by assumption)]
        rw [restK_0] at q1
        exact q1
      have q2 : (wr.alloc (.cells (numL hi).toArray 25)).heap[wr.heap.size]? = some (.cells (numL hi).toArray 25 (0, 0)) := alloc_new _ _
      have q3 : Below w.heap.size w (wr.alloc (.cells (numL hi).toArray 25)) := gr_alloc hbl _
      have q4 : (wr.alloc (.cells (numL hi).toArray 25)).heap.size = wr.heap.size + 1 := alloc_size1 _ _
      have Q := Lib.hid (And.intro q1 (And.intro q2 q3))
      clear hst hbl q1 q2 q3
      have P0 := pick_0 lo hi wr
      go_wp2_with fail
      clear P0 c0 c1 c2 c3 d0 d1 d2 d3
      go_loopw [22] (fun i v => ∃ j : Nat, j ≤ 256 ∧ i = .int .i64 (j : Int) ∧ remSt w.heap.size w1.heap.size m (restN m (0) hi j) v ∧ v.heap[wr.heap.size]? = some (.cells (numL hi).toArray 25 (0, 0)) ∧ Below w.heap.size w v ∧ wr.heap.size < v.heap.size) (fun i _ => 256 - (intOf i).toNat)
      case atStart => exact ⟨0, by omega, rfl, Q.out.1, Q.out.2.1, Q.out.2.2, Nat.lt_of_lt_of_eq (Nat.lt_succ_self _) q4.symm⟩
      case round =>
        clear Q q4
        obtain ⟨j, hj, rfl, hst, hn, hbl, hsv⟩ := hrel
        by_cases hlt : j < 256
        · have p1 : (j : Int) < 256 := by omega
          have n0 := (arr_get hn (numL_get hi 0 (by omega))).1
          have n1 := (arr_get hn (numL_get hi 1 (by omega))).1
          have n2 := (arr_get hn (numL_get hi 2 (by omega))).1
          have n3 := (arr_get hn (numL_get hi 3 (by omega))).1
          have ST := Lib.hid hst
          have HN := Lib.hid hn
          have BL := Lib.hid hbl
          clear hst hn hbl
          go_wp2_with fail
          go_at_call 53
          refine (bit_open hi j _ hlt).mono ?_
          rintro e v2 ⟨rfl, hb2⟩
          clear n0 n1 n2 n3
          have hz2 := hb2.size
          have ST2 := Lib.hid (remSt_below ST.out hb2)
          have HN2 := Lib.hid ((hb2.block _ hsv).trans HN.out)
          have BL2 := Lib.hid (BL.out.trans (hb2.mono (by omega)))
          clear ST HN BL hb2
          go_wp2_with fail
          go_at_call 105
          refine (take_any (restN m (0) hi j) m (bitN hi (255 - j)) w1.heap.size (w.heap.size + 1 + 1) v2 (rest_lt _ _ _ _ h0) hm (bitN_lt _ _) ST2.out.1 ST2.out.2.1).mono ?_
          rintro e v3 ⟨rfl, hr3, hg3⟩
          rw [rest_next _ _ _ _ hlt] at hr3
          have hz3 := hg3.4
          have ST3 := Lib.hid (show remSt w.heap.size w1.heap.size m (restN m (0) hi (j + 1)) v3 from ⟨hr3, grown_block hg3 ST2.out.2.1 (by omega), grown_block hg3 ST2.out.2.2 (by omega)⟩)
          have HN3 := Lib.hid (grown_block hg3 HN2.out (by omega))
          have BL3 := Lib.hid (of_grown BL2.out hg3 (by omega) (by omega))
          clear ST2 HN2 BL2 hg3 hr3
          go_wp2_with fail
          go_roundw
          case rel => exact ⟨j + 1, by omega, congrArg (Value.int .i64) (by omega), ST3.out, HN3.out, BL3.out, by omega⟩
          case measure => simp [intOf]; omega
        · have p1 : ¬ (j : Int) < 256 := by omega
          obtain rfl : j = 256 := by omega
          rw [rest_all] at hst
          have hst' : remSt w.heap.size w1.heap.size m (restK lo hi m 1) wr := by
            rw [Nat.zero_mul, Nat.zero_add] at hst
            rw [restK_1]
            exact hst
          have ST := Lib.hid hst'
          have BL := Lib.hid hbl
          clear hst hst' hn hbl
          go_wp2_with fail
          go_roundw
          case rel => exact ⟨1, by omega, rfl, ST.out, BL.out, by omega⟩
          case measure => simp [intOf]
    · change _ = Value.int .i64 1 at hje
      subst hje
      have q1 := remSt_below hst (gr_alloc (Below.refl _ _) (.cells (numL lo).toArray 25))
      have q1 : remSt w.heap.size w1.heap.size m (restN m (hi % m) lo 0) (wr.alloc (.cells (numL lo).toArray 25)) := by
        rw [rest_0 m (hi % m) lo (Nat.mod_lt _ h0) (by assumption)]
        rw [restK_1] at q1
        exact q1
      have q2 : (wr.alloc (.cells (numL lo).toArray 25)).heap[wr.heap.size]? = some (.cells (numL lo).toArray 25 (0, 0)) := alloc_new _ _
      have q3 : Below w.heap.size w (wr.alloc (.cells (numL lo).toArray 25)) := gr_alloc hbl _
      have q4 : (wr.alloc (.cells (numL lo).toArray 25)).heap.size = wr.heap.size + 1 := alloc_size1 _ _
      have Q := Lib.hid (And.intro q1 (And.intro q2 q3))
      clear hst hbl q1 q2 q3
      have P0 := pick_1 lo hi wr
      go_wp2_with fail
      clear P0 c0 c1 c2 c3 d0 d1 d2 d3
      go_loopw [22] (fun i v => ∃ j : Nat, j ≤ 256 ∧ i = .int .i64 (j : Int) ∧ remSt w.heap.size w1.heap.size m (restN m (hi % m) lo j) v ∧ v.heap[wr.heap.size]? = some (.cells (numL lo).toArray 25 (0, 0)) ∧ Below w.heap.size w v ∧ wr.heap.size < v.heap.size) (fun i _ => 256 - (intOf i).toNat)
      case atStart => exact ⟨0, by omega, rfl, Q.out.1, Q.out.2.1, Q.out.2.2, Nat.lt_of_lt_of_eq (Nat.lt_succ_self _) q4.symm⟩
      case round =>
        clear Q q4
        obtain ⟨j, hj, rfl, hst, hn, hbl, hsv⟩ := hrel
        by_cases hlt : j < 256
        · have p1 : (j : Int) < 256 := by omega
          have n0 := (arr_get hn (numL_get lo 0 (by omega))).1
          have n1 := (arr_get hn (numL_get lo 1 (by omega))).1
          have n2 := (arr_get hn (numL_get lo 2 (by omega))).1
          have n3 := (arr_get hn (numL_get lo 3 (by omega))).1
          have ST := Lib.hid hst
          have HN := Lib.hid hn
          have BL := Lib.hid hbl
          clear hst hn hbl
          go_wp2_with fail
          go_at_call 53
          refine (bit_open lo j _ hlt).mono ?_
          rintro e v2 ⟨rfl, hb2⟩
          clear n0 n1 n2 n3
          have hz2 := hb2.size
          have ST2 := Lib.hid (remSt_below ST.out hb2)
          have HN2 := Lib.hid ((hb2.block _ hsv).trans HN.out)
          have BL2 := Lib.hid (BL.out.trans (hb2.mono (by omega)))
          clear ST HN BL hb2
          go_wp2_with fail
          go_at_call 105
          refine (take_any (restN m (hi % m) lo j) m (bitN lo (255 - j)) w1.heap.size (w.heap.size + 1 + 1) v2 (rest_lt _ _ _ _ h0) hm (bitN_lt _ _) ST2.out.1 ST2.out.2.1).mono ?_
          rintro e v3 ⟨rfl, hr3, hg3⟩
          rw [rest_next _ _ _ _ hlt] at hr3
          have hz3 := hg3.4
          have ST3 := Lib.hid (show remSt w.heap.size w1.heap.size m (restN m (hi % m) lo (j + 1)) v3 from ⟨hr3, grown_block hg3 ST2.out.2.1 (by omega), grown_block hg3 ST2.out.2.2 (by omega)⟩)
          have HN3 := Lib.hid (grown_block hg3 HN2.out (by omega))
          have BL3 := Lib.hid (of_grown BL2.out hg3 (by omega) (by omega))
          clear ST2 HN2 BL2 hg3 hr3
          go_wp2_with fail
          go_roundw
          case rel => exact ⟨j + 1, by omega, congrArg (Value.int .i64) (by omega), ST3.out, HN3.out, BL3.out, by omega⟩
          case measure => simp [intOf]; omega
        · have p1 : ¬ (j : Int) < 256 := by omega
          obtain rfl : j = 256 := by omega
          rw [rest_all] at hst
          have hst' : remSt w.heap.size w1.heap.size m (restK lo hi m 2) wr := by
            have hmul : (hi % m * B64 ^ 4 + lo) % m = (hi * B64 ^ 4 + lo) % m := by
              rw [Nat.add_mod, Nat.mul_mod, Nat.mod_mod, ← Nat.mul_mod, ← Nat.add_mod]
            rw [hmul] at hst
            rw [restK_2]
            exact hst
          have ST := Lib.hid hst'
          have BL := Lib.hid hbl
          clear hst hst' hn hbl
          go_wp2_with fail
          go_roundw
          case rel => exact ⟨2, by omega, rfl, ST.out, BL.out, by omega⟩
          case measure => simp [intOf]
    · change _ = Value.int .i64 2 at hje
      subst hje
      have r0 := (arr_get hst.1 (numL_get _ 0 (by omega))).1
      have r1 := (arr_get hst.1 (numL_get _ 1 (by omega))).1
      have r2 := (arr_get hst.1 (numL_get _ 2 (by omega))).1
      have r3 := (arr_get hst.1 (numL_get _ 3 (by omega))).1
      have z0 := (arr_get hst.2.2 (numL_get _ 0 (by omega)))
      have z1 := (arr_get hst.2.2 (numL_get _ 1 (by omega)))
      have z2 := (arr_get hst.2.2 (numL_get _ 2 (by omega)))
      have z3 := (arr_get hst.2.2 (numL_get _ 3 (by omega)))
      obtain ⟨z0, y0⟩ := z0
      obtain ⟨z1, y1⟩ := z1
      obtain ⟨z2, y2⟩ := z2
      obtain ⟨z3, y3⟩ := z3
      have hn := set4_num (y := restK lo hi m 2) hst.2.2
      have hbb : Below w.heap.size w (set4 wr (w.heap.size + 1 + 1 + 1) (.int .u64 (wd (restK lo hi m 2) 0 : Int)) (.int .u64 (wd (restK lo hi m 2) 1 : Int)) (.int .u64 (wd (restK lo hi m 2) 2 : Int)) (.int .u64 (wd (restK lo hi m 2) 3 : Int))) := (((hbl.setCell (by simp only []; omega) _).setCell (by simp only []; omega) _).setCell (by simp only []; omega) _).setCell (by simp only []; omega) _
      have kl := run_loadVar_row (P := Try.prog) _ _ 25 25 _ (0, 0) _ hn Try.underlying25 rfl (by kernel_rfl)
      have KL := Lib.hid kl
      have BB := Lib.hid hbb
      clear hst hbl kl hbb hn
      go_wp2_with fail
      exact bodyPost_ret (v := numV (restK lo hi m 2)) (results_arr Try.results69 (by rfl) KL.out) rfl ⟨by unfold restK remN; rw [if_neg (by omega), if_neg (by omega), if_neg (by omega)], BB.out⟩
set_option maxHeartbeats 8000000 in
theorem rem_zero (lo hi : Nat) (w : World) :
    Calls Try.prog 69 #[numV lo, numV hi, numV 0] w fun e w' => e = .returned (numV (remN lo hi 0)) ∧ Below w.heap.size w w' := by
  have IZ := fun w => isZero_any 0 w (Nat.pow_pos B64_pos)
  rw [decide_eq_true (rfl : (0 : Nat) = 0)] at IZ
  unfold numV at IZ
  have hIZ := Lib.hid IZ
  clear IZ
  rw [show numV lo = .agg #[.int .u64 (wd lo 0 : Int), .int .u64 (wd lo 1 : Int), .int .u64 (wd lo 2 : Int), .int .u64 (wd lo 3 : Int)] from rfl, show numV hi = .agg #[.int .u64 (wd hi 0 : Int), .int .u64 (wd hi 1 : Int), .int .u64 (wd hi 2 : Int), .int .u64 (wd hi 3 : Int)] from rfl, show numV 0 = .agg #[.int .u64 (wd 0 0 : Int), .int .u64 (wd 0 1 : Int), .int .u64 (wd 0 2 : Int), .int .u64 (wd 0 3 : Int)] from rfl]
  have e0 : (numL 0).toArray = #[.int .u64 0, .int .u64 0, .int .u64 0, .int .u64 0] := by simp [numL, wd]
  go_enter Try.func69, Try.ntmps69
  go_wp2_with fail
  go_at_call 29
  have hW := remW_at lo hi 0 w
  change Calls _ _ _ (remW lo hi 0 w) _
  generalize remW lo hi 0 w = X at *
  obtain ⟨a0, a1, a2, a3, aB, aS⟩ := hW
  refine (hIZ.out X).mono ?_
  rintro e w1 ⟨rfl, hb1⟩
  have s1 := hb1.size
  have b3 := (hb1.block (w.heap.size + 1 + 1 + 1) (by omega)).trans a3
  have bB : Below w.heap.size w w1 := aB.trans (hb1.mono (by omega))
  clear a0 a1 a2 a3 aB hb1 hIZ
  obtain ⟨z0, y0⟩ := (arr_get b3 (numL_get _ 0 (by omega)))
  obtain ⟨z1, y1⟩ := (arr_get b3 (numL_get _ 1 (by omega)))
  obtain ⟨z2, y2⟩ := (arr_get b3 (numL_get _ 2 (by omega)))
  obtain ⟨z3, y3⟩ := (arr_get b3 (numL_get _ 3 (by omega)))
  have hn := set4_num (y := 0) b3
  have hbb : Below w.heap.size w (set4 w1 (w.heap.size + 1 + 1 + 1) (.int .u64 (wd 0 0 : Int)) (.int .u64 (wd 0 1 : Int)) (.int .u64 (wd 0 2 : Int)) (.int .u64 (wd 0 3 : Int))) := (((bB.setCell (by simp only []; omega) _).setCell (by simp only []; omega) _).setCell (by simp only []; omega) _).setCell (by simp only []; omega) _
  have kl := run_loadVar_row (P := Try.prog) _ _ 25 25 _ (0, 0) _ hn Try.underlying25 rfl (by kernel_rfl)
  have KL := Lib.hid kl
  have BB := Lib.hid hbb
  clear kl hbb hn b3 bB
  go_wp2_with fail
  exact bodyPost_ret (v := numV 0) (results_arr Try.results69 (by rfl) KL.out) rfl ⟨by unfold remN; rw [if_pos rfl], BB.out⟩
/-- wide.Rem, whatever m is. -/
theorem rem_whole (lo hi m : Nat) (w : World) (hlo : lo < B64 ^ 4) (hhi : hi < B64 ^ 4) (hm : m < B64 ^ 4) :
    Calls Try.prog 69 #[numV lo, numV hi, numV m] w fun e w' => e = .returned (numV (remN lo hi m)) ∧ Below w.heap.size w w' := by
  by_cases h : m = 0
  · subst h; exact rem_zero lo hi w
  · exact rem_any lo hi m w hlo hhi hm (by omega)
end Go.Proofs.Ytigfoophimjgdaa
namespace Go.Proofs.Ytigfoophimjgdaa
set_option maxRecDepth 20000
set_option linter.unusedSimpArgs false
set_option linter.unusedVariables false
open Go.RowKit
theorem LN_lt : LN < B64 ^ 4 := by decide +kernel
theorem LN_pos : 0 < LN := by decide +kernel
theorem num_LN : numV LN = .agg #[.int .u64 6346243789798364141, .int .u64 1503914060200516822, .int .u64 0, .int .u64 1152921504606846976] := by
  unfold numV
  rw [show wd LN 0 = 6346243789798364141 by decide +kernel, show wd LN 1 = 1503914060200516822 by decide +kernel, show wd LN 2 = 0 by decide +kernel, show wd LN 3 = 1152921504606846976 by decide +kernel]
  rfl
theorem l_any (w : World) : Calls Try.prog 70 #[] w fun e w' => e = .returned (numV LN) ∧ Below w.heap.size w w' := by
  have kl := load_num (W := w.alloc (.cells (numL LN).toArray 25)) (b := w.heap.size) (n := LN) (alloc_new _ _)
  have e1 : (numL LN).toArray = #[.int .u64 6346243789798364141, .int .u64 1503914060200516822, .int .u64 0, .int .u64 1152921504606846976] := by
    have h := num_LN
    unfold numV at h
    unfold numL
    injection h
  rw [e1, num_LN] at kl
  rw [num_LN]
  have KL := Lib.hid kl
  clear kl e1
  go_enter Try.func70, Try.ntmps70
  go_wp2_with fail
  exact bodyPost_ret (v := .agg #[.int .u64 6346243789798364141, .int .u64 1503914060200516822, .int .u64 0, .int .u64 1152921504606846976]) (results_arr Try.results70 (by rfl) KL.out) rfl ⟨rfl, gr_alloc (Below.refl _ _) _⟩
def M3 (a b : Nat) (t : TypeId) (w : World) : World := ((w.alloc (.cells #[.int .u64 (wd a 0 : Int), .int .u64 (wd a 1 : Int), .int .u64 (wd a 2 : Int), .int .u64 (wd a 3 : Int)] t)).alloc (.cells #[.int .u64 (wd b 0 : Int), .int .u64 (wd b 1 : Int), .int .u64 (wd b 2 : Int), .int .u64 (wd b 3 : Int)] t)).alloc (.cells #[.int .u64 0, .int .u64 0, .int .u64 0, .int .u64 0] t)
theorem m3_at (a b : Nat) (t : TypeId) (w : World) : IsA (M3 a b t w) w.heap.size a t ∧ IsA (M3 a b t w) (w.heap.size + 1) b t ∧ IsA (M3 a b t w) (w.heap.size + 1 + 1) 0 t ∧ (M3 a b t w).heap.size = w.heap.size + 3 ∧ Below w.heap.size w (M3 a b t w) := by
  unfold M3
  refine ⟨(isA_a1 w a t _).alloc _, (alloc_keep (alloc_new1 w _ _) _ : _), ?_, by simp, gr_alloc (gr_alloc (gr_alloc (Below.refl _ _) _) _) _⟩
  have h := alloc_new2 w (.cells #[.int .u64 (wd a 0 : Int), .int .u64 (wd a 1 : Int), .int .u64 (wd a 2 : Int), .int .u64 (wd a 3 : Int)] t) (.cells #[.int .u64 (wd b 0 : Int), .int .u64 (wd b 1 : Int), .int .u64 (wd b 2 : Int), .int .u64 (wd b 3 : Int)] t) (.cells #[.int .u64 0, .int .u64 0, .int .u64 0, .int .u64 0] t)
  have e : (numL 0).toArray = #[.int .u64 0, .int .u64 0, .int .u64 0, .int .u64 0] := numL_0
  show _ = some (Obj.cells (numL 0).toArray t (0, 0))
  rw [e]
  exact h
theorem sum_rest (a b : Nat) (ha : a < B64 ^ 4) (hb : b < B64 ^ 4) : remN (addN a b) (addK a b) LN = (a + b) % LN := by
  unfold remN addN addK
  rw [if_neg (by have := LN_pos; omega), Nat.mul_comm, Nat.add_comm, Nat.mod_add_div]
theorem prod_rest (a b : Nat) : remN (a * b % B64 ^ 4) (a * b / B64 ^ 4) LN = a * b % LN := by
  unfold remN
  rw [if_neg (by have := LN_pos; omega), Nat.mul_comm (a * b / B64 ^ 4), Nat.add_comm, Nat.mod_add_div]
set_option maxHeartbeats 2000000 in
theorem sum1_any (a b : Nat) (w : World) (ha : a < B64 ^ 4) (hb : b < B64 ^ 4) :
    Calls Try.prog 67 #[numV a, numV b] w fun e w' => e = .returned (numV ((a + b) % LN)) ∧ Below w.heap.size w w' := by
  have hk : addK a b < 2 := by
    unfold addK
    rw [Nat.div_lt_iff_lt_mul (by decide)]
    omega
  have hs : addN a b < B64 ^ 4 := Nat.mod_lt _ (by decide)
  have hk4 : addK a b < B64 ^ 4 := Nat.lt_trans hk (by decide)
  have K1 := Lib.hid (fun w => add_any a b w ha hb)
  have K2 := Lib.hid (fun w => small_any (addK a b) w (by omega))
  have K3 := Lib.hid l_any
  have K4 := Lib.hid (fun w => rem_whole (addN a b) (addK a b) LN w hs hk4 LN_lt)
  rw [sum_rest a b ha hb] at K4
  have hR : (a + b) % LN < B64 ^ 4 := Nat.lt_trans (Nat.mod_lt _ LN_pos) LN_lt
  obtain ⟨xa, xb, xr, xz, xB⟩ := m3_at a b 25 w
  obtain ⟨S, hS⟩ : ∃ S, addN a b = S := ⟨_, rfl⟩
  obtain ⟨C, hC⟩ : ∃ C, addK a b = C := ⟨_, rfl⟩
  obtain ⟨R, hRR⟩ : ∃ R, (a + b) % LN = R := ⟨_, rfl⟩
  obtain ⟨Lv, hLv⟩ : ∃ Lv, LN = Lv := ⟨_, rfl⟩
  rw [hS, hC] at K1
  rw [hC] at K2
  rw [hS, hC, hRR, hLv] at K4
  rw [hLv] at K3
  rw [hRR]
  simp only [numV_agg] at K1 K2 K3 K4 ⊢
  clear hS hC hRR hLv ha hb hs hk hk4 hR
  go_enter Try.func67, Try.ntmps67
  go_wp2_with fail
  change Calls _ _ _ (M3 a b 25 w) _
  generalize M3 a b 25 w = X at *
  refine (K1.out X).mono ?_
  rintro e w1 ⟨rfl, hb1⟩
  have xr1 := xr.keep hb1
  have hB1 : Below w.heap.size w w1 := xB.trans (hb1.mono (by omega))
  have hz1 : w.heap.size + 1 + 1 < w1.heap.size := by have := hb1.size; omega
  clear xa xb xr hb1 K1
  have r5 : IsA (w1.alloc (.cells #[.int .u64 (wd S 0 : Int), .int .u64 (wd S 1 : Int), .int .u64 (wd S 2 : Int), .int .u64 (wd S 3 : Int)] 25)) w1.heap.size S 25 := alloc_new w1 _
  have xr2 := xr1.alloc (.cells #[.int .u64 (wd S 0 : Int), .int .u64 (wd S 1 : Int), .int .u64 (wd S 2 : Int), .int .u64 (wd S 3 : Int)] 25)
  have hB2 := gr_allocB hB1 (by omega) (.cells #[.int .u64 (wd S 0 : Int), .int .u64 (wd S 1 : Int), .int .u64 (wd S 2 : Int), .int .u64 (wd S 3 : Int)] 25)
  have HB2 := Lib.hid hB2
  have XR2 := Lib.hid xr2
  have R5 := Lib.hid r5
  clear xr1 xr2 hB2 hB1 r5 xB
  go_wp2_with fail
  generalize w1.alloc (.cells #[.int .u64 (wd S 0 : Int), .int .u64 (wd S 1 : Int), .int .u64 (wd S 2 : Int), .int .u64 (wd S 3 : Int)] 25) = Y at HB2 XR2 R5 ⊢
  obtain ⟨⟨p0, p1, p2, p3⟩, _⟩ := fourV R5.out
  have hzY : w.heap.size + 3 ≤ Y.heap.size := by have := lt_blk XR2.out; have := lt_blk R5.out; omega
  have hne1 : w1.heap.size ≠ w.heap.size + 1 + 1 := by have := hz1; omega
  go_region_held3 (fun w' => w'.cell? ⟨w1.heap.size, 0, none⟩ = some (.int .u64 (wd S 0 : Int)) ∧ w'.cell? ⟨w1.heap.size, 1, none⟩ = some (.int .u64 (wd S 1 : Int)) ∧ w'.cell? ⟨w1.heap.size, 2, none⟩ = some (.int .u64 (wd S 2 : Int)) ∧ w'.cell? ⟨w1.heap.size, 3, none⟩ = some (.int .u64 (wd S 3 : Int))) (first | (with_reducible exact ⟨p0, p1, p2, p3⟩) | (with_reducible exact ⟨k0, k1, k2, k3⟩) | (with_reducible exact ⟨m0, m1, m2, m3⟩) | (with_reducible exact ⟨u0, u1, u2, u3⟩) | (with_reducible exact far4 ⟨u0, u1, u2, u3⟩ hne1) | go_keep) (first
    | (go_at_call 65; go_must (refine (K2.out _).mono ?_); rintro e w3 ⟨rfl, hb3⟩
       have r3 := (show IsA Y.drew _ _ _ from R5.out).keep hb3
       have x3 := (show IsA Y.drew _ _ _ from XR2.out).keep hb3
       have B3 := HB2.out.drew.trans (hb3.mono HB2.out.size)
       obtain ⟨⟨k0, k1, k2, k3⟩, _⟩ := fourV r3)
    | (go_at_call 70; go_must (refine (K3.out _).mono ?_); rintro e w4 ⟨rfl, hb4⟩
       have r4 := r3.keep hb4
       have x4 := x3.keep hb4
       have B4 := B3.trans (hb4.mono B3.size)
       obtain ⟨⟨m0, m1, m2, m3⟩, _⟩ := fourV r4)
    | (go_at_call 69; go_must (refine (K4.out _).mono ?_); rintro e w5 ⟨rfl, hb5⟩
       have r5 := r4.keep hb5
       have x5 := x4.keep hb5
       have B5 := B4.trans (hb5.mono B4.size)
       obtain ⟨⟨u0, u1, u2, u3⟩, _⟩ := fourV r5
       obtain ⟨⟨d0, d1, d2, d3⟩, e0, e1, e2, e3⟩ := fourV x5))
  all_goals
    have rR := isA_set (n := R) x5
    have bR := set4_below (v0 := .int .u64 (wd R 0 : Int)) (v1 := .int .u64 (wd R 1 : Int)) (v2 := .int .u64 (wd R 2 : Int)) (v3 := .int .u64 (wd R 3 : Int)) B5 (b := w.heap.size + 1 + 1) (by omega)
    have kl := load_num rR
    have KL := Lib.hid kl
    have BR := Lib.hid bR
    clear kl bR rR
    go_wp2_with fail
    exact bodyPost_ret (results_arr Try.results67 (by rfl) KL.out) rfl ⟨rfl, BR.out⟩
end Go.Proofs.Ytigfoophimjgdaa
namespace Go.Proofs.Ytigfoophimjgdaa
set_option maxRecDepth 20000
set_option linter.unusedSimpArgs false
set_option linter.unusedVariables false
open Go.RowKit
theorem sc_num_zero : numV 0 = .agg #[.int .u64 0, .int .u64 0, .int .u64 0, .int .u64 0] := by unfold numV; simp [wd]
def sc_Z1 (w : World) : World := w.alloc (.cells #[.int .u64 0, .int .u64 0, .int .u64 0, .int .u64 0] 25)
theorem sc_z1_at (w : World) : IsA (sc_Z1 w) w.heap.size 0 25 ∧ (sc_Z1 w).heap.size = w.heap.size + 1 ∧ Below w.heap.size w (sc_Z1 w) := ⟨isA_zero (alloc_new w _), by unfold sc_Z1; simp, gr_alloc (Below.refl _ _) _⟩
theorem cmp_below {a b : Nat} (h : a < b) : cmpI a b = -1 := by unfold cmpI; rw [if_pos h]
theorem cmp_least {a b : Nat} (h : ¬ a < b) : 0 ≤ cmpI a b := by unfold cmpI; rw [if_neg h]; split <;> decide
end Go.Proofs.Ytigfoophimjgdaa
namespace Go.Proofs.Ytigfoophimjgdaa
set_option maxRecDepth 20000
set_option linter.unusedSimpArgs false
set_option linter.unusedVariables false
open Go.RowKit
/-- A slice of numbers of four words. -/
structure sc_IsNums (w : World) (a : Option Addr) (len : Nat) (ns : List Nat) : Prop where
  ln : ns.length = len
  lt : ∀ n ∈ ns, n < B64 ^ 4
  at_ : 0 < len → ∃ b, a = some ⟨b, 0, none⟩ ∧ b < w.heap.size ∧ ∀ i k, i < len → k < 4 → w.cell? ⟨b, i * 4 + k, none⟩ = some (.int .u64 (wd (ns.getD i 0) k : Int))
theorem sc_IsNums.below {w w' : World} {a : Option Addr} {len : Nat} {ns : List Nat} (h : sc_IsNums w a len ns) (hb : Below w.heap.size w w') : sc_IsNums w' a len ns :=
  ⟨h.ln, h.lt, fun h0 => by
    obtain ⟨b, rfl, hlt, hc⟩ := h.at_ h0
    exact ⟨b, rfl, Nat.lt_of_lt_of_le hlt hb.size, fun i k hi hk => (hb.cell (p := ⟨b, i * 4 + k, none⟩) hlt).trans (hc i k hi hk)⟩⟩
theorem sc_IsNums.far {w : World} {b c len : Nat} {ns : List Nat} {v0 v1 v2 v3 : Value} (h : sc_IsNums w (some ⟨b, 0, none⟩) len ns) (hne : b ≠ c) : sc_IsNums ((((w.setCell ⟨c, 0, none⟩ v0).setCell ⟨c, 1, none⟩ v1).setCell ⟨c, 2, none⟩ v2).setCell ⟨c, 3, none⟩ v3) (some ⟨b, 0, none⟩) len ns :=
  ⟨h.ln, h.lt, fun h0 => by
    obtain ⟨b', e, hlt, hc⟩ := h.at_ h0
    cases e
    refine ⟨b, rfl, by simp only [set_size]; exact hlt, fun i k hi hk => ?_⟩
    rw [← hc i k hi hk]
    simp only [World.cell?, set4_far hne]⟩
def M2 (a : Nat) (t : TypeId) (w : World) : World := (w.alloc (.cells #[.int .u64 (wd a 0 : Int), .int .u64 (wd a 1 : Int), .int .u64 (wd a 2 : Int), .int .u64 (wd a 3 : Int)] t)).alloc (.cells #[.int .u64 0, .int .u64 0, .int .u64 0, .int .u64 0] t)
theorem m2_at (a : Nat) (t : TypeId) (w : World) : IsA (M2 a t w) w.heap.size a t ∧ IsA (M2 a t w) (w.heap.size + 1) 0 t ∧ (M2 a t w).heap.size = w.heap.size + 2 ∧ Below w.heap.size w (M2 a t w) :=
  ⟨isA_a1 w a t _, isA_zero (alloc_new1 w _ _), by unfold M2; simp, gr_alloc (gr_alloc (Below.refl _ _) _) _⟩
set_option maxHeartbeats 4000000 in
theorem join_any (F : Nat) (g : Nat → Nat → Nat) (hg : ∀ x y, x < B64 ^ 4 → y < B64 ^ 4 → g x y < B64 ^ 4)
    (hF : ∀ x y w, x < B64 ^ 4 → y < B64 ^ 4 → Calls Try.prog F #[numV x, numV y] w fun e w' => e = .returned (numV (g x y)) ∧ Below w.heap.size w w')
    (o : Nat) (ho : o < B64 ^ 4) (a : Option Addr) (len cap : Nat) (ns : List Nat) (w : World) (hl : len ≤ 100) (hn : sc_IsNums w a len ns) (hE : ∀ args w, (callFunc F args).run Try.prog w = .ok (.enter F args) w) :
    Calls Try.prog 66 #[numV o, .slice a len cap, .func (.func F) #[] #[]] w fun e w' => e = .returned (numV (ns.foldl g o)) ∧ Below w.heap.size w w' := by
  have HF := Lib.hid hF
  have HG := Lib.hid hg
  have HA0 : Hid (0 < len → ∀ b, a = some ⟨b, 0, none⟩ → b < w.heap.size) := fun h0 b e => by
    obtain ⟨b', e', hlt, _⟩ := hn.at_ h0
    rw [e] at e'
    cases e'
    exact hlt
  obtain ⟨xo, xr, xz, xB⟩ := m2_at o 25 w
  have hn2 := hn.below xB
  have HN := Lib.hid hn2
  simp only [numV_agg]
  clear hn hn2 hF hg
  go_enter Try.func66, Try.ntmps66
  go_wp2_with fail
  change Code.wp _ _ _ _ (M2 o 25 w)
  generalize M2 o 25 w = X at *
  go_loopw [11] (fun i wr => ∃ k : Nat, k ≤ len ∧ i = .int .i64 (k : Int) ∧ IsA wr w.heap.size ((ns.take k).foldl g o) 25 ∧ IsA wr (w.heap.size + 1) 0 25 ∧ sc_IsNums wr a len ns ∧ Hid (0 < len → ∀ b, a = some ⟨b, 0, none⟩ → b < w.heap.size) ∧ (ns.take k).foldl g o < B64 ^ 4 ∧ Below w.heap.size w wr) (fun i _ => len - (Go.RowKit.intOf i).toNat)
  case atStart => exact ⟨0, by omega, rfl, xo, xr, HN.out, HA0, ho, xB⟩
  case round =>
    obtain ⟨k, hk, rfl, ro, rr, hn, HA0, hA, hbe⟩ := hrel
    have hzr : w.heap.size + 2 ≤ wr.heap.size := by have := lt_blk rr; omega
    by_cases hlt : k < len
    · have p1 : (k : Int) < (len : Int) := by omega
      obtain ⟨b, rfl, hb, hc⟩ := hn.at_ (by omega)
      have hx : ns.getD k 0 < B64 ^ 4 := by
        have hk2 : k < ns.length := by rw [hn.ln]; exact hlt
        rw [List.getD_eq_getElem?_getD, List.getElem?_eq_getElem hk2]
        exact hn.lt _ (List.getElem_mem hk2)
      have hstep : (ns.take (k + 1)).foldl g o = g ((ns.take k).foldl g o) (ns.getD k 0) := by
        have hk2 : k < ns.length := by rw [hn.ln]; exact hlt
        rw [List.take_succ_eq_append_getElem hk2, List.foldl_append, List.getD_eq_getElem?_getD, List.getElem?_eq_getElem hk2]
        rfl
      have c0 : wr.cell? ⟨b, k * 4, none⟩ = _ := hc k 0 hlt (by omega)
      have c1 := hc k 1 hlt (by omega)
      have c2 := hc k 2 hlt (by omega)
      have c3 := hc k 3 hlt (by omega)
      have HNE := Lib.hid (show b ≠ w.heap.size by have := HA0.out (by omega) b rfl; omega)
      have HS := Lib.hid hstep
      obtain ⟨A, hAA⟩ : ∃ A, (ns.take k).foldl g o = A := ⟨_, rfl⟩
      obtain ⟨Y, hY⟩ : ∃ Y, ns.getD k 0 = Y := ⟨_, rfl⟩
      rw [hAA] at ro hA HS
      rw [hY] at hx c0 c1 c2 c3 HS
      have KF := Lib.hid (fun w => HF.out A Y w hA hx)
      have HGA := Lib.hid (HG.out A Y hA hx)
      obtain ⟨R, hR⟩ : ∃ R, g A Y = R := ⟨_, rfl⟩
      rw [hR] at KF HGA HS
      simp only [numV_agg] at KF
      obtain ⟨⟨d0, d1, d2, d3⟩, e0, e1, e2, e3⟩ := fourV ro
      have HN2 := Lib.hid hn
      have roY := ro.alloc (.cells #[.int .u64 (wd Y 0 : Int), .int .u64 (wd Y 1 : Int), .int .u64 (wd Y 2 : Int), .int .u64 (wd Y 3 : Int)] 25)
      have rrY := rr.alloc (.cells #[.int .u64 (wd Y 0 : Int), .int .u64 (wd Y 1 : Int), .int .u64 (wd Y 2 : Int), .int .u64 (wd Y 3 : Int)] 25)
      obtain ⟨⟨f0, f1, f2, f3⟩, -⟩ := fourV roY
      have HRO := Lib.hid roY
      have HRR := Lib.hid rrY
      have HBE := Lib.hid (gr_allocB hbe (by omega) (.cells #[.int .u64 (wd Y 0 : Int), .int .u64 (wd Y 1 : Int), .int .u64 (wd Y 2 : Int), .int .u64 (wd Y 3 : Int)] 25))
      have HNY := Lib.hid (hn.below ((Below.refl wr.heap.size wr).alloc (Nat.le_refl _) (.cells #[.int .u64 (wd Y 0 : Int), .int .u64 (wd Y 1 : Int), .int .u64 (wd Y 2 : Int), .int .u64 (wd Y 3 : Int)] 25)))
      clear hc hAA hY hR hstep HF HG hA hx hn HN roY rrY ro rr hbe HN2
      go_wp2_with fail
      refine (KF.out _).mono ?_
      rintro e w2 ⟨rfl, hb2⟩
      have ro2 := HRO.out.keep hb2
      have rr2 := HRR.out.keep hb2
      have hB2 := HBE.out.trans (hb2.mono (by simp; omega))
      have hn2 := HNY.out.below hb2
      obtain ⟨⟨d0, d1, d2, d3⟩, e0, e1, e2, e3⟩ := fourV ro2
      have ro3 := Lib.hid (isA_set (n := R) ro2)
      have rr3 := Lib.hid (rr2.far (c := w.heap.size) (v0 := .int .u64 (wd R 0 : Int)) (v1 := .int .u64 (wd R 1 : Int)) (v2 := .int .u64 (wd R 2 : Int)) (v3 := .int .u64 (wd R 3 : Int)) (by omega))
      have hB3 := Lib.hid (set4_below (v0 := .int .u64 (wd R 0 : Int)) (v1 := .int .u64 (wd R 1 : Int)) (v2 := .int .u64 (wd R 2 : Int)) (v3 := .int .u64 (wd R 3 : Int)) hB2 (b := w.heap.size) (Nat.le_refl _))
      have hne : b ≠ w.heap.size := HNE.out
      have hn3 := Lib.hid (hn2.far (v0 := .int .u64 (wd R 0 : Int)) (v1 := .int .u64 (wd R 1 : Int)) (v2 := .int .u64 (wd R 2 : Int)) (v3 := .int .u64 (wd R 3 : Int)) hne)
      clear HRO HRR HBE HNY ro2 rr2 hB2 hn2 hb2
      go_wp2_with fail
      go_roundw
      case rel => exact ⟨k + 1, by omega, congrArg (Value.int .i64) (by omega), by rw [HS.out]; exact ro3.out, rr3.out, hn3.out, HA0, by rw [HS.out]; exact HGA.out, hB3.out⟩
      case measure =>
        simp [Go.RowKit.intOf]
        omega
    · obtain rfl : k = len := by omega
      have p1 : ¬ (k : Int) < (k : Int) := by omega
      have hall : ns.take k = ns := List.take_of_length_le (by rw [hn.ln]; exact Nat.le_refl _)
      rw [hall] at ro hA
      obtain ⟨R, hR⟩ : ∃ R, ns.foldl g o = R := ⟨_, rfl⟩
      rw [hR] at ro
      have HR2 := Lib.hid hR
      have rr2 := isA_zero' rr
      obtain ⟨⟨d0, d1, d2, d3⟩, -⟩ := fourV ro
      obtain ⟨⟨f0, f1, f2, f3⟩, g0, g1, g2, g3⟩ := fourV rr2
      have KL := Lib.hid (load_num (isA_set (n := R) rr2))
      have BR := Lib.hid (set4_below (v0 := .int .u64 (wd R 0 : Int)) (v1 := .int .u64 (wd R 1 : Int)) (v2 := .int .u64 (wd R 2 : Int)) (v3 := .int .u64 (wd R 3 : Int)) hbe (b := w.heap.size + 1) (by omega))
      clear hA hall hR hn rr rr2 ro hbe HF HG HN
      go_wp2_with fail
      exact bodyPost_ret (results_arr Try.results66 (by rfl) KL.out) rfl ⟨by rw [HR2.out]; rfl, BR.out⟩
set_option maxHeartbeats 4000000 in
theorem scasum_any (a : Option Addr) (len cap : Nat) (ns : List Nat) (w : World) (hl : len ≤ 100) (hn : sc_IsNums w a len ns) :
    Calls Try.prog 24 #[.slice a len cap] w fun e w' => e = .returned (numV (ns.foldl (fun a b => (a + b) % LN) 0)) ∧ Below w.heap.size w w' := by
  obtain ⟨xr, xz, xB⟩ := sc_z1_at w
  have hn1 := hn.below xB
  have K1 := Lib.hid (fun w => small_any 0 w (by decide))
  have K2 := Lib.hid (fun (w : World) (h : sc_IsNums w a len ns) => join_any 67 (fun a b => (a + b) % LN) (fun x y _ _ => Nat.lt_trans (Nat.mod_lt _ LN_pos) LN_lt) (fun x y w hx hy => sum1_any x y w hx hy) 0 (by decide) a len cap ns w hl h (enters_of Try.func67 (by kernel_rfl) rfl))
  obtain ⟨R, hR⟩ : ∃ R, ns.foldl (fun a b => (a + b) % LN) 0 = R := ⟨_, rfl⟩
  rw [hR] at K2 ⊢
  have HN1 := Lib.hid hn1
  simp only [numV_agg] at K1 K2 ⊢
  have k0 : ((0 : Nat) : Int) = 0 := rfl
  rw [k0] at K1
  clear hn hn1 hR hl
  go_enter Try.func24, Try.ntmps24
  go_wp2_with fail
  change Calls _ _ _ (sc_Z1 w) _
  generalize sc_Z1 w = X at *
  refine (K1.out X).mono ?_
  rintro e w1 ⟨rfl, hb1⟩
  have hn2 := HN1.out.below hb1
  have xr1 := xr.keep hb1
  have hB1 : Below w.heap.size w w1 := xB.trans (hb1.mono (by omega))
  clear HN1 xr xB hb1 K1
  go_wp2_with fail
  refine (K2.out w1 hn2).mono ?_
  rintro e w2 ⟨rfl, hb2⟩
  have xr2 := isA_zero' (xr1.keep hb2)
  have hB2 : Below w.heap.size w w2 := hB1.trans (hb2.mono (by have := lt_blk xr1; omega))
  obtain ⟨⟨f0, f1, f2, f3⟩, g0, g1, g2, g3⟩ := fourV xr2
  have KL := Lib.hid (load_num (isA_set (n := R) xr2))
  have BR := Lib.hid (set4_below (v0 := .int .u64 (wd R 0 : Int)) (v1 := .int .u64 (wd R 1 : Int)) (v2 := .int .u64 (wd R 2 : Int)) (v3 := .int .u64 (wd R 3 : Int)) hB2 (b := w.heap.size) (Nat.le_refl _))
  clear hn2 K2 xr1 hB1 hb2 hB2 xr2
  go_wp2_with fail
  exact bodyPost_ret (results_arr Try.results24 (by rfl) KL.out) rfl ⟨rfl, BR.out⟩
end Go.Proofs.Ytigfoophimjgdaa
namespace Go.Proofs.Ytigfoophimjgdaa
set_option maxRecDepth 20000
set_option linter.unusedSimpArgs false
set_option linter.unusedVariables false
open Go.RowKit Go.Sort
theorem u32_nat (a : Int) (h : (Lit.int .u32 a).wf = true) : ∃ k : Nat, a = (k : Int) ∧ k < 4294967296 := by
  have ha : 0 ≤ a ∧ a ≤ 4294967295 := by simpa [Lit.wf, IntKind.min, IntKind.max, IntKind.signed, IntKind.bits] using h
  exact ⟨a.toNat, by omega, by omega⟩
theorem u8_nat (a : Int) (h : (Lit.int .u8 a).wf = true) : ∃ k : Nat, a = (k : Int) ∧ k < 256 := by
  have ha : 0 ≤ a ∧ a ≤ 255 := by simpa [Lit.wf, IntKind.min, IntKind.max, IntKind.signed, IntKind.bits] using h
  exact ⟨a.toNat, by omega, by omega⟩
/-- A multiple of the base, both ways. -/
theorem both_ex (k : Nat) (hk : k < 4294967296) : ∃ (a : N4) (b : N3), Ok4 a (timesE k baseE) ∧ Ok3 b (timesE k baseE) ∧ ∀ w, Calls Try.prog 7 #[.int .u32 (k : Int)] w fun E w' => E = .returned (.tuple #[pv4 a, pv3 b]) ∧ Below w.heap.size w w' :=
  ⟨_, _, ok4_p _ (on_times baseE on_base k), ok3_times ok3_base k (Nat.lt_of_lt_of_le hk (by decide +kernel)), both_any k hk⟩
theorem rptadd3 {a b : N3} {p q : Pt} (ha : Ok3 a p) (hb : Ok3 b q) (w : World) : Calls Try.prog 10 #[pv3 a, pv3 b, numV dN] w fun E w' => E = .returned (pv3 (add3 a b)) ∧ Below w.heap.size w w' := add3_any a b w ha.is hb.is
theorem is_eq {a : N4} {b : N3} {p q : Pt} (ha : Ok4 a p) (hb : Ok3 b q) (h : p = q) (w : World) : Calls Try.prog 18 #[pv4 a, pv3 b] w fun E w' => E = .returned (.bool true) ∧ Below w.heap.size w w' := by
  subst h
  exact is_yes ha hb w
theorem zz2 (p q : Pt) (hp : On p) (hq : On q) : addE (addE zeroE p) q = addE p q := by rw [zeroAdd p hp]
theorem zz3 (p q r : Pt) (hp : On p) (hq : On q) (hr : On r) : addE (addE zeroE (addE (addE zeroE p) q)) r = addE (addE p q) r := by rw [zz2 p q hp hq, zeroAdd _ (on_add p q hp hq)]
theorem zz4 (p q : Pt) (hp : On p) (hq : On q) : addE (addE (addE zeroE p) q) (addE (addE zeroE p) q) = addE (addE p q) (addE p q) := by rw [zz2 p q hp hq]
theorem zz5 (p q : Pt) (hp : On p) (hq : On q) : negE (addE (addE zeroE p) q) = negE (addE p q) := by rw [zz2 p q hp hq]
theorem zz6 (p q r : Pt) (hp : On p) (hq : On q) (hr : On r) : addE (addE (addE zeroE (addE (addE zeroE p) q)) r) (addE (addE zeroE p) q) = addE (addE (addE p q) r) (addE p q) := by rw [zz3 p q r hp hq hr, zz2 p q hp hq]
theorem cv8 (m m8 : Nat) (h : m % 256 = m8) (W : World) : (convert 22 5 (.int .u32 (m : Int))).run Try.prog W = .ok (.int .u8 (m8 : Int)) W := by
  have e : IntKind.u8.wrap (m : Int) = (m8 : Int) := by rw [IntKind.wrap_u8]; omega
  go_simp
theorem bin_eql_u32 (k l : Nat) (x y : Operand) (W : World) : (do eqGuard .eql 22 x y (.int .u32 (k : Int)) (.int .u32 (l : Int)); binOp .eql 22 (.int .u32 (k : Int)) (.int .u32 (l : Int)) : Sem Value).run Try.prog W = .ok (.bool (decide (k = l))) W := by
  have e : ((k : Int) == (l : Int)) = decide (k = l) := by
    by_cases h : k = l
    · subst h; simp
    · rw [decide_eq_false h]
      exact beq_eq_false_iff_ne.2 (by omega)
  go_simp
theorem bin_eql_bb (c : Prop) [Decidable c] (x y : Operand) (W : World) : (do eqGuard .eql 4 x y (.bool (decide c)) (.bool (decide c)); binOp .eql 4 (.bool (decide c)) (.bool (decide c)) : Sem Value).run Try.prog W = .ok (.bool true) W := by
  have h := bin_eql_b (decide c) (decide c) x y W
  rw [beq_self_eq_true] at h
  exact h
theorem same_kl {a b : N4} {p q : Pt} {k l : Nat} (ha : Ok4 a p) (hb : Ok4 b q) (h : p = q ↔ k = l) (w : World) : Calls Try.prog 15 #[pv4 a, pv4 b] w fun E w' => E = .returned (.bool (decide (k = l))) ∧ Below w.heap.size w w' := by
  have hc := samep4 ha hb w
  rw [show decide (p = q) = decide (k = l) from decide_eq_decide.2 h] at hc
  exact hc
theorem y1 (p q r : Pt) (hp : On p) (hq : On q) (hr : On r) : addE (addE zeroE (addE (addE zeroE p) q)) r = addE (addE zeroE p) (addE (addE zeroE q) r) := by
  rw [zz3 p q r hp hq hr, zeroAdd p hp, zeroAdd q hq, add_assoc' p q r hp hq hr]
theorem y2 (p q r : Pt) (hp : On p) (hq : On q) (hr : On r) : addE (addE zeroE (addE (addE zeroE p) q)) r = addE (addE (addE zeroE r) q) p := by
  rw [zz3 p q r hp hq hr, zeroAdd r hr, add_assoc' p q r hp hq hr, add_comm' p, add_comm' q r]
theorem y3 (p : Pt) (hp : On p) : addE (addE zeroE p) zeroE = p := by rw [zeroAdd p hp, add_zero' p hp]
theorem y4 (p q : Pt) (hp : On p) (hq : On q) : addE p q = addE (addE zeroE p) q := by rw [zeroAdd p hp]
theorem y5 (p : Pt) (hp : On p) : addE p p = addE (addE zeroE p) p := by rw [zeroAdd p hp]
end Go.Proofs.Ytigfoophimjgdaa
