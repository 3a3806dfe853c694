/- The closure of wide.Rem: one bit more. -/
import Derived.Test.YthalmomheecpcaaWidF
namespace Go.Proofs.Ythalmomheecpcaa
open Go.RowKit
theorem add_open (a b : Nat) (w : World) (ha : a < B64 ^ 4) (hb : b < B64 ^ 4) :
    Calls Try.prog 35 #[.agg #[.int .u64 (wd a 0 : Int), .int .u64 (wd a 1 : Int), .int .u64 (wd a 2 : Int), .int .u64 (wd a 3 : Int)], .agg #[.int .u64 (wd b 0 : Int), .int .u64 (wd b 1 : Int), .int .u64 (wd b 2 : Int), .int .u64 (wd b 3 : Int)]] w fun e w' => e = .returned (.tuple #[.agg #[.int .u64 (wd (addN a b) 0 : Int), .int .u64 (wd (addN a b) 1 : Int), .int .u64 (wd (addN a b) 2 : Int), .int .u64 (wd (addN a b) 3 : Int)], .int .u64 (addK a b : Int)]) ∧ Below w.heap.size w w' := add_any a b w ha hb
theorem sub_open (a b : Nat) (w : World) (ha : a < B64 ^ 4) (hb : b < B64 ^ 4) :
    Calls Try.prog 46 #[.agg #[.int .u64 (wd a 0 : Int), .int .u64 (wd a 1 : Int), .int .u64 (wd a 2 : Int), .int .u64 (wd a 3 : Int)], .agg #[.int .u64 (wd b 0 : Int), .int .u64 (wd b 1 : Int), .int .u64 (wd b 2 : Int), .int .u64 (wd b 3 : Int)]] w fun e w' => e = .returned (.tuple #[.agg #[.int .u64 (wd (subN a b) 0 : Int), .int .u64 (wd (subN a b) 1 : Int), .int .u64 (wd (subN a b) 2 : Int), .int .u64 (wd (subN a b) 3 : Int)], .int .u64 (subK a b : Int)]) ∧ Below w.heap.size w w' := sub_any a b w ha hb
/-- The rest behind one bit more, as the closure reckons it. -/
theorem take_num (r m b : Nat) (hr : r < m) (hm : m < B64 ^ 4) (hb : b < 2) :
    addN r r + b < B64 ^ 4 ∧ wd (addN r r + b) 0 = wd (addN r r) 0 + b ∧ (∀ k, 1 ≤ k → wd (addN r r + b) k = wd (addN r r) k) ∧ wd (addN r r) 0 % 2 = 0 ∧ wd (addN r r) 0 + b < 18446744073709551616 ∧
    (addK r r = 1 ∨ addK r r = 0 ∧ subK (addN r r + b) m = 0 → subN (addN r r + b) m = (2 * r + b) % m) ∧ (addK r r = 0 ∧ subK (addN r r + b) m = 1 → addN r r + b = (2 * r + b) % m) ∧ addK r r ≤ 1 ∧ subK (addN r r + b) m ≤ 1 := by
  have hT : B64 ^ 4 = B64 * B64 ^ 3 := by rw [Nat.pow_succ, Nat.mul_comm]
  have hTe : ∃ t, B64 ^ 4 = 2 * t := ⟨9223372036854775808 * B64 ^ 3, by rw [hT, ← Nat.mul_assoc]; rfl⟩
  obtain ⟨t, ht⟩ := hTe
  have hk : addK r r = 0 ∧ addN r r = 2 * r ∨ addK r r = 1 ∧ addN r r + B64 ^ 4 = 2 * r := by
    unfold addK addN
    by_cases h : r + r < B64 ^ 4
    · left; rw [Nat.div_eq_of_lt h, Nat.mod_eq_of_lt h]; omega
    · right
      have h1 : r + r < B64 ^ 4 + B64 ^ 4 := by omega
      rw [Nat.mod_eq_sub_mod (by omega), Nat.mod_eq_of_lt (by omega), Nat.div_eq_sub_div (Nat.pow_pos B64_pos) (by omega), Nat.div_eq_of_lt (by omega)]
      omega
  have hev : addN r r % 2 = 0 := by rcases hk with ⟨_, h⟩ | ⟨_, h⟩ <;> omega
  have hlt : addN r r < B64 ^ 4 := Nat.mod_lt _ (Nat.pow_pos B64_pos)
  have hlt2 : addN r r + b < B64 ^ 4 := by omega
  have hw0 : wd (addN r r) 0 % 2 = 0 := by rw [wd_zero]; unfold B64; omega
  have hw1 : wd (addN r r) 0 < 18446744073709551616 := wd_lt _ _
  have hd : (addN r r + b) / B64 = addN r r / B64 := by unfold B64; omega
  have hm0 : wd (addN r r + b) 0 = wd (addN r r) 0 + b := by rw [wd_zero, wd_zero]; unfold B64; omega
  refine ⟨hlt2, hm0, fun k hk => ?_, hw0, by omega, ?_, ?_, ?_, ?_⟩
  · obtain ⟨j, rfl⟩ : ∃ j, k = j + 1 := ⟨k - 1, by omega⟩
    rw [wd_succ, wd_succ, hd]
  · intro h
    unfold subK at h
    unfold subN
    rcases hk with ⟨h1, h2⟩ | ⟨h1, h2⟩
    · rw [h1] at h
      have h3 : ¬ addN r r + b < m := by
        rcases h with h | ⟨_, h⟩
        · omega
        · intro h4; rw [if_pos h4] at h; omega
      rw [if_neg h3, h2, Nat.mod_eq_sub_mod (by omega), Nat.mod_eq_of_lt (by omega)]
    · have h3 : addN r r + b < m := by omega
      rw [if_pos h3, Nat.mod_eq_sub_mod (by omega), Nat.mod_eq_of_lt (by omega)]
      omega
  · rintro ⟨h1, h2⟩
    unfold subK at h2
    have h3 : addN r r + b < m := by
      by_cases h4 : addN r r + b < m
      · exact h4
      · rw [if_neg h4] at h2; omega
    rcases hk with ⟨_, h5⟩ | ⟨h5, _⟩
    · rw [Nat.mod_eq_of_lt (by omega)]; omega
    · omega
  · rcases hk with ⟨h, _⟩ | ⟨h, _⟩ <;> omega
  · unfold subK; split <;> omega
theorem or_low (x b : Nat) (hx : x % 2 = 0) (hb : b < 2) (hl : x < 18446744073709551616) : bits .or .u64 (x : Int) (b : Int) = ((x + b : Nat) : Int) := by
  rw [bits_or_u64_nat _ _ (by omega) (by omega)]
  have h3 := Nat.shiftLeft_add_eq_or_of_lt (i := 1) (b := b) (by omega) (x / 2)
  rw [Nat.shiftLeft_eq, show x / 2 * 2 ^ 1 = x by omega] at h3
  rw [h3]
theorem grown_set (W : World) (b i : Nat) (v : Value) : W.grownBy (W.setCell ⟨b, i, none⟩ v) (some b) :=
  ⟨rfl, rfl, rfl, by show _ ≤ (W.heap.modify _ _).size; rw [Array.size_modify]; exact Nat.le_refl _, fun k _ hk => Below.heap_setCell _ _ _ k (fun e => hk (by rw [e]))⟩
theorem grown_below {w Y : World} (h : Below w.heap.size w Y) (R : Nat) : w.grownBy Y (some R) := ⟨h.os, h.tape, h.output, h.size, fun k hk _ => h.block k hk⟩
def set4 (W : World) (b : Nat) (v0 v1 v2 v3 : Value) : World := (((W.setCell ⟨b, 0, none⟩ v0).setCell ⟨b, 1, none⟩ v1).setCell ⟨b, 2, none⟩ v2).setCell ⟨b, 3, none⟩ v3
theorem set4_grown {w Y : World} {R : Nat} (h : w.grownBy Y (some R)) (v0 v1 v2 v3 : Value) : w.grownBy (set4 Y R v0 v1 v2 v3) (some R) :=
  grown_step (grown_step (grown_step (grown_step h (grown_set _ _ _ _)) (grown_set _ _ _ _)) (grown_set _ _ _ _)) (grown_set _ _ _ _)
theorem set4_num {Y : World} {R x y : Nat} (h : Y.heap[R]? = some (.cells (numL x).toArray 25 (0, 0))) : (set4 Y R (.int .u64 (wd y 0 : Int)) (.int .u64 (wd y 1 : Int)) (.int .u64 (wd y 2 : Int)) (.int .u64 (wd y 3 : Int))).heap[R]? = some (.cells (numL y).toArray 25 (0, 0)) :=
  arr_set (i := 3) (arr_set (i := 2) (arr_set (i := 1) (arr_set (i := 0) h (.int .u64 (wd y 0 : Int))) (.int .u64 (wd y 1 : Int))) (.int .u64 (wd y 2 : Int))) (.int .u64 (wd y 3 : Int))
theorem set4_size (W : World) (b : Nat) (v0 v1 v2 v3 : Value) : (set4 W b v0 v1 v2 v3).heap.size = W.heap.size := by
  have sz : ∀ (W : World) (a : Addr) (v : Value), (W.setCell a v).heap.size = W.heap.size := fun W a v => by show (W.heap.modify _ _).size = _; rw [Array.size_modify]
  unfold set4
  rw [sz, sz, sz, sz]
theorem take_end {w w2 : World} {R r T S : Nat} (o : Obj) (hlR : R < w2.heap.size) (hR : w2.heap[R]? = some (.cells (numL r).toArray 25 (0, 0))) (hw : Below w.heap.size w w2) :
    ((set4 w2 R (.int .u64 (wd T 0 : Int)) (.int .u64 (wd T 1 : Int)) (.int .u64 (wd T 2 : Int)) (.int .u64 (wd T 3 : Int))).alloc o).heap[R]? = some (.cells (numL T).toArray 25 (0, 0)) ∧
    w.grownBy ((set4 w2 R (.int .u64 (wd T 0 : Int)) (.int .u64 (wd T 1 : Int)) (.int .u64 (wd T 2 : Int)) (.int .u64 (wd T 3 : Int))).alloc o) (some R) ∧
    ((set4 (set4 w2 R (.int .u64 (wd T 0 : Int)) (.int .u64 (wd T 1 : Int)) (.int .u64 (wd T 2 : Int)) (.int .u64 (wd T 3 : Int))) R (.int .u64 (wd S 0 : Int)) (.int .u64 (wd S 1 : Int)) (.int .u64 (wd S 2 : Int)) (.int .u64 (wd S 3 : Int))).alloc o).heap[R]? = some (.cells (numL S).toArray 25 (0, 0)) ∧
    w.grownBy ((set4 (set4 w2 R (.int .u64 (wd T 0 : Int)) (.int .u64 (wd T 1 : Int)) (.int .u64 (wd T 2 : Int)) (.int .u64 (wd T 3 : Int))) R (.int .u64 (wd S 0 : Int)) (.int .u64 (wd S 1 : Int)) (.int .u64 (wd S 2 : Int)) (.int .u64 (wd S 3 : Int))).alloc o) (some R) := by
  have h1 := set4_num (y := T) hR
  have h2 := set4_num (y := S) h1
  have g1 := set4_grown (grown_below hw R) (.int .u64 (wd T 0 : Int)) (.int .u64 (wd T 1 : Int)) (.int .u64 (wd T 2 : Int)) (.int .u64 (wd T 3 : Int))
  have g2 := set4_grown g1 (.int .u64 (wd S 0 : Int)) (.int .u64 (wd S 1 : Int)) (.int .u64 (wd S 2 : Int)) (.int .u64 (wd S 3 : Int))
  exact ⟨(alloc_old _ _ _ (by rw [set4_size]; exact hlR)).trans h1, grown_step g1 (World.grownBy_alloc _ _ _), (alloc_old _ _ _ (by rw [set4_size, set4_size]; exact hlR)).trans h2, grown_step g2 (World.grownBy_alloc _ _ _)⟩
set_option maxHeartbeats 8000000 in
theorem take_any (r m b R M : Nat) (w : World) (hr : r < m) (hm : m < B64 ^ 4) (hb : b < 2) (hR : w.heap[R]? = some (.cells (numL r).toArray 25 (0, 0))) (hM : w.heap[M]? = some (.cells (numL m).toArray 25 (0, 0))) :
    Calls Try.prog 45 #[.int .u64 (b : Int), .pointer (some ⟨R, 0, none⟩), .pointer (some ⟨M, 0, none⟩)] w fun e w' => e = .returned (.tuple #[]) ∧ w'.heap[R]? = some (.cells (numL ((2 * r + b) % m)).toArray 25 (0, 0)) ∧ w.grownBy w' (some R) := by
  have hlR : R < w.heap.size := by
    apply Nat.lt_of_not_le
    intro hle
    rw [Array.getElem?_eq_none hle] at hR
    simp at hR
  have hlM : M < w.heap.size := by
    apply Nat.lt_of_not_le
    intro hle
    rw [Array.getElem?_eq_none hle] at hM
    simp at hM
  obtain ⟨n1, n2, n3, n4, n5, n6, n7, n8, n9⟩ := take_num r m b hr hm hb
  have AA := fun w => add_open r r w (by omega) (by omega)
  have SS := fun w => sub_open (addN r r + b) m w n1 hm
  have hor := or_low (wd (addN r r) 0) b n4 hb (wd_lt _ _)
  rw [← n2] at hor
  have e1 := n3 1 (by omega)
  have e2 := n3 2 (by omega)
  have e3 := n3 3 (by omega)
  rw [← e1, ← e2, ← e3] at AA
  have hw0 := wd_lt (addN r r) 0
  have hw1 := wd_lt (addN r r + b) 0
  generalize wd (addN r r) 0 = T0 at AA hor hw0
  generalize hT : addN r r + b = T at AA SS hor n6 n7 n9 hw1
  generalize hK : addK r r = K at AA n6 n7 n8
  generalize hS : subN T m = S at SS n6
  generalize hB : subK T m = Bo at SS n6 n7 n9
  have HA := Lib.hid AA
  have HS := Lib.hid SS
  have H6 := Lib.hid n6
  have H7 := Lib.hid n7
  clear AA SS n1 n2 n3 n4 n5 n6 n7 e1 e2 e3 hT hK hS hB hr hm
  have c0 := (arr_get hR (numL_get r 0 (by omega))).1
  have c1 := (arr_get hR (numL_get r 1 (by omega))).1
  have c2 := (arr_get hR (numL_get r 2 (by omega))).1
  have c3 := (arr_get hR (numL_get r 3 (by omega))).1
  have HR := Lib.hid hR
  have HM := Lib.hid hM
  clear hR hM
  have b1 : (b : Int) < 2 := by omega
  go_enter Try.func45, Try.ntmps45
  go_wp2_with fail
  go_at_call 35
  refine (HA.out w).mono ?_
  rintro e w1 ⟨rfl, hb1⟩
  have hz1 := hb1.size
  have R1 := Lib.hid ((hb1.block R hlR).trans HR.out)
  have hM1 := (hb1.block M hlM).trans HM.out
  have k0 := (arr_get hM1 (numL_get m 0 (by omega))).1
  have k1 := (arr_get hM1 (numL_get m 1 (by omega))).1
  have k2 := (arr_get hM1 (numL_get m 2 (by omega))).1
  have k3 := (arr_get hM1 (numL_get m 3 (by omega))).1
  have lM1 : M < w1.heap.size := by omega
  have HB1 := Lib.hid hb1
  clear HR HM hM1 HA c0 c1 c2 c3 hb1
  go_wp2_with fail
  go_at_call 46
  refine (HS.out _).mono ?_
  rintro e w2 ⟨rfl, hb2⟩
  have hz2 := hb2.size
  rw [alloc_size1] at hz2
  have hT2 := (hb2.block w1.heap.size (by rw [alloc_size1]; omega)).trans (alloc_new w1 (.cells (numL T).toArray 25))
  have hR2 := (hb2.block R (by rw [alloc_size1]; omega)).trans ((alloc_old w1 _ R (by omega)).trans R1.out)
  have j0 := (arr_get hT2 (numL_get T 0 (by omega))).1
  have j1 := (arr_get hT2 (numL_get T 1 (by omega))).1
  have j2 := (arr_get hT2 (numL_get T 2 (by omega))).1
  have j3 := (arr_get hT2 (numL_get T 3 (by omega))).1
  obtain ⟨g0, h0⟩ := arr_get hR2 (numL_get r 0 (by omega))
  obtain ⟨g1, h1⟩ := arr_get hR2 (numL_get r 1 (by omega))
  obtain ⟨g2, h2⟩ := arr_get hR2 (numL_get r 2 (by omega))
  obtain ⟨g3, h3⟩ := arr_get hR2 (numL_get r 3 (by omega))
  have hw2 : Below w.heap.size w w2 := HB1.out.trans (Below.mono ((gr_alloc (Below.refl _ _) _).trans (hb2.mono (by rw [alloc_size1]; omega))) (by omega))
  have HR2 := Lib.hid hR2
  have HW2 := Lib.hid hw2
  have lR2 : R < w2.heap.size := by omega
  have l12 : w1.heap.size < w2.heap.size := by omega
  have nR1 : R ≠ w1.heap.size := by omega
  have nR2 : R ≠ w2.heap.size := by omega
  clear hb2 hT2 hR2 hw2 HB1 R1 k0 k1 k2 k3 HS
  have hcase : K = 1 ∨ (K = 0 ∧ Bo = 0) ∨ (K = 0 ∧ Bo = 1) := by omega
  rcases hcase with rfl | ⟨rfl, rfl⟩ | ⟨rfl, rfl⟩
  · have HV := Lib.hid (H6.out (.inl rfl))
    have HE := Lib.hid (take_end (T := T) (S := S) (.cells #[.int .u64 (wd S 0 : Int), .int .u64 (wd S 1 : Int), .int .u64 (wd S 2 : Int), .int .u64 (wd S 3 : Int)] 25) lR2 HR2.out HW2.out)
    clear H6 H7 HR2 HW2
    go_wp2_with fail
    go_end0
    rw [← HV.out]
    exact ⟨rfl, HE.out.2.2.1, HE.out.2.2.2⟩
  · have HV := Lib.hid (H6.out (.inr ⟨rfl, rfl⟩))
    have HE := Lib.hid (take_end (T := T) (S := S) (.cells #[.int .u64 (wd S 0 : Int), .int .u64 (wd S 1 : Int), .int .u64 (wd S 2 : Int), .int .u64 (wd S 3 : Int)] 25) lR2 HR2.out HW2.out)
    clear H6 H7 HR2 HW2
    go_wp2_with fail
    go_end0
    rw [← HV.out]
    exact ⟨rfl, HE.out.2.2.1, HE.out.2.2.2⟩
  · have HV := Lib.hid (H7.out ⟨rfl, rfl⟩)
    have HE := Lib.hid (take_end (T := T) (S := S) (.cells #[.int .u64 (wd S 0 : Int), .int .u64 (wd S 1 : Int), .int .u64 (wd S 2 : Int), .int .u64 (wd S 3 : Int)] 25) lR2 HR2.out HW2.out)
    clear H6 H7 HR2 HW2
    go_wp2_with fail
    go_end0
    rw [← HV.out]
    exact ⟨rfl, HE.out.1, HE.out.2.1⟩
end Go.Proofs.Ythalmomheecpcaa
