/- Numbers of four words: words, how they stand to each other; what wide.Cmp answers. -/
import Derived.Test.YthdbadomppohbaaAid
import Derived.ProofKit
import Derived.Laws.Rows
namespace Go.Proofs.Ythdbadomppohbaa
set_option maxRecDepth 20000
set_option linter.unusedSimpArgs false
set_option linter.unusedVariables false
open Go.RowKit
def B64 : Nat := 18446744073709551616
/-- Word i of a number. -/
def wd (n i : Nat) : Nat := n / B64 ^ i % B64
theorem B64_pos : 0 < B64 := by decide
theorem wd_lt (n i : Nat) : wd n i < 18446744073709551616 := Nat.mod_lt _ B64_pos
def numL (n : Nat) : List Value := [.int .u64 (wd n 0 : Int), .int .u64 (wd n 1 : Int), .int .u64 (wd n 2 : Int), .int .u64 (wd n 3 : Int)]
def numV (n : Nat) : Value := .agg #[.int .u64 (wd n 0 : Int), .int .u64 (wd n 1 : Int), .int .u64 (wd n 2 : Int), .int .u64 (wd n 3 : Int)]
theorem numL_get (n d : Nat) (h : d < 4) : (numL n)[d]? = some (.int .u64 (wd n d : Int)) := by
  match d, h with
  | 0, _ => rfl | 1, _ => rfl | 2, _ => rfl | 3, _ => rfl
theorem div_step (n i : Nat) : n / B64 ^ i = n / B64 ^ (i + 1) * B64 + wd n i := by
  unfold wd
  rw [Nat.pow_succ, ← Nat.div_div_eq_div_mul]
  have := Nat.div_add_mod (n / B64 ^ i) B64
  rw [Nat.mul_comm] at this
  exact this.symm
/-- Where the words from place c on are alike, the numbers above are. -/
theorem div_same (a b : Nat) (ha : a < B64 ^ 4) (hb : b < B64 ^ 4) : ∀ k c, c + k = 4 → (∀ j, c ≤ j → j < 4 → wd a j = wd b j) → a / B64 ^ c = b / B64 ^ c
  | 0, c, hc, _ => by
    obtain rfl : c = 4 := by omega
    rw [Nat.div_eq_of_lt ha, Nat.div_eq_of_lt hb]
  | k + 1, c, hc, h => by
    rw [div_step a c, div_step b c, div_same a b ha hb k (c + 1) (by omega) (fun j h1 h2 => h j (by omega) h2), h c (by omega) (by omega)]
theorem wd_less (a b c : Nat) (h : a / B64 ^ (c + 1) = b / B64 ^ (c + 1)) (hw : wd a c < wd b c) : a < b := by
  apply Nat.lt_of_not_le
  intro hle
  have h1 : b / B64 ^ c ≤ a / B64 ^ c := Nat.div_le_div_right hle
  rw [div_step a c, div_step b c, h] at h1
  omega
def cmpI (a b : Nat) : Int := if a < b then -1 else if b < a then 1 else 0
theorem compare_any (x y : Nat) (w : World) :
    Calls Try.prog 80 #[.int .u64 (x : Int), .int .u64 (y : Int)] w fun e w' => e = .returned (.int .i64 (cmpI x y)) ∧ w' = w := by
  have nan : ∀ (z : Nat) (w : World), Calls Try.prog 84 #[.int .u64 (z : Int)] w fun e w' => e = .returned (.bool false) ∧ w = w' := fun z w => by
    go_enter Try.func84, Try.ntmps84
    go_wp2_with fail
    go_ret
    exact ⟨rfl, rfl⟩
  rcases Nat.lt_trichotomy x y with h | h | h
  · have HE := Lib.hid (show cmpI x y = -1 from if_pos h)
    have p1 : (x : Int) < (y : Int) := by omega
    go_enter Try.func80, Try.ntmps80
    go_wp2_with (go_at_call 84; refine (nan _ _).mono ?_; rintro e w' ⟨rfl, rfl⟩)
    go_ret
    exact ⟨ret_int HE.out.symm, rfl⟩
  · subst h
    have HE := Lib.hid (show cmpI x x = 0 by simp [cmpI])
    have p1 : ¬ (x : Int) < (x : Int) := by omega
    go_enter Try.func80, Try.ntmps80
    go_wp2_with (go_at_call 84; refine (nan _ _).mono ?_; rintro e w' ⟨rfl, rfl⟩)
    go_ret
    exact ⟨ret_int HE.out.symm, rfl⟩
  · have HE := Lib.hid (show cmpI x y = 1 by rw [cmpI, if_neg (by omega), if_pos h])
    have p1 : ¬ (x : Int) < (y : Int) := by omega
    have p2 : (y : Int) < (x : Int) := by omega
    go_enter Try.func80, Try.ntmps80
    go_wp2_with (go_at_call 84; refine (nan _ _).mono ?_; rintro e w' ⟨rfl, rfl⟩)
    go_ret
    exact ⟨ret_int HE.out.symm, rfl⟩
theorem alloc_size1 (w : World) (o : Obj) : (w.alloc o).heap.size = w.heap.size + 1 := by simp
theorem alloc_old (w : World) (o : Obj) (b : Nat) (h : b < w.heap.size) : (w.alloc o).heap[b]? = w.heap[b]? := by
  show (w.heap.push _)[b]? = _
  rw [Array.getElem?_push_lt h, Array.getElem?_eq_getElem h]
theorem alloc_new (w : World) (o : Obj) : (w.alloc o).heap[w.heap.size]? = some o := by
  show (w.heap.push _)[w.heap.size]? = _
  simp
theorem arr_get {w : World} {b i : Nat} {t : TypeId} {L : List Value} {v : Value} (h : w.heap[b]? = some (.cells L.toArray t (0, 0))) (hi : L[i]? = some v) : w.cell? ⟨b, i, none⟩ = some v ∧ w.frozen? ⟨b, i, none⟩ = false :=
  ⟨by simp [World.cell?, h, hi], by simp [World.frozen?, h]⟩
def kI (c : Nat) : Int := (c : Int) - 1
theorem below_drewN1 {B : Nat} {a w : World} (h : Below B a w) (n : Nat) : Below B a (w.drewN n) := h.trans ⟨rfl, rfl, rfl, Nat.le_refl _, fun _ _ => rfl⟩
set_option maxHeartbeats 4000000 in
theorem cmp_any (a b : Nat) (w : World) (ha : a < B64 ^ 4) (hb : b < B64 ^ 4) :
    Calls Try.prog 66 #[numV a, numV b] w fun e w' => e = .returned (.int .i64 (cmpI a b)) ∧ Below w.heap.size w w' := by
  unfold numV
  have hX0 : ((w.alloc (.cells (numL a).toArray 26)).alloc (.cells (numL b).toArray 26)).heap[w.heap.size]? = some (.cells (numL a).toArray 26 (0, 0)) := by
    rw [alloc_old _ _ _ (by rw [alloc_size1]; omega), alloc_new]
  have hX1 : ((w.alloc (.cells (numL a).toArray 26)).alloc (.cells (numL b).toArray 26)).heap[w.heap.size + 1]? = some (.cells (numL b).toArray 26 (0, 0)) := by
    have := alloc_new (w.alloc (.cells (numL a).toArray 26)) (.cells (numL b).toArray 26)
    rw [alloc_size1] at this
    exact this
  have hXb : Below w.heap.size w ((w.alloc (.cells (numL a).toArray 26)).alloc (.cells (numL b).toArray 26)) := gr_alloc (gr_alloc (Below.refl _ _) _) _
  go_enter Try.func66, Try.ntmps66
  go_wp2_with fail
  change Code.wp _ _ _ _ ((w.alloc (.cells (numL a).toArray 26)).alloc (.cells (numL b).toArray 26))
  generalize (w.alloc (.cells (numL a).toArray 26)).alloc (.cells (numL b).toArray 26) = X at *
  go_loopw [5] (fun i wr => ∃ c : Nat, c ≤ 4 ∧ i = .int .i64 (kI c) ∧ (∀ j, c ≤ j → j < 4 → wd a j = wd b j) ∧ ∃ nq, X.drewN nq = wr) (fun i _ => (intOf i + 1).toNat)
  case atStart => exact ⟨4, by omega, rfl, fun j h1 h2 => absurd h1 (by omega), 0, rfl⟩
  case round =>
    obtain ⟨c, hc, rfl, hsame, nq, rfl⟩ := hrel
    match c, hc with
    | 0, _ =>
      have HE := Lib.hid (show cmpI a b = 0 by
        have h1 := div_same a b ha hb 4 0 rfl hsame
        rw [Nat.pow_zero, Nat.div_one, Nat.div_one] at h1
        rw [h1]; simp [cmpI])
      rw [show kI 0 = -1 from rfl]
      clear hX0 hX1 hsame
      go_wp2_with fail
      go_ret
      exact ⟨ret_int HE.out.symm, below_drewN1 hXb nq⟩
    | d + 1, hc =>
      rw [show kI (d + 1) = (d : Int) by unfold kI; omega]
      have d3 : (d : Int) < 4 := by omega
      have d4 : ¬ (4 : Int) ≤ (d : Int) := by omega
      have c0 : (X.drewN nq).cell? ⟨w.heap.size, d, none⟩ = some (.int .u64 (wd a d : Int)) := (arr_get hX0 (numL_get a d (by omega))).1
      have c1 : (X.drewN nq).cell? ⟨w.heap.size + 1, d, none⟩ = some (.int .u64 (wd b d : Int)) := (arr_get hX1 (numL_get b d (by omega))).1
      have hab := div_same a b ha hb (3 - d) (d + 1) (by omega) hsame
      by_cases he : wd a d = wd b d
      · have hs2 : ∀ j, d ≤ j → j < 4 → wd a j = wd b j := fun j h1 h2 => by
          rcases Nat.eq_or_lt_of_le h1 with h | h
          · rw [← h]; exact he
          · exact hsame j (by omega) h2
        have HS := Lib.hid hs2
        rw [he] at c0
        clear hX0 hX1 hsame hs2 hab he
        generalize wd b d = x at c0 c1
        obtain ⟨Y, hY⟩ : ∃ Y, X.drewN nq = Y := ⟨_, rfl⟩
        have HY := Lib.hid hY
        rw [hY] at c0 c1 ⊢
        clear hY
        go_wp2_with fail
        go_quiet (fail)
        go_wp2_with fail
        go_roundw
        case rel => exact ⟨d, by omega, rfl, HS.out, _, by rw [← HY.out, World.drewN_drewN]⟩
        case measure => simp [intOf]
      · have HE := Lib.hid (show cmpI a b = cmpI (wd a d) (wd b d) by
          rcases Nat.lt_or_gt_of_ne he with h | h
          · have := wd_less a b d hab h
            rw [cmpI, cmpI, if_pos this, if_pos h]
          · have := wd_less b a d hab.symm h
            rw [cmpI, cmpI, if_neg (by omega), if_pos this, if_neg (by omega), if_pos h])
        have q1 : ¬ ((wd a d : Int) = (wd b d : Int)) := by omega
        have q2 : decide ((wd a d : Int) = (wd b d : Int)) = false := by simpa using q1
        have q3 : ((wd a d : Int) == (wd b d : Int)) = false := by simpa using q1
        clear hX0 hX1 hsame hab he
        generalize wd a d = x at *
        generalize wd b d = y at *
        obtain ⟨Y, hY⟩ : ∃ Y, X.drewN nq = Y := ⟨_, rfl⟩
        have hYb : Below w.heap.size w Y := by rw [← hY]; exact below_drewN1 hXb nq
        rw [hY] at c0 c1 ⊢
        clear hY hXb
        go_wp2_with fail
        go_quiet (fail)
        go_wp2_with fail
        have e0 : (Y.drewN nq).cell? ⟨w.heap.size, d, none⟩ = some (.int .u64 (x : Int)) := c0
        have e1 : (Y.drewN nq).cell? ⟨w.heap.size + 1, d, none⟩ = some (.int .u64 (y : Int)) := c1
        have eb := below_drewN1 hYb nq
        clear c0 c1 hYb
        generalize Y.drewN nq = Y2 at *
        go_quiet ((go_at_call 80; exact Calls.quiet_of_same (compare_any x y _)))
        go_wp2_with fail
        go_ret
        exact ⟨ret_int HE.out.symm, below_drewN1 eb _⟩
end Go.Proofs.Ythdbadomppohbaa
