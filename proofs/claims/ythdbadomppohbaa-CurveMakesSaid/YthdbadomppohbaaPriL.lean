/- The reference's great, and its Mul from a place on (layer 19): contracts. -/
import Derived.Test.YthdbadomppohbaaPriK
namespace Go.Proofs.Ythdbadomppohbaa
set_option maxRecDepth 20000
set_option linter.unusedSimpArgs false
set_option linter.unusedVariables false
open Go.RowKit
/-- Limbs that stand in a block from a place on. -/
def IsO (w : World) (b o len n : Nat) : Prop := n < 65536 ^ len ∧ b < w.heap.size ∧ ∀ i, i < len → w.cell? ⟨b, o + i, none⟩ = some (.int .u64 (dg n i : Int))
theorem IsO.below {w w' : World} {b o len n : Nat} (h : IsO w b o len n) (hb : Below w.heap.size w w') : IsO w' b o len n := ⟨h.1, Nat.lt_of_lt_of_le h.2.1 hb.size, fun i hi => (hb.cell (p := ⟨b, o + i, none⟩) h.2.1).trans (h.2.2 i hi)⟩
theorem dg_low (n i : Nat) (hi : i < 16) : dg (n % 65536 ^ 16) i = dg n i := hd_mod n i 16 hi
theorem dg_high (n i : Nat) : dg (n / 65536 ^ 16) i = dg n (16 + i) := hd_div n i 16
theorem IsN_cells {w : World} {g la ca n : Nat} (h : IsN w (some ⟨g, 0, none⟩) la ca n) (h0 : 0 < la) : la ≤ ca ∧ g < w.heap.size ∧ ∀ i, i < la → w.cell? ⟨g, i, none⟩ = some (.int .u64 (dg n i : Int)) := by
  obtain ⟨_, _, h3 | ⟨b, e, h4, h5, h6⟩⟩ := h
  · omega
  · cases e
    exact ⟨h4, h5, h6⟩
theorem IsN_low {w : World} {g la ca n : Nat} (h : IsN w (some ⟨g, 0, none⟩) la ca n) (hl : 16 ≤ la) : IsN w (some ⟨g, 0, none⟩) 16 ca (n % 65536 ^ 16) := by
  obtain ⟨h4, h5, h6⟩ := IsN_cells h (by omega)
  exact ⟨Nat.mod_lt _ (by decide), by omega, .inr ⟨g, rfl, by omega, h5, fun i hi => by rw [dg_low n i hi]; exact h6 i (by omega)⟩⟩
theorem IsO_high {w : World} {g la ca n : Nat} (h : IsN w (some ⟨g, 0, none⟩) la ca n) (hl : 16 < la) : IsO w g 16 (la - 16) (n / 65536 ^ 16) := by
  obtain ⟨h4, h5, h6⟩ := IsN_cells h (by omega)
  refine ⟨?_, h5, fun i hi => by rw [dg_high]; exact h6 (16 + i) (by omega)⟩
  rw [Nat.div_lt_iff_lt_mul (by decide), ← Nat.pow_add, show la - 16 + 16 = la by omega]
  exact h.1
theorem dg_all (n la : Nat) (h : n < 65536 ^ la) (hz : ∀ j, 16 ≤ j → j < la → dg n j = 0) : ∀ k, 16 ≤ la - k → n / 65536 ^ (la - k) = 0
  | 0, _ => by rw [Nat.sub_zero]; exact Nat.div_eq_of_lt h
  | k + 1, hk => by
    have ih := dg_all n la h hz k (by omega)
    have h1 := dg_step n (la - (k + 1))
    rw [hz (la - (k + 1)) hk (by omega), show la - (k + 1) + 1 = la - k by omega, ih] at h1
    omega
theorem not_great (n la : Nat) (h : n < 65536 ^ la) (hz : ∀ j, 16 ≤ j → j < la → dg n j = 0) : n < 65536 ^ 16 := by
  rcases Nat.lt_or_ge la 16 with hl | hl
  · exact Nat.lt_of_lt_of_le h (Nat.pow_le_pow_right (by decide) (by omega))
  · have h1 := dg_all n la h hz (la - 16) (by omega)
    rw [show la - (la - 16) = 16 by omega] at h1
    have h2 := Nat.div_add_mod n (65536 ^ 16)
    have h3 := Nat.mod_lt n (show 0 < 65536 ^ 16 by decide)
    rw [h1, Nat.mul_zero, Nat.zero_add] at h2
    omega
theorem is_great (n j : Nat) (hj : 16 ≤ j) (h : dg n j ≠ 0) : 65536 ^ 16 ≤ n := by
  rcases Nat.lt_or_ge n (65536 ^ 16) with hl | hl
  · exact absurd (dg_out hl hj) h
  · exact hl
set_option maxHeartbeats 4000000 in
theorem great_any (g la ca n : Nat) (w : World) (h : IsN w (some ⟨g, 0, none⟩) la ca n) (hla : 16 ≤ la) (hl : la ≤ 100) :
    Calls Try.prog 53 #[.slice (some ⟨g, 0, none⟩) la ca] w fun e w' => e = .returned (.bool (decide (65536 ^ 16 ≤ n))) ∧ Below w.heap.size w w' := by
  obtain ⟨h4, h5, h6⟩ := IsN_cells h (by omega)
  have HN := Lib.hid h.1
  have HC := Lib.hid h6
  have l1 : (la : Int) ≤ 100 := by omega
  obtain ⟨D, hD⟩ : ∃ D, decide (65536 ^ 16 ≤ n) = D := ⟨_, rfl⟩
  have HD := Lib.hid hD
  rw [hD]
  clear h h4 h6 hD
  go_enter Try.func53, Try.ntmps53
  go_wp2_with fail
  go_loopw [3] (fun i wr => ∃ k : Nat, 16 ≤ k ∧ k ≤ la ∧ i = .int .i64 (k : Int) ∧ (∀ j, 16 ≤ j → j < k → dg n j = 0) ∧ wr = w) (fun i _ => la - (Go.RowKit.intOf i).toNat)
  case atStart => exact ⟨16, by omega, by omega, rfl, fun j h1 h2 => absurd h1 (by omega), rfl⟩
  case round =>
    obtain ⟨k, hk1, hk2, rfl, hz, rfl⟩ := hrel
    by_cases hlt : k < la
    · have p1 : (k : Int) < (la : Int) := by omega
      have p0 : (0 : Int) ≤ (k : Int) := by omega
      have c0 := HC.out k hlt
      by_cases hd : dg n k = 0
      · have HZ := Lib.hid (show ∀ j, 16 ≤ j → j < k + 1 → dg n j = 0 from fun j h1 h2 => by
          rcases Nat.lt_or_ge j k with h | h
          · exact hz j h1 h
          · obtain rfl : j = k := by omega
            exact hd)
        rw [hd] at c0
        clear hz hd
        go_wp2_with fail
        go_roundw
        case rel => exact ⟨k + 1, by omega, by omega, congrArg (Value.int .i64) (by omega), HZ.out, trivial⟩
        case measure =>
          simp [Go.RowKit.intOf]
          omega
      · have HG := Lib.hid (is_great n k hk1 hd)
        have hdI : ¬ (dg n k : Int) = 0 := by omega
        have hdB : ((dg n k : Int) == 0) = false := by simp; exact hd
        obtain ⟨x, hx⟩ : ∃ x, dg n k = x := ⟨_, rfl⟩
        rw [hx] at c0 hdI hdB
        clear hz hd hx
        go_wp2_with fail
        go_ret
        exact ⟨by rw [← HD.out, decide_eq_true HG.out]; rfl, Below.refl _ _⟩
    · obtain rfl : k = la := by omega
      have p1 : ¬ (k : Int) < (k : Int) := by omega
      have HG := Lib.hid (not_great n k HN.out hz)
      clear hz
      go_wp2_with fail
      go_ret
      exact ⟨by rw [← HD.out, decide_eq_false (by have := HG.out; omega)]; rfl, Below.refl _ _⟩
set_option maxHeartbeats 1000000 in
theorem rmulO_any (a b : Nat) (la ca lb cb n m : Nat) (w : World) (ha : IsO w a 16 la n) (hb : IsN w (some ⟨b, 0, none⟩) lb cb m) (sa : la ≤ 90) (sb : lb ≤ 90) (pa : 0 < la) (pb : 0 < lb) :
    Calls Try.prog 55 #[.slice (some ⟨a, 16, none⟩) la ca, .slice (some ⟨b, 0, none⟩) lb cb] w fun e w' => ∃ g, e = .returned (.slice (some ⟨g, 0, none⟩) (la + lb) (la + lb)) ∧ OwnN w' g (la + lb) (n * m) ∧ w.heap.size ≤ g ∧ Below w.heap.size w w' := by
  have l1 : (la : Int) ≤ 90 := by omega
  have l2 : (lb : Int) ≤ 90 := by omega
  have m1 := fun w => make_limbs (la + lb) ((la : Int) + (lb : Int)) (by omega) (by omega) w
  have HA := Lib.hid ha
  have HB := Lib.hid hb
  clear ha hb
  go_enter Try.func55, Try.ntmps55
  go_wp2_with fail
  clear m1
  go_loopw [6] (fun i wr => ∃ i' : Nat, ∃ p : Nat → Nat, i' ≤ la ∧ i = .int .i64 (i' : Int) ∧ (∀ k, p k < H16) ∧ (∀ k, i' + lb ≤ k → p k = 0) ∧ valH p (la + lb) = (n % H16 ^ i') * m ∧ wr.heap[w.heap.size]? = some (.cells (rowH p (la + lb)).toArray 22 (0, 0)) ∧ Below w.heap.size w wr) (fun i _ => la - (intOf i).toNat)
  case atStart => exact ⟨0, fun _ => 0, by omega, rfl, fun _ => (by decide : 0 < H16), fun _ _ => rfl, by rw [Nat.pow_zero, Nat.mod_one, Nat.zero_mul]; exact valH_zero _, alloc_new _ _, gr_alloc (Below.refl _ _) _⟩
  case round =>
    obtain ⟨i, p, hi, rfl, hp, hz, hV, y0, hbl⟩ := hrel
    by_cases hlt : i < la
    · have p1 : (i : Int) < (la : Int) := by omega
      have HP := Lib.hid hp
      have HZ := Lib.hid hz
      have HV := Lib.hid hV
      have HY := Lib.hid y0
      clear hp hz hV y0
      go_wp2_with fail
      go_loopw [7, 8] (fun c j wr => ∃ j' c' : Nat, ∃ p : Nat → Nat, j' ≤ lb ∧ j = .int .i64 (j' : Int) ∧ c = .int .u64 (c' : Int) ∧ c' < 65536 ∧ (∀ k, p k < H16) ∧ (∀ k, i + lb ≤ k → p k = 0) ∧ valH p (la + lb) + c' * H16 ^ (i + j') = (n % H16 ^ i) * m + hd n i * (m % H16 ^ j') * H16 ^ i ∧ wr.heap[w.heap.size]? = some (.cells (rowH p (la + lb)).toArray 22 (0, 0)) ∧ Below w.heap.size w wr) (fun _ j _ => lb - (intOf j).toNat)
      case atStart => exact ⟨0, 0, p, by omega, rfl, rfl, by omega, HP.out, HZ.out, by rw [HV.out, Nat.pow_zero, Nat.mod_one, Nat.mul_zero, Nat.zero_mul, Nat.zero_mul], HY.out, hbl⟩
      case round =>
        clear HP HZ HV HY hbl
        obtain ⟨j, c, p, hj, rfl, rfl, hc, hp, hz, hV, y0, hbl⟩ := hrel
        by_cases hjl : j < lb
        · have p2 : (j : Int) < (lb : Int) := by omega
          have c0 := (HA.out.below hbl).2.2 i hlt
          have c1 := IsN_at (IsN_below HB.out hbl) j hjl
          obtain ⟨c4, f4⟩ := arr_get y0 (rowH_get p (la + lb) (i + j) (by omega))
          have hx := dg_lt n i
          have hy := dg_lt m j
          have hpk : p (i + j) < 65536 := hp _
          obtain ⟨k1, k2, k3, k4, k5, ke⟩ := mulH_step (dg n i) (dg m j) (p (i + j)) c hx hy hpk hc
          have HVS := Lib.hid (valH_step p (la + lb) (i + j) (dg n i) (by omega) _ c ((p (i + j) + dg n i * dg m j + c) / 65536) ((p (i + j) + dg n i * dg m j + c) % 65536) (dg m j) m i j rfl hV ke rfl)
          have HSET := Lib.hid (arr_set (i := i + j) y0 (.int .u64 ((p (i + j) + dg n i * dg m j + c) % 65536 : Nat)))
          have HPP := Lib.hid hp
          have HZZ := Lib.hid hz
          have K4 := Lib.hid k4
          have K5 := Lib.hid k5
          have xy : ((dg n i : Int) * (dg m j : Int)) = ((dg n i * dg m j : Nat) : Int) := by rw [Int.natCast_mul]
          clear hp hz hV y0 ke
          generalize dg n i * dg m j = M at *
          generalize hX : dg n i = x at *
          have HX := Lib.hid hX
          clear hX
          generalize dg m j = y at *
          generalize p (i + j) = z at *
          have nat1 : ((i : Int) + (j : Int)).toNat = i + j := by omega
          have q1 : (i : Int) + (j : Int) < (la : Int) + (lb : Int) := by omega
          have q2 : (i : Int) < 90 := by omega
          have q3 : (j : Int) < 90 := by omega
          clear k4 k5
          go_wp2_with fail
          go_quiet (fail)
          go_wp2_with fail
          go_roundw
          case rel =>
            have e1 : ((z : Int) + (M : Int) + (c : Int)) / 65536 = (((z + M + c) / 65536 : Nat) : Int) := by omega
            have e2 : ((z : Int) + (M : Int) + (c : Int)) % 65536 = (((z + M + c) % 65536 : Nat) : Int) := by omega
            rw [e1, e2]
            refine ⟨j + 1, (z + M + c) / 65536, upd p (i + j) ((z + M + c) % 65536), by omega, by go_num, rfl, K5.out, updH_lt HPP.out K4.out, updH_zero HZZ.out (by omega), ?_, ?_, (below_drewN1 hbl nq).setCell (p := ⟨w.heap.size, i + j, none⟩) (Nat.le_refl _) _⟩
            · rw [hd_dg, HX.out]; exact HVS.out
            · rw [← rowH_set]; exact HSET.out
          case measure => simp [intOf]; omega
        · have hj' : j = lb := by omega
          subst hj'
          have HVR := Lib.hid (valH_row p (la + j) i c n m j (by omega) HB.out.1 (hz (i + j) (by omega)) hV)
          obtain ⟨c4, f4⟩ := arr_get y0 (rowH_get p (la + j) (i + j) (by omega))
          have HSET := Lib.hid (arr_set (i := i + j) y0 (.int .u64 (c : Int)))
          have HPP := Lib.hid hp
          have HZZ := Lib.hid hz
          clear hp hz hV y0
          generalize p (i + j) = z at c4
          have nat1 : ((i : Int) + (j : Int)).toNat = i + j := by omega
          have q1 : (i : Int) + (j : Int) < (la : Int) + (j : Int) := by omega
          have q2 : (i : Int) < 90 := by omega
          have q3 : (j : Int) ≤ 90 := by omega
          go_wp2_with fail
          go_roundw
          case rel =>
            refine ⟨i + 1, upd p (i + j) c, by omega, by go_num, updH_lt HPP.out hc, updH_zero (fun k hk => HZZ.out k (by omega)) (by omega), HVR.out, ?_, hbl.setCell (p := ⟨w.heap.size, i + j, none⟩) (Nat.le_refl _) _⟩
            rw [← rowH_set]; exact HSET.out
          case measure => simp [intOf]; omega
    · have hi' : i = la := by omega
      subst hi'
      have hO := Lib.hid (show OwnN wr w.heap.size (i + lb) (n * m) from by
        have hn : n < H16 ^ i := HA.out.1
        have hm : m < H16 ^ lb := HB.out.1
        rw [Nat.mod_eq_of_lt hn] at hV
        refine ⟨?_, ?_, by omega⟩
        · rw [rowH_same (p := dg (n * m)) (q := p) (fun k hk => by rw [← hV]; exact valH_dg p (i + lb) hp k hk)]
          exact y0
        · show n * m < H16 ^ (i + lb)
          rw [Nat.pow_add]
          exact Nat.mul_lt_mul'' hn hm)
      clear hp hz hV y0
      go_wp2_with fail
      go_ret
      exact ⟨w.heap.size, rfl, hO.out, Nat.le_refl _, hbl⟩
end Go.Proofs.Ythdbadomppohbaa
