/- The reference's Mul: what it answers. -/
import Derived.Test.YthdbadomppohbaaWidM
namespace Go.Proofs.Ythdbadomppohbaa
set_option maxRecDepth 20000
set_option linter.unusedSimpArgs false
set_option linter.unusedVariables false
open Go.RowKit
theorem valH_zero (n : Nat) : valH (fun _ => 0) n = 0 := by
  induction n with
  | zero => rfl
  | succ n ih => rw [valH, ih, Nat.zero_mul]
theorem IsN_at {w : World} {b len cap n : Nat} (h : IsN w (some ⟨b, 0, none⟩) len cap n) (i : Nat) (hi : i < len) : w.cell? ⟨b, i, none⟩ = some (.int .u64 (dg n i : Int)) := by
  obtain ⟨_, _, h3 | ⟨b', e, _, _, h⟩⟩ := h
  · omega
  · simp only [Option.some.injEq, Addr.mk.injEq] at e
    obtain ⟨rfl, _, _⟩ := e
    exact h i hi
theorem updH_lt {p : Nat → Nat} {k x : Nat} (h : ∀ k, p k < H16) (hx : x < 65536) : ∀ n, upd p k x n < H16 := fun n => by
  unfold upd
  split
  · exact hx
  · exact h n
theorem updH_zero {p : Nat → Nat} {k x m : Nat} (h : ∀ n, m ≤ n → p n = 0) (hk : k < m) : ∀ n, m ≤ n → upd p k x n = 0 := fun n hn => by
  unfold upd
  rw [if_neg (by omega)]
  exact h n hn
set_option maxHeartbeats 1000000 in
theorem rmul_any (a b : Nat) (la ca lb cb n m : Nat) (w : World) (ha : IsN w (some ⟨a, 0, none⟩) la ca n) (hb : IsN w (some ⟨b, 0, none⟩) lb cb m) (sa : la ≤ 90) (sb : lb ≤ 90) (pa : 0 < la) (pb : 0 < lb) :
    Calls Try.prog 55 #[.slice (some ⟨a, 0, none⟩) la ca, .slice (some ⟨b, 0, none⟩) lb cb] w fun e w' => ∃ g, e = .returned (.slice (some ⟨g, 0, none⟩) (la + lb) (la + lb)) ∧ OwnN w' g (la + lb) (n * m) ∧ w.heap.size ≤ g ∧ Below w.heap.size w w' := by
  have l1 : (la : Int) ≤ 90 := by omega
  have l2 : (lb : Int) ≤ 90 := by omega
  have m1 := fun w => make_limbs (la + lb) ((la : Int) + (lb : Int)) (by omega) (by omega) w
  have HA := Lib.hid ha
  have HB := Lib.hid hb
  clear ha hb
  go_enter Try.func55, Try.ntmps55
  go_wp2_with fail
  clear m1
  go_loopw [6] (fun i wr => ∃ i' : Nat, ∃ p : Nat → Nat, i' ≤ la ∧ i = .int .i64 (i' : Int) ∧ (∀ k, p k < H16) ∧ (∀ k, i' + lb ≤ k → p k = 0) ∧ valH p (la + lb) = (n % H16 ^ i') * m ∧ wr.heap[w.heap.size]? = some (.cells (rowH p (la + lb)).toArray 22 (0, 0)) ∧ Below w.heap.size w wr) (fun i _ => la - (intOf i).toNat)
  case atStart => exact ⟨0, fun _ => 0, by omega, rfl, fun _ => (by decide : 0 < H16), fun _ _ => rfl, by rw [Nat.pow_zero, Nat.mod_one, Nat.zero_mul]; exact valH_zero _, alloc_new _ _, gr_alloc (Below.refl _ _) _⟩
  case round =>
    obtain ⟨i, p, hi, rfl, hp, hz, hV, y0, hbl⟩ := hrel
    by_cases hlt : i < la
    · have p1 : (i : Int) < (la : Int) := by omega
      have HP := Lib.hid hp
      have HZ := Lib.hid hz
      have HV := Lib.hid hV
      have HY := Lib.hid y0
      clear hp hz hV y0
      go_wp2_with fail
      go_loopw [7, 8] (fun c j wr => ∃ j' c' : Nat, ∃ p : Nat → Nat, j' ≤ lb ∧ j = .int .i64 (j' : Int) ∧ c = .int .u64 (c' : Int) ∧ c' < 65536 ∧ (∀ k, p k < H16) ∧ (∀ k, i + lb ≤ k → p k = 0) ∧ valH p (la + lb) + c' * H16 ^ (i + j') = (n % H16 ^ i) * m + hd n i * (m % H16 ^ j') * H16 ^ i ∧ wr.heap[w.heap.size]? = some (.cells (rowH p (la + lb)).toArray 22 (0, 0)) ∧ Below w.heap.size w wr) (fun _ j _ => lb - (intOf j).toNat)
      case atStart => exact ⟨0, 0, p, by omega, rfl, rfl, by omega, HP.out, HZ.out, by rw [HV.out, Nat.pow_zero, Nat.mod_one, Nat.mul_zero, Nat.zero_mul, Nat.zero_mul], HY.out, hbl⟩
      case round =>
        clear HP HZ HV HY hbl
        obtain ⟨j, c, p, hj, rfl, rfl, hc, hp, hz, hV, y0, hbl⟩ := hrel
        by_cases hjl : j < lb
        · have p2 : (j : Int) < (lb : Int) := by omega
          have c0 := IsN_at (IsN_below HA.out hbl) i hlt
          have c1 := IsN_at (IsN_below HB.out hbl) j hjl
          obtain ⟨c4, f4⟩ := arr_get y0 (rowH_get p (la + lb) (i + j) (by omega))
          have hx := dg_lt n i
          have hy := dg_lt m j
          have hpk : p (i + j) < 65536 := hp _
          obtain ⟨k1, k2, k3, k4, k5, ke⟩ := mulH_step (dg n i) (dg m j) (p (i + j)) c hx hy hpk hc
          have HVS := Lib.hid (valH_step p (la + lb) (i + j) (dg n i) (by omega) _ c ((p (i + j) + dg n i * dg m j + c) / 65536) ((p (i + j) + dg n i * dg m j + c) % 65536) (dg m j) m i j rfl hV ke rfl)
          have HSET := Lib.hid (arr_set (i := i + j) y0 (.int .u64 ((p (i + j) + dg n i * dg m j + c) % 65536 : Nat)))
          have HPP := Lib.hid hp
          have HZZ := Lib.hid hz
          have K4 := Lib.hid k4
          have K5 := Lib.hid k5
          have xy : ((dg n i : Int) * (dg m j : Int)) = ((dg n i * dg m j : Nat) : Int) := by rw [Int.natCast_mul]
          clear hp hz hV y0 ke
          generalize dg n i * dg m j = M at *
          generalize hX : dg n i = x at *
          have HX := Lib.hid hX
          clear hX
          generalize dg m j = y at *
          generalize p (i + j) = z at *
          have nat1 : ((i : Int) + (j : Int)).toNat = i + j := by omega
          have q1 : (i : Int) + (j : Int) < (la : Int) + (lb : Int) := by omega
          have q2 : (i : Int) < 90 := by omega
          have q3 : (j : Int) < 90 := by omega
          clear k4 k5
          go_wp2_with fail
          go_quiet (fail)
          go_wp2_with fail
          go_roundw
          case rel =>
            have e1 : ((z : Int) + (M : Int) + (c : Int)) / 65536 = (((z + M + c) / 65536 : Nat) : Int) := by omega
            have e2 : ((z : Int) + (M : Int) + (c : Int)) % 65536 = (((z + M + c) % 65536 : Nat) : Int) := by omega
            rw [e1, e2]
            refine ⟨j + 1, (z + M + c) / 65536, upd p (i + j) ((z + M + c) % 65536), by omega, by go_num, rfl, K5.out, updH_lt HPP.out K4.out, updH_zero HZZ.out (by omega), ?_, ?_, (below_drewN1 hbl nq).setCell (p := ⟨w.heap.size, i + j, none⟩) (Nat.le_refl _) _⟩
            · rw [hd_dg, HX.out]; exact HVS.out
            · rw [← rowH_set]; exact HSET.out
          case measure => simp [intOf]; omega
        · have hj' : j = lb := by omega
          subst hj'
          have HVR := Lib.hid (valH_row p (la + j) i c n m j (by omega) HB.out.1 (hz (i + j) (by omega)) hV)
          obtain ⟨c4, f4⟩ := arr_get y0 (rowH_get p (la + j) (i + j) (by omega))
          have HSET := Lib.hid (arr_set (i := i + j) y0 (.int .u64 (c : Int)))
          have HPP := Lib.hid hp
          have HZZ := Lib.hid hz
          clear hp hz hV y0
          generalize p (i + j) = z at c4
          have nat1 : ((i : Int) + (j : Int)).toNat = i + j := by omega
          have q1 : (i : Int) + (j : Int) < (la : Int) + (j : Int) := by omega
          have q2 : (i : Int) < 90 := by omega
          have q3 : (j : Int) ≤ 90 := by omega
          go_wp2_with fail
          go_roundw
          case rel =>
            refine ⟨i + 1, upd p (i + j) c, by omega, by go_num, updH_lt HPP.out hc, updH_zero (fun k hk => HZZ.out k (by omega)) (by omega), HVR.out, ?_, hbl.setCell (p := ⟨w.heap.size, i + j, none⟩) (Nat.le_refl _) _⟩
            rw [← rowH_set]; exact HSET.out
          case measure => simp [intOf]; omega
    · have hi' : i = la := by omega
      subst hi'
      have hO := Lib.hid (show OwnN wr w.heap.size (i + lb) (n * m) from by
        have hn : n < H16 ^ i := HA.out.1
        have hm : m < H16 ^ lb := HB.out.1
        rw [Nat.mod_eq_of_lt hn] at hV
        refine ⟨?_, ?_, by omega⟩
        · rw [rowH_same (p := dg (n * m)) (q := p) (fun k hk => by rw [← hV]; exact valH_dg p (i + lb) hp k hk)]
          exact y0
        · show n * m < H16 ^ (i + lb)
          rw [Nat.pow_add]
          exact Nat.mul_lt_mul'' hn hm)
      clear hp hz hV y0
      go_wp2_with fail
      go_ret
      exact ⟨w.heap.size, rfl, hO.out, Nat.le_refl _, hbl⟩
end Go.Proofs.Ythdbadomppohbaa
