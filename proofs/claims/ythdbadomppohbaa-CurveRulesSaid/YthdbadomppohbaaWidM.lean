/- The reference's Add: what it answers. -/
import Derived.Test.YthdbadomppohbaaWidLa
namespace Go.Proofs.Ythdbadomppohbaa
set_option maxRecDepth 20000
set_option linter.unusedSimpArgs false
set_option linter.unusedVariables false
open Go.RowKit
theorem make_limbs (N : Nat) (Z : Int) (hz : Z = (N : Int)) (hN : N ≤ 1000) (w : World) : (Instr.makeSlice 63 (.int .i64 Z) (.int .i64 Z)).run Try.prog w = .ok (.slice (some ⟨w.heap.size, 0, none⟩) N N) (w.alloc (.cells (rowH (fun _ => 0) N).toArray 22)) := by
  rw [← rowH_made, hz]
  exact run_make_row' (P := Try.prog) 63 22 (.int .u64 0) 8 Try.underlying63 Try.info_u64 rfl .i64 .i64 N (by omega) (by omega) w
theorem sum_fits {n m la lb : Nat} (ha : n < 65536 ^ la) (hb : m < 65536 ^ lb) : n + m < 65536 ^ (max la lb + 1) := by
  have h1 : 65536 ^ la ≤ 65536 ^ (max la lb) := Nat.pow_le_pow_right (by decide) (Nat.le_max_left _ _)
  have h2 : 65536 ^ lb ≤ 65536 ^ (max la lb) := Nat.pow_le_pow_right (by decide) (Nat.le_max_right _ _)
  rw [Nat.pow_succ]
  omega
set_option maxRecDepth 20000 in
set_option maxHeartbeats 1000000 in
theorem radd_any (a b : Option Addr) (la ca lb cb n m : Nat) (w : World) (ha : IsN w a la ca n) (hb : IsN w b lb cb m) (sa : la ≤ 150) (sb : lb ≤ 150) :
    Calls Try.prog 54 #[.slice a la ca, .slice b lb cb] w fun e w' => ∃ g, e = .returned (.slice (some ⟨g, 0, none⟩) (max la lb + 1) (max la lb + 1)) ∧ OwnN w' g (max la lb + 1) (n + m) ∧ w.heap.size ≤ g ∧ Below w.heap.size w w' := by
  have l1 : (la : Int) ≤ 150 := by omega
  have l2 : (lb : Int) ≤ 150 := by omega
  have HA := Lib.hid ha
  have HB := Lib.hid hb
  have HF := Lib.hid (sum_fits ha.1 hb.1)
  have m1 := fun w => make_limbs (la + 1) ((la : Int) + 1) (by omega) (by omega) w
  have m2 := fun w => make_limbs (lb + 1) ((lb : Int) + 1) (by omega) (by omega) w
  clear ha hb
  go_enter Try.func54, Try.ntmps54
  go_wp2_with fail
  all_goals clear m1 m2
  all_goals
    go_loopw [6, 7] (fun o i wr => ∃ k : Nat, ∃ p : Nat → Nat, k ≤ max la lb + 1 ∧ i = .int .i64 (k : Int) ∧ o = .int .u64 (ov n m k : Int) ∧ (∀ j, j < k → p j = dg (n + m) j) ∧ wr.heap[w.heap.size]? = some (.cells (rowH p (max la lb + 1)).toArray 22 (0, 0)) ∧ Below w.heap.size w wr) (fun _ i _ => max la lb + 1 - (intOf i).toNat)
    case atStart =>
      refine ⟨0, fun _ => 0, by omega, rfl, by rw [ov_0]; rfl, fun j h => absurd h (by omega), ?_, gr_alloc (Below.refl _ _) _⟩
      first
        | (rw [show max la lb + 1 = lb + 1 by omega]; exact alloc_new _ _)
        | (rw [show max la lb + 1 = la + 1 by omega]; exact alloc_new _ _)
    case round =>
      obtain ⟨k, p, hk, rfl, rfl, hp, y0, hbl⟩ := hrel
      by_cases hlt : k < max la lb + 1
      · have k9 : (k : Int) ≤ 200 := by omega
        have KA := Lib.hid (limb_any a la ca n k _ (IsN_below HA.out hbl) (by omega))
        have KB := Lib.hid (limb_any b lb cb m k _ (IsN_below HB.out hbl) (by omega))
        have hx := dg_lt n k
        have hy := dg_lt m k
        have ho := ov_le n m k
        have HD := Lib.hid (add_dg n m k)
        have HO := Lib.hid (add_ov n m k)
        have HP := Lib.hid hp
        obtain ⟨c1, f1⟩ := arr_get y0 (rowH_get p _ k hlt)
        have HSET := Lib.hid (arr_set (i := k) y0 (.int .u64 (dg (n + m) k : Int)))
        clear hp y0
        generalize dg n k = x at *
        generalize dg m k = y at *
        generalize ov n m k = o at *
        have k1 : ¬ la < lb → (k : Int) < (la : Int) + 1 := by omega
        have k2 : la < lb → (k : Int) < (lb : Int) + 1 := by omega
        go_wp2_with fail
        refine KA.out.mono ?_
        rintro e w' ⟨rfl, rfl⟩
        go_wp2_with fail
        refine KB.out.mono ?_
        rintro e w' ⟨rfl, rfl⟩
        go_wp2_with fail
        go_roundw
        case rel =>
          have e1 : ((x : Int) + (y : Int) + (o : Int)) % 65536 = (dg (n + m) k : Int) := by have := HD.out; omega
          have e2 : ((x : Int) + (y : Int) + (o : Int)) / 65536 = (ov n m (k + 1) : Int) := by have := HO.out; omega
          rw [e1, e2]
          refine ⟨k + 1, upd p k (dg (n + m) k), by omega, by go_num, rfl, fun j hj => ?_, ?_, hbl.setCell (p := ⟨w.heap.size, k, none⟩) (Nat.le_refl _) _⟩
          · unfold upd
            split
            · rename_i h; rw [h]
            · exact HP.out j (by omega)
          · rw [← rowH_set]; exact HSET.out
        case measure => simp [intOf]; omega
      · obtain rfl : k = max la lb + 1 := by omega
        have q1 : ¬ ((max la lb + 1 : Nat) : Int) < (la : Int) + 1 := by omega
        have q2 : ¬ ((max la lb + 1 : Nat) : Int) < (lb : Int) + 1 := by omega
        have hO := Lib.hid (show OwnN wr w.heap.size (max la lb + 1) (n + m) from ⟨by rw [← rowH_same hp]; exact y0, HF.out, by omega⟩)
        clear hp y0
        obtain ⟨K, hK⟩ : ∃ K, max la lb + 1 = K := ⟨_, rfl⟩
        have e1 : la < lb → lb + 1 = K := by omega
        have e2 : ¬ la < lb → la + 1 = K := by omega
        have E1 := Lib.hid e1
        have E2 := Lib.hid e2
        have HK := Lib.hid hK
        rw [hK] at hO q1 q2 ⊢
        clear hK e1 e2
        go_wp2_with fail
        go_ret
        rw [HK.out]
        refine ⟨w.heap.size, ?_, hO.out, Nat.le_refl _, hbl⟩
        first
          | (rw [← E1.out (by assumption)]; rfl)
          | (rw [← E2.out (by assumption)]; rfl)
end Go.Proofs.Ythdbadomppohbaa
