/- The reference's power: what it answers. -/
import Derived.Test.YtmjbhmpogpagjaaWidMc
import Derived.Test.YtmjbhmpogpagjaaWidMb
import Derived.Test.YtmjbhmpogpagjaaWidLb
namespace Go.Proofs.Ytmjbhmpogpagjaa
set_option maxRecDepth 20000
set_option linter.unusedSimpArgs false
set_option linter.unusedVariables false
open Go.RowKit
set_option maxHeartbeats 1000000 in
theorem power_any (bx cap n k : Nat) (w : World) (hx : IsN w (some ⟨bx, 0, none⟩) 5 cap n) (h1 : 1 ≤ k) (h3 : k ≤ 3) :
    Calls Try.prog 55 #[.slice (some ⟨bx, 0, none⟩) 5 cap, .int .i64 (k : Int)] w fun e w' => ∃ g c, e = .returned (.slice (some ⟨g, 0, none⟩) (5 * k) c) ∧ IsN w' (some ⟨g, 0, none⟩) (5 * k) c (n ^ k) ∧ Below w.heap.size w w' := by
  have k3 : (k : Int) ≤ 3 := by omega
  have HX := Lib.hid hx
  clear hx
  go_enter Try.func55, Try.ntmps55
  go_wp2_with fail
  go_loopw [5, 6] (fun y i wr => ∃ j g c : Nat, 1 ≤ j ∧ j ≤ k ∧ i = .int .i64 (j : Int) ∧ y = .slice (some ⟨g, 0, none⟩) (5 * j) c ∧ IsN wr (some ⟨g, 0, none⟩) (5 * j) c (n ^ j) ∧ Below w.heap.size w wr) (fun _ i _ => k - (intOf i).toNat)
  case atStart => exact ⟨1, bx, cap, by omega, by omega, rfl, rfl, by rw [Nat.pow_one]; exact HX.out, Below.refl _ _⟩
  case round =>
    obtain ⟨j, g, c, j1, jk, rfl, rfl, hy, hb⟩ := hrel
    have HY := Lib.hid hy
    clear hy
    by_cases hlt : j < k
    · have q1 : (j : Int) < (k : Int) := by omega
      have KM := Lib.hid (rmul_any g bx (5 * j) c 5 cap (n ^ j) n wr HY.out (IsN_below HX.out hb) (by omega) (by omega) (by omega) (by omega))
      clear HY
      go_wp2_with fail
      refine KM.out.mono ?_
      rintro e w1 ⟨g1, rfl, ho, _, hb1⟩
      have HO := Lib.hid ho
      have hb2 := hb.trans (hb1.mono hb.size)
      clear ho hb1
      go_wp2_with fail
      go_roundw
      case rel =>
        refine ⟨j + 1, g1, 5 * j + 5, by omega, by omega, by go_num, ?_, ?_, hb2⟩
        · rw [show 5 * (j + 1) = 5 * j + 5 by omega]
        · rw [show 5 * (j + 1) = 5 * j + 5 by omega, Nat.pow_succ]
          exact HO.out.is _ (Nat.le_refl _)
      case measure => simp [intOf]; omega
    · have hj : j = k := by omega
      subst hj
      go_wp2_with fail
      go_ret
      exact ⟨g, c, rfl, HY.out, hb⟩
theorem half_dg (s i : Nat) : dg (s / 2) i = dg s i / 2 + dg s (i + 1) % 2 * 32768 := by
  unfold dg
  rw [Nat.div_div_eq_div_mul, Nat.mul_comm 2, ← Nat.div_div_eq_div_mul, Nat.pow_succ, ← Nat.div_div_eq_div_mul]
  omega
end Go.Proofs.Ytmjbhmpogpagjaa
