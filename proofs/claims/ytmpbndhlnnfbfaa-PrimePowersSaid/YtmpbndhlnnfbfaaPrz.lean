/- What layer 19's law of powers asks of numbers. No walk in it. -/
import Derived.Test.YtmpbndhlnnfbfaaPriV
namespace Go.Proofs.Ytmpbndhlnnfbfaa
open Go.RowKit
theorem e2_is : 2 * E2 = PN - 1 := by decide +kernel
theorem p3_is : 8 * P3 = PN + 3 := by decide +kernel
theorem p4_is : 4 * P4 = PN - 1 := by decide +kernel
theorem i_sq : iV * iV % PN = PN - 1 := by decide +kernel
theorem PN_odd : PN % 2 = 1 := by decide +kernel
theorem root_ok (a : Nat) (ha : a < PN) : r1N iV a * r1N iV a % PN = a ↔ (a ^ E2 % PN = 0 ∨ a ^ E2 % PN = 1) :=
  root_when a (r0N a) iV E2 P3 P4 ha e2_is p3_is p4_is rfl i_sq
theorem neg_square (r : Nat) (hr : r < PN) : (0 + PN - r) % PN * ((0 + PN - r) % PN) % PN = r * r % PN := by
  rw [← Nat.mul_mod]
  obtain ⟨d, hd⟩ : ∃ d, PN = r + d := ⟨PN - r, by omega⟩
  rw [show 0 + PN - r = d by omega]
  have e : d * d + PN * r = r * r + PN * d := by
    rw [hd, Nat.add_mul, Nat.add_mul, Nat.mul_comm d r]
    omega
  have h1 : (d * d + PN * r) % PN = d * d % PN := Nat.add_mul_mod_self_left _ _ _
  have h2 : (r * r + PN * d) % PN = r * r % PN := Nat.add_mul_mod_self_left _ _ _
  rw [← h1, e, h2]
theorem root_sq (a : Nat) (h : okN iV a = true) : rootN iV a * rootN iV a % PN = a ∧ rootN iV a % 2 = 0 := by
  have h1 : r1N iV a * r1N iV a % PN = a := by
    unfold okN at h
    exact of_decide_eq_true h
  have hl := r1N_lt iV a
  unfold rootN
  rw [if_pos h1]
  generalize r1N iV a = r at *
  split
  · rename_i ho
    refine ⟨by rw [neg_square r hl]; exact h1, ?_⟩
    have hp := PN_odd
    rw [Nat.zero_add, Nat.mod_eq_of_lt (show PN - r < PN by omega)]
    omega
  · rename_i ho
    exact ⟨h1, by omega⟩
theorem rootN_lt (a : Nat) : rootN iV a < PN := by
  unfold rootN
  split
  · split
    · exact Nat.mod_lt _ PN_pos
    · exact r1N_lt iV a
  · exact PN_pos
theorem square_ok (x : Nat) : okN iV (x * x % PN) = true := by
  unfold okN
  refine decide_eq_true ((root_ok (x * x % PN) (Nat.mod_lt _ PN_pos)).2 ?_)
  have e : (x * x % PN) ^ E2 % PN = x ^ (E2 + E2) % PN := by
    rw [← Nat.pow_mod, ← Nat.pow_two, ← Nat.pow_mul, show 2 * E2 = E2 + E2 by omega]
  rw [e]
  have h2 := e2_is
  have h3 := PN_ge
  exact pow01 x (E2 + E2) (by omega) (by omega)
theorem inv_one (x : Nat) (hx : x < PN) : x * (x ^ P2 % PN) % PN = if x = 0 then 0 else 1 := inv_mul x P2 hx rfl
end Go.Proofs.Ytmpbndhlnnfbfaa
