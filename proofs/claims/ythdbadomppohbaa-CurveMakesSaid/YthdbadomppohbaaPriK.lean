/- The document's examples of layer 19. -/
import Derived.Test.YthdbadomppohbaaPriJ
namespace Go.Proofs.Ythdbadomppohbaa
set_option maxRecDepth 20000
set_option linter.unusedSimpArgs false
set_option linter.unusedVariables false
open Go.RowKit
theorem b_callsS {w W W' : World} {N : Nat} (hb : Below N W W') (h : Below w.heap.size w W) (hN : W.heap.size ≤ N) : Below w.heap.size w W' := h.trans (hb.mono (Nat.le_trans h.size hN))
def iV : Nat := 19681161376707505956807079304988542015446066515923890162744021073123829784752
theorem pow_is (g k c : Nat) (hk : k < 2 ^ 256) (h : pm PN 256 k g 1 % PN = c) : g ^ k % PN = c := by
  rw [pm_eq PN 256 k g 1 hk, Nat.one_mul] at h
  exact h
theorem p3_lt : P3 < 2 ^ 256 := by decide +kernel
theorem p4_lt : P4 < 2 ^ 256 := by decide +kernel
theorem p2_lt : P2 < 2 ^ 256 := by decide +kernel
theorem ppow_pm (g k c : Nat) (w : World) (hg : g < PN) (hk : k < B64 ^ 4) (hk2 : k < 2 ^ 256) (h : pm PN 256 k g 1 % PN = c) : Calls Try.prog 69 #[numV g, numV k] w fun e w' => e = .returned (numV c) ∧ Below w.heap.size w w' := by
  have h1 := ppow_any g k w hg hk
  rw [pow_is g k c hk2 h] at h1
  exact h1
theorem pinv_pm (a c : Nat) (w : World) (ha : a < PN) (h : pm PN 256 P2 a 1 % PN = c) : Calls Try.prog 67 #[numV a] w fun e w' => e = .returned (numV c) ∧ Below w.heap.size w w' := by
  have h1 := pinv_any a w ha
  rw [show a ^ (PN - 2) % PN = a ^ P2 % PN from rfl, pow_is a P2 c p2_lt h] at h1
  exact h1
theorem r0N_pm (a c : Nat) (h : pm PN 256 P3 a 1 % PN = c) : r0N a = c := by
  unfold r0N
  exact pow_is a P3 c p3_lt h
theorem iV_lt : iV < PN := by decide +kernel
theorem iV_is : ∀ w, Calls Try.prog 69 #[numV 2, numV P4] w fun e w' => e = .returned (numV iV) ∧ Below w.heap.size w w' := fun w => ppow_pm 2 P4 iV w (by decide +kernel) P4_B p4_lt (by decide +kernel)
/-- A root, by numbers. -/
def rootC (i a r : Nat) : Nat × Bool := if (if r * r % PN = a then r else r * i % PN) * (if r * r % PN = a then r else r * i % PN) % PN = a then (if (if r * r % PN = a then r else r * i % PN) % 2 = 1 then (0 + PN - (if r * r % PN = a then r else r * i % PN)) % PN else (if r * r % PN = a then r else r * i % PN), true) else (0, false)
theorem rootC_is (i a r : Nat) (h : r0N a = r) : rootN i a = (rootC i a r).1 ∧ okN i a = (rootC i a r).2 := by
  unfold rootN okN r1N rootC
  rw [h]
  generalize (if r * r % PN = a then r else r * i % PN) = q
  by_cases hq : q * q % PN = a
  · rw [if_pos hq, if_pos hq, decide_eq_true hq]
    exact ⟨rfl, rfl⟩
  · rw [if_neg hq, if_neg hq, decide_eq_false hq]
    exact ⟨rfl, rfl⟩
theorem proot_pm (a r : Nat) (z : Nat) (b : Bool) (w : World) (ha : a < PN) (h : pm PN 256 P3 a 1 % PN = r) (hz : rootC iV a r = (z, b)) : Calls Try.prog 46 #[numV a] w fun e w' => e = .returned (.tuple #[numV z, .bool b]) ∧ Below w.heap.size w w' := by
  have h1 := proot_any iV iV_lt iV_is a w ha
  obtain ⟨e1, e2⟩ := rootC_is iV a r (r0N_pm a r h)
  rw [e1, e2, hz] at h1
  exact h1
theorem root4_any (w : World) : Calls Try.prog 46 #[numV 4] w fun e w' => e = .returned (.tuple #[numV 2, .bool true]) ∧ Below w.heap.size w w' :=
  proot_pm 4 39362322753415011913614158609977084030892133031847780325488042146247659569504 2 true w (by decide +kernel) (by decide +kernel) (by decide +kernel)
theorem root2_any (w : World) : Calls Try.prog 46 #[numV 2] w fun e w' => e = .returned (.tuple #[numV 0, .bool false]) ∧ Below w.heap.size w w' :=
  proot_pm 2 19681161376707505956807079304988542015446066515923890162744021073123829784753 0 false w (by decide +kernel) (by decide +kernel) (by decide +kernel)
theorem inv2_any (w : World) : Calls Try.prog 67 #[numV 2] w fun e w' => e = .returned (numV 28948022309329048855892746252171976963317496166410141009864396001978282409975) ∧ Below w.heap.size w w' :=
  pinv_pm 2 28948022309329048855892746252171976963317496166410141009864396001978282409975 w (by decide +kernel) (by decide +kernel)
theorem most_is : subN PN 1 = PN - 1 ∧ (0 + PN - 1) % PN = PN - 1 ∧ 28948022309329048855892746252171976963317496166410141009864396001978282409975 * 2 % PN = 1 := by decide +kernel
end Go.Proofs.Ythdbadomppohbaa
