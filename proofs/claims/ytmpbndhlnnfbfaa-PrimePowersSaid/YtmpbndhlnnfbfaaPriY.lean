/- The law of powers, inverses and roots (layer 19): it returns true. -/
import Derived.Test.YtmpbndhlnnfbfaaPriW
import Derived.Test.YtmpbndhlnnfbfaaPriX
import Derived.Test.YtmpbndhlnnfbfaaPrz
namespace Go.Proofs.Ytmpbndhlnnfbfaa
open Go.RowKit
theorem rok_same (a : Nat) (ha : a < PN) : rokN a = okN iV a := by
  have h := root_ok a ha
  unfold rokN okN
  by_cases hr : r1N iV a * r1N iV a % PN = a
  · rw [decide_eq_true hr]
    rcases h.1 hr with h0 | h0
    · rw [decide_eq_true h0, Bool.true_or]
    · rw [decide_eq_true h0, Bool.or_true]
  · rw [decide_eq_false hr]
    have h0 : ¬ a ^ E2 % PN = 0 := fun e => hr (h.2 (.inl e))
    have h1 : ¬ a ^ E2 % PN = 1 := fun e => hr (h.2 (.inr e))
    rw [decide_eq_false h0, decide_eq_false h1]
    rfl
theorem rroot_same (a : Nat) (ha : a < PN) : rrootN iV a = rootN iV a := by
  have h := rok_same a ha
  unfold rrootN rootN
  rw [h]
  by_cases hr : r1N iV a * r1N iV a % PN = a
  · have ho : okN iV a = true := by unfold okN; exact decide_eq_true hr
    rw [if_pos ho, if_pos hr]
  · have ho : okN iV a = false := by unfold okN; exact decide_eq_false hr
    rw [ho, if_neg hr]
    rfl
theorem primePowers_walk (a k : Nat) (w : World) (ha : a < B64 ^ 4) (hk : k < B64 ^ 4) :
    Calls Try.prog 5 #[numV a, numV k] w fun e w' => e = .returned (.bool true) ∧ Below w.heap.size w w' := by
  obtain ⟨X, hX⟩ : ∃ X, a % PN = X := ⟨_, rfl⟩
  have hXP : X < PN := by rw [← hX]; exact Nat.mod_lt _ PN_pos
  have hSP : X * X % PN < PN := Nat.mod_lt _ PN_pos
  refine primePowers_w a k w ha hk X (rootN iV X) (X ^ P2 % PN) (if X = 0 then 0 else 1) (rootN iV (X * X % PN)) ((0 + PN - X) % PN) (okN iV X) hX
    (fun w => proot_any iV iV_lt iV_is X w hXP) (fun w => ?_) (fun w => ?_) rfl (rootN_lt X) (rootN_lt _) rfl (inv_one X hXP) rfl ?_ ?_
  · have h := rroot_any X w hXP
    rw [rok_same X hXP, rroot_same X hXP] at h
    exact h
  · have h := proot_any iV iV_lt iV_is (X * X % PN) w hSP
    rw [square_ok X] at h
    exact h
  · exact sq_eq _ X (rootN_lt _) hXP (root_sq _ (square_ok X)).1
  · cases ho : okN iV X with
    | false => exact .inl rfl
    | true => exact .inr ⟨rfl, root_sq X ho⟩
end Go.Proofs.Ytmpbndhlnnfbfaa
