/- The reference's limb, Of, Bit: what they answer. -/
import Derived.Test.YtmjbhmpogpagjaaWidK
import Derived.BigQuiet
import Derived.Laws.Bits64b
import Derived.Lib.QuietBelow
namespace Go.Proofs.Ytmjbhmpogpagjaa
set_option maxRecDepth 20000
set_option linter.unusedSimpArgs false
set_option linter.unusedVariables false
open Go.RowKit
theorem limb_any (a : Option Addr) (len cap n i : Nat) (w : World) (h : IsN w a len cap n) (hi : i ≤ 100000) :
    Calls Try.prog 66 #[.slice a len cap, .int .i64 (i : Int)] w fun e w' => e = .returned (.int .u64 (dg n i : Int)) ∧ w' = w := by
  obtain ⟨h1, h2, h3⟩ := h
  have hlen : ((len : Nat) : Int) ≤ 200 := by omega
  by_cases hlt : i < len
  · obtain ⟨b, rfl, hcap, hb, hc⟩ : ∃ b, a = some ⟨b, 0, none⟩ ∧ len ≤ cap ∧ b < w.heap.size ∧ ∀ i, i < len → w.cell? ⟨b, i, none⟩ = some (.int .u64 (dg n i : Int)) := by
      rcases h3 with h3 | h3
      · omega
      · exact h3
    have c0 := hc i hlt
    have t0 : ¬ (i : Int) < 0 := by omega
    have t1 : ¬ (len : Int) ≤ (i : Int) := by omega
    have t2 : (i : Int) < (len : Int) := by omega
    clear h1 h3 hc
    generalize dg n i = x at c0 ⊢
    go_enter Try.func66, Try.ntmps66
    go_wp2_with fail
    go_ret
    exact ⟨rfl, rfl⟩
  · have e0 := dg_out h1 (by omega : len ≤ i)
    rw [e0]
    have t0 : ¬ (i : Int) < 0 := by omega
    have t1 : (len : Int) ≤ (i : Int) := by omega
    clear h1 h3 e0
    go_enter Try.func66, Try.ntmps66
    go_wp2_with fail
    go_ret
    exact ⟨rfl, rfl⟩
theorem shr_pow (x r : Nat) : (x : Int) / 2 ^ r = ((x / 2 ^ r : Nat) : Int) := by
  have e2 : ((2 : Int) ^ r) = ((2 ^ r : Nat) : Int) := by rw [Int.natCast_pow]; rfl
  rw [e2, ← Int.natCast_ediv]
end Go.Proofs.Ytmjbhmpogpagjaa
