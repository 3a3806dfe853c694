/- The reference's limb, Of, Bit: what they answer. -/
import Derived.Test.YthdbadomppohbaaWidK
import Derived.BigQuiet
import Derived.Laws.Bits64b
import Derived.Lib.QuietBelow
namespace Go.Proofs.Ythdbadomppohbaa
set_option maxRecDepth 20000
set_option linter.unusedSimpArgs false
set_option linter.unusedVariables false
open Go.RowKit
theorem limb_any (a : Option Addr) (len cap n i : Nat) (w : World) (h : IsN w a len cap n) (hi : i ≤ 100000) :
    Calls Try.prog 73 #[.slice a len cap, .int .i64 (i : Int)] w fun e w' => e = .returned (.int .u64 (dg n i : Int)) ∧ w' = w := by
  obtain ⟨h1, h2, h3⟩ := h
  have hlen : ((len : Nat) : Int) ≤ 200 := by omega
  by_cases hlt : i < len
  · obtain ⟨b, rfl, hcap, hb, hc⟩ : ∃ b, a = some ⟨b, 0, none⟩ ∧ len ≤ cap ∧ b < w.heap.size ∧ ∀ i, i < len → w.cell? ⟨b, i, none⟩ = some (.int .u64 (dg n i : Int)) := by
      rcases h3 with h3 | h3
      · omega
      · exact h3
    have c0 := hc i hlt
    have t0 : ¬ (i : Int) < 0 := by omega
    have t1 : ¬ (len : Int) ≤ (i : Int) := by omega
    have t2 : (i : Int) < (len : Int) := by omega
    clear h1 h3 hc
    generalize dg n i = x at c0 ⊢
    go_enter Try.func73, Try.ntmps73
    go_wp2_with fail
    go_ret
    exact ⟨rfl, rfl⟩
  · have e0 := dg_out h1 (by omega : len ≤ i)
    rw [e0]
    have t0 : ¬ (i : Int) < 0 := by omega
    have t1 : (len : Int) ≤ (i : Int) := by omega
    clear h1 h3 e0
    go_enter Try.func73, Try.ntmps73
    go_wp2_with fail
    go_ret
    exact ⟨rfl, rfl⟩
theorem shr_pow (x r : Nat) : (x : Int) / 2 ^ r = ((x / 2 ^ r : Nat) : Int) := by
  have e2 : ((2 : Int) ^ r) = ((2 ^ r : Nat) : Int) := by rw [Int.natCast_pow]; rfl
  rw [e2, ← Int.natCast_ediv]
theorem rbit_any (a : Option Addr) (len cap n i : Nat) (w : World) (h : IsN w a len cap n) (hi : i ≤ 100000) :
    Calls Try.prog 68 #[.slice a len cap, .int .i64 (i : Int)] w fun e w' => e = .returned (.int .u64 ((n / 2 ^ i % 2 : Nat) : Int)) ∧ w' = w := by
  obtain ⟨Q, hQ⟩ : ∃ Q, i / 16 = Q := ⟨_, rfl⟩
  obtain ⟨r, hr⟩ : ∃ r, i % 16 = r := ⟨_, rfl⟩
  have hbit := dg_bit n i
  rw [hQ, hr] at hbit
  have LA := fun w h => limb_any a len cap n Q w h (by omega)
  have hx := dg_lt n Q
  rw [← hbit]
  have HH := Lib.hid h
  clear h hbit
  generalize dg n Q = x at *
  have t1 : (i : Int).tdiv 16 = (Q : Int) := by rw [Int.tdiv_eq_ediv_of_nonneg (by omega)]; omega
  have t2 : (i : Int).tmod 16 = (r : Int) := by rw [Int.tmod_eq_emod_of_nonneg (by omega)]; omega
  have d1 : (i : Int) / 16 = (Q : Int) := by omega
  have d2 : (i : Int) % 16 = (r : Int) := by omega
  have nr : (r : Int).toNat = r := by omega
  have r9 : (r : Int) < 16 := by omega
  have i9 : (i : Int) ≤ 100000 := by omega
  have ps := shr_pow x r
  have hy : x / 2 ^ r < 65536 := Nat.lt_of_le_of_lt (Nat.div_le_self _ _) hx
  generalize x / 2 ^ r = y at *
  have LAH := Lib.hid LA
  clear LA
  go_enter Try.func68, Try.ntmps68
  go_wp2_with fail
  refine (LAH.out _ HH.out).mono ?_
  rintro e w' ⟨rfl, rfl⟩
  go_wp2_with fail
  go_ret
  exact ⟨rfl, rfl⟩
end Go.Proofs.Ythdbadomppohbaa
