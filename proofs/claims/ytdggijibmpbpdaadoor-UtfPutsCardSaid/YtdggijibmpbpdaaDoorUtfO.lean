/- The reference's Is of any number (layer 3). -/
import Derived.Test.YtdggijibmpbpdaaDoorUtfN
namespace Go.Proofs.YtdggijibmpbpdaaDoor
open Go.RowKit Go.Lib
set_option maxHeartbeats 1000000 in
theorem ris_any (z : Int) (w : World) : Calls Tryd.prog 8 #[.int .i64 z] w fun e w' => e = .returned (.bool (Lib.validRune z)) ∧ w = w' := by
  by_cases h0 : 0 ≤ z
  · obtain ⟨n, rfl⟩ := Int.eq_ofNat_of_zero_le h0
    by_cases hn : isCp n
    · rw [valid_of_cp hn]
      exact is_yes n w hn
    · have hv : Lib.validRune (n : Int) = false := by
        cases h : Lib.validRune (n : Int) with
        | false => rfl
        | true =>
          obtain ⟨m, e, hm⟩ := cp_of_valid h
          exact absurd (by rwa [show n = m by omega]) hn
      rw [hv]
      exact is_no n w hn
  · have hv : Lib.validRune z = false := by
      unfold Lib.validRune
      rw [decide_eq_false_iff_not]
      omega
    rw [hv]
    clear hv
    have h1 : z < 0 := by omega
    go_enter Tryd.func8, Tryd.ntmps8
    go_wp2_with fail
    go_ret
    exact ⟨rfl, rfl⟩
end Go.Proofs.YtdggijibmpbpdaaDoor
