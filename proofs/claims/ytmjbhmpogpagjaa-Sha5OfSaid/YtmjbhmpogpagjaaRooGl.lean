/- lives of layer 14; the law RootsWhole: it returns true. -/
import Derived.Test.YtmjbhmpogpagjaaRooF
namespace Go.Proofs.Ytmjbhmpogpagjaa
set_option maxRecDepth 20000
set_option linter.unusedSimpArgs false
set_option linter.unusedVariables false
open Go.RowKit
theorem prime2 (w : World) : Calls Try.prog 25 #[.int .i64 2] w fun e w' => e = .returned (.int .i64 5) ∧ w = w' := prime_any 2 5 w (by decide +kernel) (by decide +kernel) (by omega) (by omega)
theorem square4 (w : World) : Calls Try.prog 24 #[.int .i64 4] w fun e w' => e = .returned (.int .u64 0) ∧ Below w.heap.size w w' := by
  refine (square_in 4 w (by omega) (by omega)).mono ?_
  rintro e w' ⟨x, hx, rfl, hb⟩
  exact ⟨by rw [sq_4 hx]; rfl, hb⟩
theorem square2 (w : World) : Calls Try.prog 24 #[.int .i64 2] w fun e w' => e = .returned (.int .u64 7640891576956012808) ∧ Below w.heap.size w w' := by
  refine (square_in 2 w (by omega) (by omega)).mono ?_
  rintro e w' ⟨x, hx, rfl, hb⟩
  exact ⟨by rw [sq_2 hx]; rfl, hb⟩
theorem cube8 (w : World) : Calls Try.prog 26 #[.int .i64 8] w fun e w' => e = .returned (.int .u64 0) ∧ Below w.heap.size w w' := by
  refine (cube_in 8 w (by omega) (by omega)).mono ?_
  rintro e w' ⟨x, hx, rfl, hb⟩
  exact ⟨by rw [cu_8 hx]; rfl, hb⟩
theorem cube2 (w : World) : Calls Try.prog 26 #[.int .i64 2] w fun e w' => e = .returned (.int .u64 4794697086780616226) ∧ Below w.heap.size w w' := by
  refine (cube_in 2 w (by omega) (by omega)).mono ?_
  rintro e w' ⟨x, hx, rfl, hb⟩
  exact ⟨by rw [cu_2 hx]; rfl, hb⟩
end Go.Proofs.Ytmjbhmpogpagjaa
