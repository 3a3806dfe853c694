/- lives of layer 14; the law RootsWhole: it returns true. -/
import Derived.Test.YtkddnmboljghkaaRooF
namespace Go.Proofs.Ytkddnmboljghkaa
open Go.RowKit
theorem prime2 (w : World) : Calls Try.prog 48 #[.int .i64 2] w fun e w' => e = .returned (.int .i64 5) ∧ w = w' := prime_any 2 5 w (by decide +kernel) (by decide +kernel) (by omega) (by omega)
theorem square4 (w : World) : Calls Try.prog 27 #[.int .i64 4] w fun e w' => e = .returned (.int .u64 0) ∧ Below w.heap.size w w' := by
  refine (square_in 4 w (by omega) (by omega)).mono ?_
  rintro e w' ⟨x, hx, rfl, hb⟩
  exact ⟨by rw [sq_4 hx]; rfl, hb⟩
theorem square2 (w : World) : Calls Try.prog 27 #[.int .i64 2] w fun e w' => e = .returned (.int .u64 7640891576956012808) ∧ Below w.heap.size w w' := by
  refine (square_in 2 w (by omega) (by omega)).mono ?_
  rintro e w' ⟨x, hx, rfl, hb⟩
  exact ⟨by rw [sq_2 hx]; rfl, hb⟩
theorem cube8 (w : World) : Calls Try.prog 29 #[.int .i64 8] w fun e w' => e = .returned (.int .u64 0) ∧ Below w.heap.size w w' := by
  refine (cube_in 8 w (by omega) (by omega)).mono ?_
  rintro e w' ⟨x, hx, rfl, hb⟩
  exact ⟨by rw [cu_8 hx]; rfl, hb⟩
theorem cube2 (w : World) : Calls Try.prog 29 #[.int .i64 2] w fun e w' => e = .returned (.int .u64 4794697086780616226) ∧ Below w.heap.size w w' := by
  refine (cube_in 2 w (by omega) (by omega)).mono ?_
  rintro e w' ⟨x, hx, rfl, hb⟩
  exact ⟨by rw [cu_2 hx]; rfl, hb⟩
theorem lives_any (w : World) :
    Calls Try.prog 30 #[] w fun e w' => e = .returned (.bool true) ∧ Below w.heap.size w w' := by
  go_enter Try.func30, Try.ntmps30
  go_wp2_with (first
    | (go_at_call 48; with_reducible refine (prime2 _).mono ?_; rintro e w' ⟨rfl, rfl⟩)
    | (go_at_call 27; with_reducible refine (square4 _).mono ?_; rintro e w' ⟨rfl, hb⟩)
    | (go_at_call 27; with_reducible refine (square2 _).mono ?_; rintro e w' ⟨rfl, hb⟩)
    | (go_at_call 29; with_reducible refine (cube8 _).mono ?_; rintro e w' ⟨rfl, hb⟩)
    | (go_at_call 29; with_reducible refine (cube2 _).mono ?_; rintro e w' ⟨rfl, hb⟩))
  go_ret
  refine ⟨rfl, ?_⟩
  repeat (first | exact Below.refl _ _ | refine gr_step ?_ (by assumption))
end Go.Proofs.Ytkddnmboljghkaa
