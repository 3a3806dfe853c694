/- block.Pad of others; the reference's Pad. -/
import Derived.Test.YtmjbhmpogpagjaaBlkB
namespace Go.Proofs.Ytmjbhmpogpagjaa
set_option maxRecDepth 20000
set_option linter.unusedSimpArgs false
set_option linter.unusedVariables false
open Go.RowKit
def padIn (n size width : Int) : Prop := 0 ≤ n ∧ n ≤ 1099511627776 ∧ 16 ≤ size ∧ size ≤ 256 ∧ 8 ≤ width ∧ width ≤ 16
theorem pad_out (n size width : Int) (w : World) (h : ¬ padIn n size width) :
    Calls Try.prog 19 #[.int .i64 n, .int .i64 size, .int .i64 width] w fun e w' => e = .returned (.string ByteArray.empty) ∧ w = w' := by
  unfold padIn at h
  go_enter Try.func19, Try.ntmps19
  go_wp2_with fail
  all_goals first
    | (exfalso; omega)
    | (go_ret; exact ⟨rfl, rfl⟩)
theorem rpad_out (n size width : Int) (w : World) (h : ¬ padIn n size width) :
    Calls Try.prog 30 #[.int .i64 n, .int .i64 size, .int .i64 width] w fun e w' => e = .returned (.string ByteArray.empty) ∧ w = w' := by
  unfold padIn at h
  go_enter Try.func30, Try.ntmps30
  go_wp2_with fail
  all_goals first
    | (exfalso; omega)
    | (go_ret; exact ⟨rfl, rfl⟩)
end Go.Proofs.Ytmjbhmpogpagjaa
