/- What the reference's Put answers (XPut, for seats without Turn). -/
import Derived.Test.YtmjbhmpogpagjaaAid
import Derived.ProofKit
import Derived.Laws.Rows
namespace Go.Proofs.Ytmjbhmpogpagjaa
set_option maxRecDepth 20000
set_option linter.unusedSimpArgs false
set_option linter.unusedVariables false
open Go.RowKit
theorem Try.info_u8 : (Try.prog.info? 5).map (fun i => (i.zero, i.size, i.bytes)) = some (some (.int .u8 0), 1, 1) := by kernel_rfl
theorem bc_mod (z : Int) : bc (ofI (z % 256)) = .int .u8 (z % 256) := bc_ofI _ (by omega) (by omega)
def dk (x : Int) (k : Nat) : Int := x / ((256 ^ k : Nat) : Int)
theorem dk_zero (x : Int) : dk x 0 = x := by simp [dk]
theorem dk_succ (x : Int) (k : Nat) : dk x k / 256 = dk x (k + 1) := by
  unfold dk
  rw [Nat.pow_succ, Int.natCast_mul, ← Int.ediv_ediv_of_nonneg (Int.natCast_nonneg _)]; rfl
theorem dk_bd (x : Int) (k : Nat) (x0 : 0 ≤ x) (x1 : x < 18446744073709551616) : 0 ≤ dk x k ∧ dk x k < 18446744073709551616 := by
  induction k with
  | zero => rw [dk_zero]; exact ⟨x0, x1⟩
  | succ k ih => rw [← dk_succ x k]; omega
/-- A number's lowest bytes, the highest one first. -/
def putR (x : Int) : Nat → List UInt8
  | 0 => []
  | k + 1 => ofI (dk x k % 256) :: putR x k
theorem putR_length (x : Int) : ∀ k, (putR x k).length = k
  | 0 => rfl
  | k + 1 => by simp [putR, putR_length x k]
theorem rput_any (x : Int) (n : Nat) (w : World) (x0 : 0 ≤ x) (x1 : x < 18446744073709551616) (hn : n ≤ 1000) :
    Calls Try.prog 32 #[.int .u64 x, .int .i64 n] w fun e w' => e = .returned (.string ⟨(putR x n).toArray⟩) ∧ Below w.heap.size w w' := by
  obtain ⟨i0, hi, hz0, hz1, hz2⟩ := info_parts Try.info_u8
  go_enter Try.func32, Try.ntmps32
  go_wp2_with fail
  go_loopw [0, 5, 6] (fun y v i wr => ∃ k : Nat, k ≤ n ∧ i = .int .i64 k ∧ y = .int .u64 (dk x k) ∧ wr.ownsRow w.heap.size 5 1 v k ((putR x k).map bc) ∧ Below w.heap.size w wr) (fun _ _ i _ => n - (intOf i).toNat)
  case atStart => exact ⟨0, by omega, rfl, by rw [dk_zero], World.ownsRow_nil _ _ _ _, Below.refl _ _⟩
  case round =>
    obtain ⟨k, hk, rfl, rfl, hown, hb⟩ := hrel
    by_cases hlt : k < n
    · obtain ⟨d0, d1⟩ := dk_bd x k x0 x1
      have DS := Lib.hid (dk_succ x k)
      have hlit := World.ownsRow_lit (base := w.heap.size) (e := 5) (size := 1) wr #[.int .u8 (dk x k % 256)] 1 (by exact hb.size) (by decide) rfl
      have hsz := hb.size
      rcases hown with ⟨hl, ⟨rfl, hk0⟩ | ⟨g, cap, cur, rfl, hg, hh, r1, r2, r3, r4⟩⟩
      · subst hk0
        have HL := Lib.hid hlit
        clear hlit
        go_wp2_with fail
        go_roundw
        case rel =>
          refine ⟨1, by omega, rfl, congrArg (Value.int .u64) DS.out, ?_, hb.alloc hb.size _⟩
          have e : (putR x 1).map bc = [Value.int .u8 (dk x 0 % 256)] := by
            show [bc (ofI (dk x 0 % 256))] = _
            rw [bc_mod]
          rw [e]; exact HL.out
        case measure => simp [intOf]; omega
      · have hrow : wr.ownsRow w.heap.size 5 1 (.slice (some ⟨g, 0, none⟩) k cap) k ((putR x k).map bc) := ⟨hl, .inr ⟨g, cap, cur, rfl, hg, hh, r1, r2, r3, r4⟩⟩
        have hnews := (hrow.alloc (.cells #[.int .u8 (dk x k % 256)] 5)).cells rfl
        have HN := Lib.hid hnews
        have HL := Lib.hid hlit
        have Hl := Lib.hid hl
        clear hnews hlit hh r2 r3 r4 hl
        go_wp2_with (at_builtin; refine wpList_append_own _ (by rfl) (.tmp 15) (.tmp 16) 51 (by rfl) w.heap.size 5 i0 (.int .u8 0) 1 1 Try.underlying51 hi hz0 hz1 hz2 rfl (by decide) _ 1 _ (by simp [Act.eval]; rfl) (by exact HL.out) ⟨g, 0, none⟩ k cap ((putR x k).map bc) (by simp [Act.eval]) (by exact Hl.out) (by exact HN.out) (by simp [bc, Value.oneCell']) (by unfold maxLen; omega) (by omega) (by have := hb.size; simp; omega) ?_; intro v2 w2 hown2 hgrow2 _)
        go_roundw
        case rel =>
          refine ⟨k + 1, by omega, by go_num, congrArg (Value.int .u64) DS.out, ?_, (hb.alloc hb.size _).grown hgrow2 (by have := hb.size; simp; omega) (fun j hj => by simp [Value.ownBlock] at hj; omega)⟩
          rw [show k + 1 = 1 + k from by omega]
          have e : (putR x (1 + k)).map bc = [Value.int .u8 (dk x k % 256)] ++ (putR x k).map bc := by
            rw [Nat.add_comm]
            show bc (ofI (dk x k % 256)) :: _ = _
            rw [bc_mod]; rfl
          rw [e]; exact hown2
        case measure => simp [intOf]; omega
    · obtain rfl : k = n := by omega
      have ks := own_string (P := Try.prog) (t := 51) (ty := 9) Try.underlying51 Try.underlying5 Try.underlying9 hown
      go_wp2_with fail
      go_ret
      exact ⟨rfl, hb⟩
end Go.Proofs.Ytmjbhmpogpagjaa
