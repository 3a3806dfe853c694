/- SHA-512 as plain numbers, and the reference's turn, word and words (layer 18). -/
import Derived.Test.YtmjbhmpogpagjaaMixm
import Derived.Test.YtmjbhmpogpagjaaRefg
import Derived.BigQuiet
import Derived.Lib.QuietBelow
namespace Go.Proofs.Ytmjbhmpogpagjaa
set_option maxRecDepth 20000
set_option linter.unusedSimpArgs false
set_option linter.unusedVariables false
open Go.RowKit
def M64 : Nat := 18446744073709551616
def sg0 (x : Nat) : Nat := rotN 64 x 1 ^^^ rotN 64 x 8 ^^^ x / 128
def sg1 (x : Nat) : Nat := rotN 64 x 19 ^^^ rotN 64 x 61 ^^^ x / 64
def big0 (a : Nat) : Nat := rotN 64 a 28 ^^^ rotN 64 a 34 ^^^ rotN 64 a 39
def big1 (e : Nat) : Nat := rotN 64 e 14 ^^^ rotN 64 e 18 ^^^ rotN 64 e 41
def nextW (l : List Nat) : Nat := (sg1 (l.getD (l.length - 2) 0) + l.getD (l.length - 7) 0 + sg0 (l.getD (l.length - 15) 0) + l.getD (l.length - 16) 0) % M64
/-- The words of a block: the first ones, and k more. -/
def wsN (m : List Nat) : Nat → List Nat
  | 0 => m
  | k + 1 => wsN m k ++ [nextW (wsN m k)]
theorem wsN_len (m : List Nat) : ∀ k, (wsN m k).length = m.length + k
  | 0 => rfl
  | k + 1 => by unfold wsN; rw [List.length_append, wsN_len m k]; rfl
theorem wsN_lt (m : List Nat) (hm : ∀ x ∈ m, x < M64) : ∀ k, ∀ x ∈ wsN m k, x < M64
  | 0 => hm
  | k + 1 => fun x hx => by
    rcases List.mem_append.1 hx with h | h
    · exact wsN_lt m hm k x h
    · rw [List.mem_singleton.1 h]
      exact Nat.mod_lt _ (by decide)
theorem rot_lt (x r : Nat) (hx : x < M64) : rotN 64 x r < M64 := rotN_lt 64 x r hx
theorem xor_lt {x y : Nat} (hx : x < M64) (hy : y < M64) : x ^^^ y < M64 := Nat.xor_lt_two_pow (n := 64) hx hy
theorem xor_u64 (x y : Nat) (hx : x < M64) (hy : y < M64) : bits .xor .u64 (x : Int) (y : Int) = ((x ^^^ y : Nat) : Int) := by
  unfold M64 at hx hy
  rw [u64_xor _ _ (by omega) (by omega) (by omega) (by omega), Int.toNat_natCast, Int.toNat_natCast]
theorem turn_any (x r : Nat) (hr : r < 64) (w : World) (hx : x < M64) :
    Calls Try.prog 50 #[.int .u64 (x : Int), .int .i64 (r : Int)] w fun e w' => e = .returned (.int .u64 (rotN 64 x r : Int)) ∧ w = w' := by
  have K := Lib.hid (fun w => rright (x : Int) (r : Int) 64 w (.inr rfl) (by omega) (by unfold M64 at hx; show (x : Int) < 18446744073709551616; omega) (by unfold M64 at hx; omega))
  have e : rotI 64 (x : Int) (r : Int) = (rotN 64 x r : Int) := by
    unfold rotI
    rw [Int.toNat_natCast, show ((r : Int) % 64).toNat = r by omega]
    rfl
  rw [e] at K
  clear e
  go_enter Try.func50, Try.ntmps50
  go_wp2_with fail
  refine (K.out _).mono ?_
  rintro e w1 ⟨rfl, rfl⟩
  go_wp2_with fail
  go_ret
  exact ⟨rfl, rfl⟩
theorem word_any (z : Int) (w : World) :
    Calls Try.prog 51 #[.int .u64 z] w fun e w' => e = .returned (.int .u64 z) ∧ w = w' := by
  go_enter Try.func51, Try.ntmps51
  go_wp2_with fail
  go_ret
  exact ⟨rfl, rfl⟩
theorem wrap_nat (n : Nat) : IntKind.u64.wrap (n : Int) = ((n % M64 : Nat) : Int) := by
  rw [IntKind.wrap_u64]
  unfold M64
  omega
theorem wrap_add (a b : Nat) : IntKind.u64.wrap ((a : Int) + (b : Int)) = (((a + b) % M64 : Nat) : Int) := by rw [← wrap_nat, Int.natCast_add]
end Go.Proofs.Ytmjbhmpogpagjaa
