/- SHA-256 as plain numbers, and the reference's turn, word and words (layer 17). -/
import Derived.Test.YtcokmlbpomopkaaMixs
import Derived.Test.YtcokmlbpomopkaaRefg
import Derived.BigQuiet
import Derived.Lib.QuietBelow
namespace Go.Proofs.Ytcokmlbpomopkaa
set_option maxRecDepth 20000
open Go.RowKit
def M32 : Nat := 4294967296
def sg0 (x : Nat) : Nat := rotN 32 x 7 ^^^ rotN 32 x 18 ^^^ x / 8
def sg1 (x : Nat) : Nat := rotN 32 x 17 ^^^ rotN 32 x 19 ^^^ x / 1024
def big0 (a : Nat) : Nat := rotN 32 a 2 ^^^ rotN 32 a 13 ^^^ rotN 32 a 22
def big1 (e : Nat) : Nat := rotN 32 e 6 ^^^ rotN 32 e 11 ^^^ rotN 32 e 25
def nextW (l : List Nat) : Nat := (sg1 (l.getD (l.length - 2) 0) + l.getD (l.length - 7) 0 + sg0 (l.getD (l.length - 15) 0) + l.getD (l.length - 16) 0) % M32
/-- The words of a block: the first ones, and k more. -/
def wsN (m : List Nat) : Nat → List Nat
  | 0 => m
  | k + 1 => wsN m k ++ [nextW (wsN m k)]
theorem wsN_len (m : List Nat) : ∀ k, (wsN m k).length = m.length + k
  | 0 => rfl
  | k + 1 => by unfold wsN; rw [List.length_append, wsN_len m k]; rfl
theorem wsN_lt (m : List Nat) (hm : ∀ x ∈ m, x < M32) : ∀ k, ∀ x ∈ wsN m k, x < M32
  | 0 => hm
  | k + 1 => fun x hx => by
    rcases List.mem_append.1 hx with h | h
    · exact wsN_lt m hm k x h
    · rw [List.mem_singleton.1 h]
      exact Nat.mod_lt _ (by decide)
theorem rot_lt (x r : Nat) (hx : x < M32) : rotN 32 x r < M32 := rotN_lt 32 x r hx
theorem xor_lt {x y : Nat} (hx : x < M32) (hy : y < M32) : x ^^^ y < M32 := Nat.xor_lt_two_pow (n := 32) hx hy
theorem xor_u64 (x y : Nat) (hx : x < M32) (hy : y < M32) : bits .xor .u64 (x : Int) (y : Int) = ((x ^^^ y : Nat) : Int) := by
  unfold M32 at hx hy
  rw [u64_xor _ _ (by omega) (by omega) (by omega) (by omega), Int.toNat_natCast, Int.toNat_natCast]
theorem turn_any (x r : Nat) (hr : r < 32) (w : World) (hx : x < M32) :
    Calls Try.prog 51 #[.int .u64 (x : Int), .int .i64 (r : Int)] w fun e w' => e = .returned (.int .u64 (rotN 32 x r : Int)) ∧ w = w' := by
  have K := Lib.hid (fun w => rright (x : Int) (r : Int) 32 w (.inl rfl) (by omega) (by unfold M32 at hx; show (x : Int) < 4294967296; omega) (by unfold M32 at hx; omega))
  have e : rotI 32 (x : Int) (r : Int) = (rotN 32 x r : Int) := by
    unfold rotI
    rw [Int.toNat_natCast, show ((r : Int) % 32).toNat = r by omega]
    rfl
  rw [e] at K
  clear e
  go_enter Try.func51, Try.ntmps51
  go_wp2_with fail
  refine (K.out _).mono ?_
  rintro e w1 ⟨rfl, rfl⟩
  go_wp2_with fail
  go_ret
  exact ⟨rfl, rfl⟩
theorem word_any (n : Nat) (w : World) (hn : n < 18446744073709551616) :
    Calls Try.prog 52 #[.int .u64 (n : Int)] w fun e w' => e = .returned (.int .u64 ((n % M32 : Nat) : Int)) ∧ w = w' := by
  have q1 : (n : Int).tmod 4294967296 = ((n % M32 : Nat) : Int) := by unfold M32; rw [Int.tmod_eq_emod_of_nonneg (by omega)]; omega
  go_enter Try.func52, Try.ntmps52
  go_wp2_with fail
  go_ret
  exact ⟨rfl, rfl⟩
end Go.Proofs.Ytcokmlbpomopkaa
