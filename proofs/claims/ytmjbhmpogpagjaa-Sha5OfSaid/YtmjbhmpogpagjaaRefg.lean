/- The reference's Get (layer 1), for other seats: its contract. -/
import Derived.Test.YtmjbhmpogpagjaaAid
import Derived.IntWalk
import Derived.Lib.Strings
namespace Go.Proofs.Ytmjbhmpogpagjaa
set_option maxRecDepth 20000
set_option linter.unusedSimpArgs false
set_option linter.unusedVariables false
open Go.RowKit
theorem take_byte1 (s : ByteArray) (k : Nat) (h : k < s.size) : s.data.toList.take (k + 1) = s.data.toList.take k ++ [s[k]] := by
  rw [List.take_succ_eq_append_getElem (by simpa using h)]; rfl
/-- The number of bytes, the highest one first. -/
def beN (l : List UInt8) : Nat := l.foldl (fun n b => n * 256 + b.toNat) 0
theorem beN_snoc (l : List UInt8) (b : UInt8) : beN (l ++ [b]) = beN l * 256 + b.toNat := by simp [beN]
theorem beN_lt : ∀ (k : Nat) (l : List UInt8), beN (l.take k) < 256 ^ k
  | 0, l => by simp [beN]
  | k + 1, l => by
    have ih := beN_lt k l
    by_cases h : k < l.length
    · rw [List.take_succ_eq_append_getElem h, beN_snoc, Nat.pow_succ]
      have := (l[k]).toNat_lt
      omega
    · rw [List.take_of_length_le (by omega)]
      rw [List.take_of_length_le (by omega)] at ih
      rw [Nat.pow_succ]
      omega
set_option maxHeartbeats 1000000 in
theorem rget_any (s : ByteArray) (w : World) (hs : s.size ≤ 8) :
    Calls Try.prog 63 #[.string s] w fun e w' => e = .returned (.int .u64 (beN s.data.toList : Int)) ∧ w = w' := by
  have hsl := Lib.size_eq s
  go_enter Try.func63, Try.ntmps63
  go_wp2_with fail
  go_loop [3, 4] (fun v i => ∃ k : Nat, k ≤ s.size ∧ v = .int .u64 (beN (s.data.toList.take k) : Int) ∧ i = .int .i64 (k : Int)) (fun _ i => s.size - (Go.RowKit.intOf i).toNat)
  case atStart => exact ⟨0, by omega, rfl, rfl⟩
  case round =>
    obtain ⟨k, hk, rfl, rfl⟩ := hrel
    by_cases hlt : k < s.size
    · have p1 : (k : Int) < (s.size : Int) := by omega
      have h1 := beN_lt k s.data.toList
      have h2 : beN (s.data.toList.take k) < 256 ^ 7 := Nat.lt_of_lt_of_le h1 (Nat.pow_le_pow_right (by decide) (by omega))
      have h3 : beN (s.data.toList.take (k + 1)) = beN (s.data.toList.take k) * 256 + (s[k]'hlt).toNat := by
        rw [take_byte1 s k hlt, beN_snoc]
      have h4 := (s[k]'hlt).toNat_lt
      obtain ⟨A, hA⟩ : ∃ A, beN (s.data.toList.take k) = A := ⟨_, rfl⟩
      obtain ⟨c, hc⟩ : ∃ c, (s[k]'hlt).toNat = c := ⟨_, rfl⟩
      rw [hA, hc] at h3
      rw [hA] at h2 ⊢
      have hc' : ((s[k]'hlt).toNat : Int) = (c : Int) := by rw [hc]
      rw [hc] at h4
      have H3 := Lib.hid h3
      have o1 : IntKind.u64.wrap ((A : Int) * 256) = (A : Int) * 256 := IntWalk.u64_in _ (by omega)
      have o2 : IntKind.u64.wrap ((A : Int) * 256 + (c : Int)) = (A : Int) * 256 + (c : Int) := IntWalk.u64_in _ (by omega)
      have o0 : IntKind.u64.wrap (c : Int) = (c : Int) := IntWalk.u64_in _ (by omega)
      clear hA hc h3 h1 h2 h4 hsl
      go_wp2_with fail
      go_round
      case rel => exact ⟨k + 1, by omega, by rw [H3.out]; exact congrArg (Value.int .u64) (by omega), congrArg (Value.int .i64) (by omega)⟩
      case measure =>
        simp [Go.RowKit.intOf]
        omega
    · obtain rfl : k = s.size := by omega
      have p1 : ¬ (s.size : Int) < (s.size : Int) := by omega
      have hall : s.data.toList.take s.size = s.data.toList := List.take_of_length_le (by omega)
      rw [hall]
      clear hall hsl
      go_wp2_with fail
      go_ret
      exact ⟨rfl, rfl⟩
end Go.Proofs.Ytmjbhmpogpagjaa
