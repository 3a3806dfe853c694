/- Words out of bytes: contracts of closures of layer 1. -/
import Derived.Test.YtmjbhmpogpagjaaOctA
namespace Go.Proofs.Ytmjbhmpogpagjaa
set_option maxRecDepth 20000
set_option linter.unusedSimpArgs false
set_option linter.unusedVariables false
open Go.RowKit
/-- Bytes put together, the first one highest. -/
def accG (B : Nat → Int) : Nat → Int
  | 0 => 0
  | k + 1 => accG B k + B k * ((2 ^ (56 - 8 * k) : Nat) : Int)
/-- Bytes put together, the first one lowest. -/
def accL (B : Nat → Int) : Nat → Int
  | 0 => 0
  | k + 1 => accL B k + B k * ((2 ^ (8 * k) : Nat) : Int)
theorem accG_form (B : Nat → Int) (hB : ∀ i, 0 ≤ B i ∧ B i < 256) : ∀ k, k ≤ 8 → ∃ q : Int, accG B k = q * ((2 ^ (64 - 8 * k) : Nat) : Int) ∧ 0 ≤ q ∧ q < ((2 ^ (8 * k) : Nat) : Int)
  | 0, _ => ⟨0, by simp [accG], by decide, by decide⟩
  | k + 1, hk => by
    obtain ⟨q, e, q0, q1⟩ := accG_form B hB k (by omega)
    obtain ⟨b0, b1⟩ := hB k
    refine ⟨q * 256 + B k, ?_, by omega, ?_⟩
    · show accG B k + B k * ((2 ^ (56 - 8 * k) : Nat) : Int) = _
      rw [e]
      have h1 : 64 - 8 * k = 8 + (56 - 8 * k) := by omega
      have h2 : 64 - 8 * (k + 1) = 56 - 8 * k := by omega
      rw [h1, h2, Nat.pow_add, Int.natCast_mul]
      generalize ((2 ^ (56 - 8 * k) : Nat) : Int) = z
      have h3 : ((2 ^ 8 : Nat) : Int) = 256 := rfl
      rw [h3]; grind
    · have h1 : 8 * (k + 1) = 8 * k + 8 := by omega
      rw [h1, Nat.pow_add, Int.natCast_mul]
      have h3 : ((2 ^ 8 : Nat) : Int) = 256 := rfl
      rw [h3]
      generalize ((2 ^ (8 * k) : Nat) : Int) = z at *
      omega
theorem pow_le_64 (k : Nat) (hk : k ≤ 64) : ((2 ^ k : Nat) : Int) ≤ 18446744073709551616 := by
  have : 2 ^ k ≤ 2 ^ 64 := Nat.pow_le_pow_right (by decide) hk
  omega
theorem accG_bd (B : Nat → Int) (hB : ∀ i, 0 ≤ B i ∧ B i < 256) (k : Nat) (hk : k ≤ 8) : 0 ≤ accG B k ∧ accG B k < 18446744073709551616 := by
  obtain ⟨q, e, q0, q1⟩ := accG_form B hB k hk
  have hz : ((2 ^ (64 - 8 * k) : Nat) : Int) * ((2 ^ (8 * k) : Nat) : Int) = 18446744073709551616 := by
    rw [← Int.natCast_mul, ← Nat.pow_add, show 64 - 8 * k + 8 * k = 64 from by omega]; rfl
  have hp : 0 < ((2 ^ (64 - 8 * k) : Nat) : Int) := by have := Nat.two_pow_pos (64 - 8 * k); omega
  rw [e]
  refine ⟨Int.mul_nonneg q0 (by omega), ?_⟩
  rw [← hz, Int.mul_comm]
  exact Int.mul_lt_mul_of_pos_left q1 hp
theorem accG_or (B : Nat → Int) (hB : ∀ i, 0 ≤ B i ∧ B i < 256) (k : Nat) (hk : k < 8) : bits .or .u64 (accG B k) (B k * ((2 ^ (56 - 8 * k) : Nat) : Int)) = accG B (k + 1) := by
  obtain ⟨q, e, _, _⟩ := accG_form B hB k (by omega)
  obtain ⟨h0, h1⟩ := accG_bd B hB k (by omega)
  obtain ⟨b0, b1⟩ := hB k
  have hp : 0 < ((2 ^ (56 - 8 * k) : Nat) : Int) := by have := Nat.two_pow_pos (56 - 8 * k); omega
  have h2 : ((2 ^ (64 - 8 * k) : Nat) : Int) = 256 * ((2 ^ (56 - 8 * k) : Nat) : Int) := by
    rw [show 64 - 8 * k = 8 + (56 - 8 * k) from by omega, Nat.pow_add, Int.natCast_mul]; rfl
  have h3 := pow_le_64 (64 - 8 * k) (by omega)
  have h4 : B k * ((2 ^ (56 - 8 * k) : Nat) : Int) < ((2 ^ (64 - 8 * k) : Nat) : Int) := by rw [h2]; exact Int.mul_lt_mul_of_pos_right b1 hp
  exact or_u64 _ _ q (64 - 8 * k) h0 h1 e (Int.mul_nonneg b0 (by omega)) (by omega) h4
theorem accG_wrap (B : Nat → Int) (hB : ∀ i, 0 ≤ B i ∧ B i < 256) (k : Nat) (hk : k < 8) : IntKind.u64.wrap (B k * ((2 ^ (56 - 8 * k) : Nat) : Int)) = B k * ((2 ^ (56 - 8 * k) : Nat) : Int) := by
  obtain ⟨b0, b1⟩ := hB k
  have hp : 0 < ((2 ^ (56 - 8 * k) : Nat) : Int) := by have := Nat.two_pow_pos (56 - 8 * k); omega
  have h2 : ((2 ^ (64 - 8 * k) : Nat) : Int) = 256 * ((2 ^ (56 - 8 * k) : Nat) : Int) := by
    rw [show 64 - 8 * k = 8 + (56 - 8 * k) from by omega, Nat.pow_add, Int.natCast_mul]; rfl
  have h3 := pow_le_64 (64 - 8 * k) (by omega)
  have h4 : B k * ((2 ^ (56 - 8 * k) : Nat) : Int) < 256 * ((2 ^ (56 - 8 * k) : Nat) : Int) := Int.mul_lt_mul_of_pos_right b1 hp
  have h5 := Int.mul_nonneg b0 (by omega : 0 ≤ ((2 ^ (56 - 8 * k) : Nat) : Int))
  rw [IntKind.wrap_u64]
  exact Int.emod_eq_of_lt h5 (by omega)
theorem accL_bd (B : Nat → Int) (hB : ∀ i, 0 ≤ B i ∧ B i < 256) : ∀ k, 0 ≤ accL B k ∧ accL B k < ((2 ^ (8 * k) : Nat) : Int)
  | 0 => by simp [accL]
  | k + 1 => by
    obtain ⟨h0, h1⟩ := accL_bd B hB k
    obtain ⟨b0, b1⟩ := hB k
    have h2 : ((2 ^ (8 * (k + 1)) : Nat) : Int) = ((2 ^ (8 * k) : Nat) : Int) * 256 := by rw [show 8 * (k + 1) = 8 * k + 8 from by omega, Nat.pow_add, Int.natCast_mul]; rfl
    rw [h2]
    show 0 ≤ accL B k + B k * ((2 ^ (8 * k) : Nat) : Int) ∧ accL B k + B k * ((2 ^ (8 * k) : Nat) : Int) < _
    generalize ((2 ^ (8 * k) : Nat) : Int) = z at *
    have h3 := Int.mul_nonneg b0 (by omega : 0 ≤ z)
    have h4 : B k * z ≤ 255 * z := Int.mul_le_mul_of_nonneg_right (by omega) (by omega)
    omega
theorem accL_wrap (B : Nat → Int) (hB : ∀ i, 0 ≤ B i ∧ B i < 256) (k : Nat) (hk : k < 8) : IntKind.u64.wrap (B k * ((2 ^ (8 * k) : Nat) : Int)) = B k * ((2 ^ (8 * k) : Nat) : Int) ∧ B k * ((2 ^ (8 * k) : Nat) : Int) < 18446744073709551616 ∧ 0 ≤ B k * ((2 ^ (8 * k) : Nat) : Int) := by
  obtain ⟨b0, b1⟩ := hB k
  have hp : 0 < ((2 ^ (8 * k) : Nat) : Int) := by have := Nat.two_pow_pos (8 * k); omega
  have h2 : ((2 ^ (8 * (k + 1)) : Nat) : Int) = 256 * ((2 ^ (8 * k) : Nat) : Int) := by
    rw [show 8 * (k + 1) = 8 + 8 * k from by omega, Nat.pow_add, Int.natCast_mul]; rfl
  have h3 := pow_le_64 (8 * (k + 1)) (by omega)
  have h4 : B k * ((2 ^ (8 * k) : Nat) : Int) < 256 * ((2 ^ (8 * k) : Nat) : Int) := Int.mul_lt_mul_of_pos_right b1 hp
  have h5 := Int.mul_nonneg b0 (by omega : 0 ≤ ((2 ^ (8 * k) : Nat) : Int))
  refine ⟨?_, by omega, h5⟩
  rw [IntKind.wrap_u64]
  exact Int.emod_eq_of_lt h5 (by omega)
theorem accL_or (B : Nat → Int) (hB : ∀ i, 0 ≤ B i ∧ B i < 256) (k : Nat) (hk : k < 8) : bits .or .u64 (accL B k) (B k * ((2 ^ (8 * k) : Nat) : Int)) = accL B (k + 1) := by
  obtain ⟨h0, h1⟩ := accL_bd B hB k
  obtain ⟨_, h2, h3⟩ := accL_wrap B hB k hk
  have h4 := pow_le_64 (8 * k) (by omega)
  have e : bits .or .u64 (B k * ((2 ^ (8 * k) : Nat) : Int)) (accL B k) = B k * ((2 ^ (8 * k) : Nat) : Int) + accL B k := or_u64 _ _ (B k) (8 * k) h3 h2 rfl h0 (by omega) h1
  show _ = accL B k + B k * ((2 ^ (8 * k) : Nat) : Int)
  rw [Int.add_comm, ← e, u64_or _ _ h0 (by omega) h3 h2, u64_or _ _ h3 h2 h0 (by omega), Nat.or_comm]
theorem get641_any (v : Value) (n : Nat) (xs : List Value) (base bb off c : Nat) (B : Nat → Int) (w : World) (hown : w.ownsRow base 36 1 v n xs)
    (hc : ∀ j, j < 8 → w.cell? ⟨bb, off + j, none⟩ = some (.int .u8 (B j))) (hB : ∀ i, 0 ≤ B i ∧ B i < 256) (hn : n ≤ 1000000) (hb : base ≤ w.heap.size) :
    Calls Try.prog 69 #[v, .slice (some ⟨bb, off, none⟩) 8 c] w fun e w' =>
      ∃ v', e = .returned v' ∧ w'.ownsRow base 36 1 v' (n + 1) (xs ++ [.int .u64 (accG B 8)]) ∧ Below base w w' := by
  obtain ⟨i0, hi, hz0, hz1, hz2⟩ := info_parts Try.info_u64
  have HC := Lib.hid hc
  have HB := Lib.hid hB
  clear hc hB
  go_enter Try.func69, Try.ntmps69
  go_wp2_with fail
  go_loop [5, 7] (fun a i => ∃ k : Nat, k ≤ 8 ∧ i = .int .i64 k ∧ a = .int .u64 (accG B k)) (fun _ i => 8 - (intOf i).toNat)
  case atStart => exact ⟨0, by omega, rfl, rfl⟩
  case round =>
    obtain ⟨k, hk, rfl, rfl⟩ := hrel
    by_cases hlt : k < 8
    · have hck := HC.out k hlt
      have s1 : IntKind.i64.wrap (8 * (k : Int)) = 8 * k := IntWalk.i64_in _ (by omega)
      have s2 : IntKind.i64.wrap (56 - 8 * (k : Int)) = 56 - 8 * k := IntWalk.i64_in _ (by omega)
      have s3 : 0 ≤ 56 - 8 * (k : Int) := by omega
      have s4 : IntKind.u64.wrap (B k) = B k := by have := HB.out k; rw [IntKind.wrap_u64]; omega
      have S5 := Lib.hid (accG_wrap B HB.out k hlt)
      have S6 := Lib.hid (accG_or B HB.out k hlt)
      go_wp2_with fail
      go_round
      case rel => exact ⟨k + 1, by omega, by go_num, congrArg (Value.int .u64) (by rw [(by rw [Int.natCast_pow]; rfl : ((2 : Int) ^ (56 - 8 * k)) = ((2 ^ (56 - 8 * k) : Nat) : Int)), S5.out, S6.out])⟩
      case measure => simp [intOf]; omega
    · obtain rfl : k = 8 := by omega
      go_wp2_with (at_builtin; refine wpList_append_own _ rfl (.tmp 22) (.tmp 24) 33 rfl base 36 i0 (.int .u64 0) 1 8 Try.underlying33 hi hz0 hz1 hz2 rfl (by decide) v n xs (by simp [Act.eval]) (hown.alloc _) ⟨w.heap.size, 0, none⟩ 1 1 _ (by simp [Act.eval]) rfl (by exact news_new w #[_] _) (by simp [Value.oneCell']) (by unfold maxLen; omega) (by omega) (by simp; omega) ?_; intro v2 w2 hown2 hgrow2 _)
      go_ret
      exact ⟨_, rfl, hown2, ((Below.refl base w).alloc hb _).grown hgrow2 (by simp; omega) (fun j hj => (hown.lt j hj).1)⟩
end Go.Proofs.Ytmjbhmpogpagjaa
