/- roots: which roots have nothing behind the point; prime numbers; what Prime answers. -/
import Derived.Test.YtmjbhmpogpagjaaRooD
namespace Go.Proofs.Ytmjbhmpogpagjaa
set_option maxRecDepth 20000
set_option linter.unusedSimpArgs false
set_option linter.unusedVariables false
open Go.RowKit
theorem sq_expand (k B : Nat) : (k * B + 1) * (k * B + 1) = k * k * (B * B) + 2 * (k * B) + 1 := by
  simp only [Nat.mul_add, Nat.add_mul, Nat.mul_one, Nat.one_mul]
  have : k * B * (k * B) = k * k * (B * B) := by simp only [Nat.mul_assoc, Nat.mul_left_comm, Nat.mul_comm]
  omega
theorem cu_expand (k B : Nat) : (k * B + 1) * (k * B + 1) * (k * B + 1) = k * k * k * (B * B * B) + 3 * (k * k * (B * B)) + 3 * (k * B) + 1 := by
  rw [sq_expand, Nat.mul_add, Nat.mul_one, Nat.add_mul, Nat.add_mul, Nat.one_mul]
  have h1 : k * k * (B * B) * (k * B) = k * k * k * (B * B * B) := by simp only [Nat.mul_assoc, Nat.mul_left_comm, Nat.mul_comm]
  have h2 : 2 * (k * B) * (k * B) = 2 * (k * k * (B * B)) := by
    have : k * B * (k * B) = k * k * (B * B) := by simp only [Nat.mul_assoc, Nat.mul_left_comm, Nat.mul_comm]
    rw [Nat.mul_assoc, this]
  omega
theorem B_sq : B64 ^ 2 = B64 * B64 := by rw [Nat.pow_succ, Nat.pow_one]
theorem B_cu : B64 ^ 3 = B64 * B64 * B64 := by rw [Nat.pow_succ, B_sq]
theorem wd0_iff (x : Nat) : wd x 0 = 0 ↔ ∃ k, x = k * B64 := by
  rw [wd_zero]
  constructor
  · intro h
    have := Nat.div_add_mod x B64
    exact ⟨x / B64, by rw [h, Nat.mul_comm] at this; omega⟩
  · rintro ⟨k, rfl⟩
    exact Nat.mul_mod_left _ _
theorem top_sq0 (n x : Nat) (h1 : 1 ≤ n) (h2 : n < 65536) (ht : top (fun y => y * y ≤ n * B64 ^ 2) x) : wd x 0 = 0 ↔ ∃ k, 1 ≤ k ∧ k < 256 ∧ k * k = n := by
  obtain ⟨t1, t2, t3⟩ := ht
  simp only [B_sq] at t2 t3
  rw [wd0_iff]
  constructor
  · rintro ⟨k, rfl⟩
    have hk : k < 256 := by unfold B64 at t1; omega
    have h3 := t3 (k * B64 + 1) (by omega) (by unfold B64; omega)
    rw [sq_expand] at h3
    have e : k * B64 * (k * B64) = k * k * (B64 * B64) := by simp only [Nat.mul_assoc, Nat.mul_left_comm, Nat.mul_comm]
    rw [e] at t2
    have h4 : k * k ≤ n := Nat.le_of_mul_le_mul_right t2 (by decide)
    have h5 : ¬ k * k + 1 ≤ n := fun h => by
      have h6 := Nat.mul_le_mul_right (B64 * B64) h
      rw [Nat.add_mul, Nat.one_mul] at h6
      have h7 : 2 * (k * B64) + 1 ≤ B64 * B64 := by unfold B64; omega
      omega
    refine ⟨k, ?_, hk, by omega⟩
    rcases Nat.eq_zero_or_pos k with h | h
    · subst h; omega
    · exact h
  · rintro ⟨k, k1, k2, rfl⟩
    refine ⟨k, ?_⟩
    have e : k * B64 * (k * B64) = k * k * (B64 * B64) := by simp only [Nat.mul_assoc, Nat.mul_left_comm, Nat.mul_comm]
    rcases Nat.lt_trichotomy x (k * B64) with h | h | h
    · exact absurd (Nat.le_of_eq e) (t3 (k * B64) h (by unfold B64; omega))
    · exact h
    · have h3 := Nat.mul_lt_mul'' h h
      rw [e] at h3
      omega
theorem top_cu0 (n x : Nat) (h1 : 1 ≤ n) (h2 : n < 65536) (ht : top (fun y => y * y * y ≤ n * B64 ^ 3) x) : wd x 0 = 0 ↔ ∃ k, 1 ≤ k ∧ k < 256 ∧ k * k * k = n := by
  obtain ⟨t1, t2, t3⟩ := ht
  simp only [B_cu] at t2 t3
  rw [wd0_iff]
  have e : ∀ k, k * B64 * (k * B64) * (k * B64) = k * k * k * (B64 * B64 * B64) := fun k => by simp only [Nat.mul_assoc, Nat.mul_left_comm, Nat.mul_comm]
  constructor
  · rintro ⟨k, rfl⟩
    have hk : k < 256 := by unfold B64 at t1; omega
    have h3 := t3 (k * B64 + 1) (by omega) (by unfold B64; omega)
    rw [cu_expand] at h3
    rw [e] at t2
    have h4 : k * k * k ≤ n := Nat.le_of_mul_le_mul_right t2 (by decide)
    have hkk : k * k ≤ 255 * 255 := Nat.mul_le_mul (by omega) (by omega)
    have h5 : ¬ k * k * k + 1 ≤ n := fun h => by
      have h6 := Nat.mul_le_mul_right (B64 * B64 * B64) h
      rw [Nat.add_mul, Nat.one_mul] at h6
      have h7 : 3 * (k * k * (B64 * B64)) + 3 * (k * B64) + 1 ≤ B64 * B64 * B64 := by
        generalize k * k = q at hkk
        unfold B64
        omega
      omega
    refine ⟨k, ?_, hk, by omega⟩
    rcases Nat.eq_zero_or_pos k with h | h
    · subst h; omega
    · exact h
  · rintro ⟨k, k1, k2, rfl⟩
    refine ⟨k, ?_⟩
    rcases Nat.lt_trichotomy x (k * B64) with h | h | h
    · exact absurd (Nat.le_of_eq (e k)) (t3 (k * B64) h (by unfold B64; omega))
    · exact h
    · have h3 := Nat.mul_lt_mul'' (Nat.mul_lt_mul'' h h) h
      rw [e] at h3
      omega
theorem top_one {P : Nat → Prop} {x c : Nat} (ht : top P x) (hm : ∀ a b, a ≤ b → P b → P a) (hc : P c) (hc2 : ¬ P (c + 1)) (hl : c < 4722366482869645213696) : x = c := by
  obtain ⟨t1, t2, t3⟩ := ht
  rcases Nat.lt_trichotomy x c with h | h | h
  · exact absurd hc (t3 c h hl)
  · exact h
  · exact absurd (hm (c + 1) x h t2) hc2
theorem sq_mono (W : Nat) : ∀ a b, a ≤ b → (fun y => y * y ≤ W) b → (fun y => y * y ≤ W) a := fun _ _ h hb => Nat.le_trans (Nat.mul_le_mul h h) hb
theorem cu_mono (W : Nat) : ∀ a b, a ≤ b → (fun y => y * y * y ≤ W) b → (fun y => y * y * y ≤ W) a := fun _ _ h hb => Nat.le_trans (Nat.mul_le_mul (Nat.mul_le_mul h h) h) hb
theorem sq_2 {x : Nat} (ht : top (fun y => y * y ≤ 2 * B64 ^ 2) x) : wd x 0 = 7640891576956012808 := by
  rw [top_one ht (sq_mono _) (c := 26087635650665564424) (by decide) (by decide) (by decide)]
  decide
theorem cu_2 {x : Nat} (ht : top (fun y => y * y * y ≤ 2 * B64 ^ 3) x) : wd x 0 = 4794697086780616226 := by
  rw [top_one ht (cu_mono _) (c := 23241441160490167842) (by decide) (by decide) (by decide)]
  decide
theorem sq_4 {x : Nat} (ht : top (fun y => y * y ≤ 4 * B64 ^ 2) x) : wd x 0 = 0 := (top_sq0 4 x (by omega) (by omega) ht).2 ⟨2, by omega, by omega, rfl⟩
theorem cu_8 {x : Nat} (ht : top (fun y => y * y * y ≤ 8 * B64 ^ 3) x) : wd x 0 = 0 := (top_cu0 8 x (by omega) (by omega) ht).2 ⟨2, by omega, by omega, rfl⟩
end Go.Proofs.Ytmjbhmpogpagjaa
