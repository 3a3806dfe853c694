/- Numbers and their words: the value of some words, a word that is turned, a product word by word. No program in it. -/
import Derived.Test.YthdbadomppohbaaWidA
namespace Go.Proofs.Ythdbadomppohbaa
set_option maxRecDepth 20000
set_option linter.unusedSimpArgs false
set_option linter.unusedVariables false
def valW (p : Nat → Nat) : Nat → Nat
  | 0 => 0
  | n + 1 => valW p n + p n * B64 ^ n
def upd (p : Nat → Nat) (i x : Nat) : Nat → Nat := fun k => if k = i then x else p k
theorem valW_same (p q : Nat → Nat) : ∀ n, (∀ k, k < n → p k = q k) → valW p n = valW q n
  | 0, _ => rfl
  | n + 1, h => by rw [valW, valW, valW_same p q n (fun k hk => h k (by omega)), h n (by omega)]
theorem valW_upd (p : Nat → Nat) (i x : Nat) : ∀ n, i < n → valW (upd p i x) n + p i * B64 ^ i = valW p n + x * B64 ^ i
  | 0, h => by omega
  | n + 1, h => by
    rw [valW, valW]
    by_cases e : i = n
    · subst e
      rw [valW_same (upd p i x) p i (fun k hk => by unfold upd; rw [if_neg (by omega)])]
      have : upd p i x i = x := by unfold upd; rw [if_pos rfl]
      rw [this]
      omega
    · have h1 := valW_upd p i x n (by omega)
      have : upd p i x n = p n := by unfold upd; rw [if_neg (by omega)]
      rw [this]
      omega
theorem valW_lt (p : Nat → Nat) (h : ∀ k, p k < B64) : ∀ n, valW p n < B64 ^ n
  | 0 => by simp [valW]
  | n + 1 => by
    have h1 := valW_lt p h n
    have h2 := h n
    have h3 : (p n + 1) * B64 ^ n ≤ B64 * B64 ^ n := Nat.mul_le_mul_right _ h2
    rw [valW, Nat.pow_succ, Nat.mul_comm (B64 ^ n)]
    rw [Nat.add_mul, Nat.one_mul] at h3
    omega
theorem wd_valW (p : Nat → Nat) (h : ∀ k, p k < B64) (i : Nat) : ∀ n, i < n → wd (valW p n) i = p i
  | 0, hi => by omega
  | n + 1, hi => by
    unfold wd
    rw [valW]
    by_cases e : i = n
    · subst e
      rw [Nat.add_mul_div_right _ _ (Nat.pow_pos B64_pos), Nat.div_eq_of_lt (valW_lt p h i), Nat.zero_add, Nat.mod_eq_of_lt (h i)]
    · have ih := wd_valW p h i n (by omega)
      unfold wd at ih
      obtain ⟨d, rfl⟩ : ∃ d, n = i + 1 + d := ⟨n - i - 1, by omega⟩
      have e2 : p (i + 1 + d) * B64 ^ (i + 1 + d) = p (i + 1 + d) * B64 ^ d * B64 * B64 ^ i := by
        rw [show i + 1 + d = d + 1 + i by omega, Nat.pow_add, Nat.pow_succ, Nat.mul_assoc, Nat.mul_assoc, Nat.mul_assoc]
      rw [e2, Nat.add_mul_div_right _ _ (Nat.pow_pos B64_pos), Nat.add_mul_mod_self_right, ih]
theorem mod_step (a i : Nat) : a % B64 ^ (i + 1) = a % B64 ^ i + wd a i * B64 ^ i := by
  unfold wd
  rw [Nat.pow_succ, Nat.mod_mul]
  rw [Nat.mul_comm (B64 ^ i) (a / B64 ^ i % B64)]
theorem wd_mod (a i n : Nat) (h : i < n) : wd (a % B64 ^ n) i = wd a i := by
  obtain ⟨d, rfl⟩ : ∃ d, n = i + 1 + d := ⟨n - i - 1, by omega⟩
  unfold wd
  have hd := Nat.div_add_mod a (B64 ^ (i + 1 + d))
  generalize a % B64 ^ (i + 1 + d) = r at hd ⊢
  generalize a / B64 ^ (i + 1 + d) = q at hd
  rw [← hd]
  have e2 : B64 ^ (i + 1 + d) * q = q * B64 ^ d * B64 * B64 ^ i := by
    rw [show i + 1 + d = d + 1 + i by omega, Nat.pow_add, Nat.pow_succ, Nat.mul_comm, Nat.mul_assoc, Nat.mul_assoc, Nat.mul_assoc]
  rw [e2, Nat.add_comm, Nat.add_mul_div_right _ _ (Nat.pow_pos B64_pos), Nat.add_mul_mod_self_right]
theorem wd_div (a i n : Nat) : wd (a / B64 ^ n) i = wd a (n + i) := by
  unfold wd
  rw [Nat.div_div_eq_div_mul, ← Nat.pow_add]
/-- One step of a product: what stands at a place, what is carried. -/
theorem mul_step (x y p c : Nat) (hx : x < 18446744073709551616) (hy : y < 18446744073709551616) (hp : p < 18446744073709551616) (hc : c < 18446744073709551616) :
    ∃ h l o1 s1 o2 s2, x * y / 18446744073709551616 = h ∧ x * y % 18446744073709551616 = l ∧ (l + p + 0) % 18446744073709551616 = s1 ∧ (l + p + 0) / 18446744073709551616 = o1 ∧ (s1 + c + 0) % 18446744073709551616 = s2 ∧ (s1 + c + 0) / 18446744073709551616 = o2 ∧
      h + o1 < 18446744073709551616 ∧ h + o1 + o2 < 18446744073709551616 ∧ s2 < 18446744073709551616 ∧ l < 18446744073709551616 ∧ s1 < 18446744073709551616 ∧ o1 ≤ 1 ∧ o2 ≤ 1 ∧ s2 + (h + o1 + o2) * B64 = p + c + x * y := by
  have hm : x * y ≤ 18446744073709551615 * 18446744073709551615 := Nat.mul_le_mul (by omega) (by omega)
  refine ⟨_, _, _, _, _, _, rfl, rfl, rfl, rfl, rfl, rfl, ?_⟩
  generalize x * y = M at *
  unfold B64
  omega
/-- The value behind one step. -/
theorem val_step (p : Nat → Nat) (n k x : Nat) (hk : k < n) (V : Nat) (c C s : Nat) (y b i j : Nat) (hkj : k = i + j)
    (hV : valW p n + c * B64 ^ k = V + x * (b % B64 ^ j) * B64 ^ i) (he : s + C * B64 = p k + c + x * y) (hy : y = wd b j) :
    valW (upd p k s) n + C * B64 ^ (k + 1) = V + x * (b % B64 ^ (j + 1)) * B64 ^ i := by
  have hu := valW_upd p k s n hk
  have hm := mod_step b j
  rw [← hy] at hm
  have h1 : s * B64 ^ k + C * B64 ^ (k + 1) = p k * B64 ^ k + c * B64 ^ k + x * y * B64 ^ k := by
    have := congrArg (· * B64 ^ k) he
    simp only [Nat.add_mul] at this
    rw [Nat.pow_succ, Nat.mul_comm (B64 ^ k) B64, ← Nat.mul_assoc]
    exact this
  have h2 : x * (b % B64 ^ (j + 1)) * B64 ^ i = x * (b % B64 ^ j) * B64 ^ i + x * y * B64 ^ k := by
    rw [hm, Nat.mul_add, Nat.add_mul, hkj, Nat.pow_add]
    congr 1
    rw [Nat.mul_comm (B64 ^ i) (B64 ^ j), ← Nat.mul_assoc, ← Nat.mul_assoc]
  rw [h2]
  omega
/-- Behind a row of steps. -/
theorem val_row (p : Nat → Nat) (n i c a b : Nat) (hi : i + 4 < n) (hb : b < B64 ^ 4) (hz : p (i + 4) = 0)
    (hV : valW p n + c * B64 ^ (i + 4) = (a % B64 ^ i) * b + wd a i * (b % B64 ^ 4) * B64 ^ i) : valW (upd p (i + 4) c) n = (a % B64 ^ (i + 1)) * b := by
  have hu := valW_upd p (i + 4) c n hi
  rw [hz, Nat.zero_mul, Nat.add_zero] at hu
  rw [hu, hV, Nat.mod_eq_of_lt hb, mod_step a i, Nat.add_mul]
  congr 1
  rw [Nat.mul_assoc, Nat.mul_comm b, Nat.mul_assoc]
def rowP (p : Nat → Nat) : List Value := (List.range 8).map fun k => .int .u64 (p k : Int)
theorem rowP_get (p : Nat → Nat) (k : Nat) (h : k < 8) : (rowP p)[k]? = some (.int .u64 (p k : Int)) := by
  unfold rowP
  rw [List.getElem?_map, List.getElem?_range h]
  rfl
theorem rowP_set (p : Nat → Nat) (i x : Nat) : (rowP p).set i (.int .u64 (x : Int)) = rowP (upd p i x) := by
  unfold rowP
  refine List.ext_getElem (by simp) fun k h1 h2 => ?_
  rw [List.getElem_set]
  simp only [List.getElem_map, List.getElem_range]
  unfold upd
  by_cases e : i = k
  · rw [if_pos e, if_pos e.symm]
  · rw [if_neg e, if_neg (fun h => e h.symm)]
end Go.Proofs.Ythdbadomppohbaa
