/- Numbers by limbs of 16 bits: digits, sums, differences, products; no program in it but the last lines: what a slice of limbs holds. -/
import Derived.Test.YthdbadomppohbaaWidB
namespace Go.Proofs.Ythdbadomppohbaa
set_option maxRecDepth 20000
set_option linter.unusedSimpArgs false
set_option linter.unusedVariables false
open Go.RowKit
/-- Limb i of a number: 16 bits. -/
def dg (n i : Nat) : Nat := n / 65536 ^ i % 65536
theorem dg_lt (n i : Nat) : dg n i < 65536 := Nat.mod_lt _ (by decide)
theorem p16_pos (i : Nat) : 0 < 65536 ^ i := Nat.pow_pos (by decide)
theorem dg_out {n len i : Nat} (h : n < 65536 ^ len) (hi : len ≤ i) : dg n i = 0 := by
  unfold dg
  have : n < 65536 ^ i := Nat.lt_of_lt_of_le h (Nat.pow_le_pow_right (by decide) hi)
  rw [Nat.div_eq_of_lt this]
theorem dg_step (n i : Nat) : n / 65536 ^ i = n / 65536 ^ (i + 1) * 65536 + dg n i := by
  unfold dg
  rw [Nat.pow_succ, ← Nat.div_div_eq_div_mul]
  omega
theorem mod_dg (n i : Nat) : n % 65536 ^ (i + 1) = n % 65536 ^ i + dg n i * 65536 ^ i := by
  unfold dg
  rw [Nat.pow_succ, Nat.mod_mul, Nat.mul_comm (65536 ^ i)]
theorem add_div_any (a b P : Nat) (hP : 0 < P) : (a + b) / P = a / P + b / P + (a % P + b % P) / P := by
  have h : a + b = (a % P + b % P) + P * (a / P + b / P) := by
    have h1 := Nat.div_add_mod a P
    have h2 := Nat.div_add_mod b P
    rw [Nat.mul_add]
    omega
  rw [h, Nat.add_mul_div_left _ _ hP]
  have h3 : ((a % P + b % P) + P * (a / P + b / P)) = a + b := h.symm
  omega
/-- What a sum carries onto place i. -/
def ov (a b i : Nat) : Nat := (a % 65536 ^ i + b % 65536 ^ i) / 65536 ^ i
theorem ov_0 (a b : Nat) : ov a b 0 = 0 := by simp [ov, Nat.mod_one]
theorem ov_le (a b i : Nat) : ov a b i ≤ 1 := by
  unfold ov
  have h1 := Nat.mod_lt a (p16_pos i)
  have h2 := Nat.mod_lt b (p16_pos i)
  have : (a % 65536 ^ i + b % 65536 ^ i) / 65536 ^ i < 2 := by
    rw [Nat.div_lt_iff_lt_mul (p16_pos i)]; omega
  omega
theorem add_dg (a b i : Nat) : dg (a + b) i = (dg a i + dg b i + ov a b i) % 65536 := by
  unfold dg ov
  rw [add_div_any a b _ (p16_pos i)]
  omega
theorem add_ov (a b i : Nat) : ov a b (i + 1) = (dg a i + dg b i + ov a b i) / 65536 := by
  unfold ov
  rw [mod_dg a i, mod_dg b i, Nat.pow_succ, ← Nat.div_div_eq_div_mul]
  congr 1
  have h : a % 65536 ^ i + dg a i * 65536 ^ i + (b % 65536 ^ i + dg b i * 65536 ^ i) = (a % 65536 ^ i + b % 65536 ^ i) + (dg a i + dg b i) * 65536 ^ i := by
    rw [Nat.add_mul]; omega
  rw [h, Nat.add_mul_div_right _ _ (p16_pos i)]
  omega
/-- What a difference takes off at place i. -/
def br (a b i : Nat) : Nat := if a % 65536 ^ i < b % 65536 ^ i then 1 else 0
theorem br_0 (a b : Nat) : br a b 0 = 0 := by simp [br, Nat.mod_one]
theorem br_le (a b i : Nat) : br a b i ≤ 1 := by unfold br; split <;> omega
theorem sub_div_any (a b P : Nat) (hP : 0 < P) (h : b ≤ a) : (a - b) / P + b / P + (if a % P < b % P then 1 else 0) = a / P := by
  have h1 := Nat.div_add_mod a P
  have h2 := Nat.div_add_mod b P
  have h3 := Nat.mod_lt a hP
  have h4 := Nat.mod_lt b hP
  have e : a = b + (a - b) := by omega
  have h5 := add_div_any b (a - b) P hP
  rw [← e] at h5
  have h6 := Nat.div_add_mod (a - b) P
  have h7 := Nat.mod_lt (a - b) hP
  generalize (a - b) % P = r at *
  generalize (a - b) / P = q at *
  have h8 : (b % P + r) / P = if a % P < b % P then 1 else 0 := by
    have h9 : (b % P + r) / P < 2 := by rw [Nat.div_lt_iff_lt_mul hP]; omega
    have h10 : a % P = (b % P + r) % P := by
      have : a = (b % P + r) + P * (b / P + q) := by rw [Nat.mul_add]; omega
      rw [this, Nat.add_mul_mod_self_left]
    have h11 := Nat.div_add_mod (b % P + r) P
    generalize (b % P + r) / P = d at *
    rw [h10]
    have : d = 0 ∨ d = 1 := by omega
    rcases this with rfl | rfl
    · rw [if_neg (by omega)]
    · rw [if_pos (by omega)]
  omega
theorem sub_dg (a b i : Nat) (h : b ≤ a) : dg (a - b) i = (65536 + dg a i - dg b i - br a b i) % 65536 := by
  have h1 : (a - b) / 65536 ^ i + b / 65536 ^ i + br a b i = a / 65536 ^ i := sub_div_any a b _ (p16_pos i) h
  have h2 := br_le a b i
  unfold dg
  generalize br a b i = t at *
  omega
theorem sub_br (a b i : Nat) : br a b (i + 1) = 1 - (65536 + dg a i - dg b i - br a b i) / 65536 := by
  have ha := mod_dg a i
  have hb := mod_dg b i
  have h1 := Nat.mod_lt a (p16_pos i)
  have h2 := Nat.mod_lt b (p16_pos i)
  have h3 := dg_lt a i
  have h4 := dg_lt b i
  unfold br
  rw [ha, hb]
  generalize a % 65536 ^ i = x at *
  generalize b % 65536 ^ i = y at *
  generalize dg a i = u at *
  generalize dg b i = v at *
  generalize 65536 ^ i = P at *
  have hlt : x + u * P < y + v * P ↔ u < v ∨ (u = v ∧ x < y) := by
    constructor
    · intro hh
      rcases Nat.lt_trichotomy u v with g | g | g
      · exact .inl g
      · subst g; exact .inr ⟨rfl, by omega⟩
      · have : (v + 1) * P ≤ u * P := Nat.mul_le_mul_right _ g
        rw [Nat.add_mul] at this
        omega
    · rintro (g | ⟨rfl, g⟩)
      · have : (u + 1) * P ≤ v * P := Nat.mul_le_mul_right _ g
        rw [Nat.add_mul] at this
        omega
      · omega
  by_cases g : x + u * P < y + v * P
  · rw [if_pos g]
    rw [hlt] at g
    split <;> omega
  · rw [if_neg g]
    rw [hlt] at g
    split <;> omega
/-- The bit that stands for 2^i, out of its limb. -/
theorem dg_bit (n i : Nat) : dg n (i / 16) / 2 ^ (i % 16) % 2 = n / 2 ^ i % 2 := by
  unfold dg
  have h0 : ∀ m r : Nat, r < 16 → m % 65536 / 2 ^ r % 2 = m / 2 ^ r % 2 := fun m r hr => by
    have h1 := Nat.testBit_mod_two_pow m 16 r
    rw [Nat.testBit_eq_decide_div_mod_eq, Nat.testBit_eq_decide_div_mod_eq, decide_eq_true hr, Bool.true_and, decide_eq_decide, show (2 : Nat) ^ 16 = 65536 from rfl] at h1
    have h2 : m % 65536 / 2 ^ r % 2 < 2 := Nat.mod_lt _ (by decide)
    have h3 : m / 2 ^ r % 2 < 2 := Nat.mod_lt _ (by decide)
    omega
  rw [h0 _ _ (Nat.mod_lt _ (by decide)), Nat.div_div_eq_div_mul]
  have : 65536 ^ (i / 16) * 2 ^ (i % 16) = 2 ^ i := by
    rw [show 65536 = 2 ^ 16 from rfl, ← Nat.pow_mul, ← Nat.pow_add, Nat.div_add_mod]
  rw [this]
/-- Two numbers whose limbs are the same from a place on. -/
theorem dg_less (a b c : Nat) (h : a / 65536 ^ (c + 1) = b / 65536 ^ (c + 1)) (hw : dg a c < dg b c) : a < b := by
  apply Nat.lt_of_not_le
  intro hle
  have h1 : b / 65536 ^ c ≤ a / 65536 ^ c := Nat.div_le_div_right hle
  rw [dg_step a c, dg_step b c, h] at h1
  omega
theorem dg_same (a b c : Nat) (h : a / 65536 ^ (c + 1) = b / 65536 ^ (c + 1)) (hw : dg a c = dg b c) : a / 65536 ^ c = b / 65536 ^ c := by
  rw [dg_step a c, dg_step b c, h, hw]
/-- Digits of c bits into words of 64. -/
theorem or_high (y d s : Nat) (hy : y < 2 ^ s) : y ||| d <<< s = y + d * 2 ^ s := by
  rw [Nat.or_comm, ← Nat.shiftLeft_add_eq_or_of_lt hy, Nat.shiftLeft_eq, Nat.add_comm]
theorem pow_parts (c q i : Nat) (hc : c * q = 64) : (2 ^ c) ^ i = B64 ^ (i / q) * 2 ^ (c * (i % q)) := by
  have : c * i = 64 * (i / q) + c * (i % q) := by
    have h := Nat.div_add_mod i q
    have h2 : c * i = c * (q * (i / q) + i % q) := by rw [h]
    rw [h2, Nat.mul_add, ← Nat.mul_assoc, hc]
  rw [show B64 = 2 ^ 64 from rfl, ← Nat.pow_mul, ← Nat.pow_mul, ← Nat.pow_add, this]
/-- What a word turns to when one digit more comes in. -/
theorem digit_in (x c q i : Nat) (hc : c * q = 64) (hq : 0 < q) : 
    wd (x % (2 ^ c) ^ (i + 1)) (i / q) = wd (x % (2 ^ c) ^ i) (i / q) ||| (x / (2 ^ c) ^ i % 2 ^ c) <<< (c * (i % q)) ∧
    (x / (2 ^ c) ^ i % 2 ^ c) * 2 ^ (c * (i % q)) < B64 ∧
    ∀ j, j ≠ i / q → wd (x % (2 ^ c) ^ (i + 1)) j = wd (x % (2 ^ c) ^ i) j := by
  have hD : 0 < (2 ^ c) ^ i := Nat.pow_pos (Nat.pow_pos (by decide))
  have hm : x % (2 ^ c) ^ (i + 1) = x % (2 ^ c) ^ i + (x / (2 ^ c) ^ i % 2 ^ c) * (2 ^ c) ^ i := by
    rw [Nat.pow_succ, Nat.mod_mul, Nat.mul_comm ((2 ^ c) ^ i)]
  have hp := pow_parts c q i hc
  have hy := Nat.mod_lt x hD
  have hd : x / (2 ^ c) ^ i % 2 ^ c < 2 ^ c := Nat.mod_lt _ (Nat.pow_pos (by decide))
  have hr : i % q < q := Nat.mod_lt _ hq
  have hs : 2 ^ c * 2 ^ (c * (i % q)) ≤ B64 := by
    rw [← Nat.pow_add, show B64 = 2 ^ 64 from rfl]
    refine Nat.pow_le_pow_right (by decide) ?_
    have : c * (i % q + 1) ≤ c * q := Nat.mul_le_mul_left _ (by omega)
    rw [Nat.mul_add] at this
    omega
  have hds : (x / (2 ^ c) ^ i % 2 ^ c) * 2 ^ (c * (i % q)) + 2 ^ (c * (i % q)) ≤ B64 := by
    have : (x / (2 ^ c) ^ i % 2 ^ c + 1) * 2 ^ (c * (i % q)) ≤ 2 ^ c * 2 ^ (c * (i % q)) := Nat.mul_le_mul_right _ hd
    rw [Nat.add_mul] at this
    omega
  rw [hm]
  generalize x % (2 ^ c) ^ i = y at *
  generalize x / (2 ^ c) ^ i % 2 ^ c = d at *
  rw [hp] at hy ⊢
  generalize i / q = J at *
  generalize c * (i % q) = s at *
  clear hm hp hD
  have hBJ : 0 < B64 ^ J := Nat.pow_pos B64_pos
  have hs0 : 0 < 2 ^ s := Nat.pow_pos (by decide)
  have hyJ : y / B64 ^ J < 2 ^ s := by rw [Nat.div_lt_iff_lt_mul hBJ, Nat.mul_comm]; exact hy
  have e1 : d * (B64 ^ J * 2 ^ s) = d * 2 ^ s * B64 ^ J := by rw [Nat.mul_comm (B64 ^ J), Nat.mul_assoc]
  refine ⟨?_, by omega, fun j hj => ?_⟩
  · unfold wd
    rw [e1, Nat.add_mul_div_right _ _ hBJ, Nat.mod_eq_of_lt (show y / B64 ^ J < B64 by omega), or_high _ _ _ hyJ]
    exact Nat.mod_eq_of_lt (by omega)
  · unfold wd
    rcases Nat.lt_or_gt_of_ne hj with h | h
    · obtain ⟨k, rfl⟩ : ∃ k, J = j + 1 + k := ⟨J - j - 1, by omega⟩
      have e2 : d * 2 ^ s * B64 ^ (j + 1 + k) = d * 2 ^ s * B64 ^ k * B64 * B64 ^ j := by
        rw [show j + 1 + k = k + 1 + j by omega, Nat.pow_add, Nat.pow_succ]
        simp only [Nat.mul_assoc]
      rw [e1, e2, Nat.add_mul_div_right _ _ (Nat.pow_pos B64_pos), Nat.add_mul_mod_self_right]
    · have hz : ∀ z, z < B64 ^ (J + 1) → z / B64 ^ j % B64 = 0 := fun z hz => by
        rw [Nat.div_eq_of_lt (Nat.lt_of_lt_of_le hz (Nat.pow_le_pow_right B64_pos h))]
        exact Nat.zero_mod _
      rw [hz, hz]
      · rw [Nat.pow_succ]
        exact Nat.lt_of_lt_of_le hy (Nat.mul_le_mul_left _ (by omega))
      · rw [e1, Nat.pow_succ]
        have h1 : y < 2 ^ s * B64 ^ J := by rw [Nat.mul_comm]; exact hy
        have h2 : (d * 2 ^ s + 2 ^ s) * B64 ^ J ≤ B64 * B64 ^ J := Nat.mul_le_mul_right _ hds
        rw [Nat.add_mul, Nat.mul_comm B64] at h2
        omega
def H16 : Nat := 65536
def hd (n i : Nat) : Nat := n / H16 ^ i % H16
theorem hd_dg (n i : Nat) : hd n i = dg n i := rfl
def valH (p : Nat → Nat) : Nat → Nat
  | 0 => 0
  | n + 1 => valH p n + p n * H16 ^ n
theorem valH_same (p q : Nat → Nat) : ∀ n, (∀ k, k < n → p k = q k) → valH p n = valH q n
  | 0, _ => rfl
  | n + 1, h => by rw [valH, valH, valH_same p q n (fun k hk => h k (by omega)), h n (by omega)]
theorem valH_upd (p : Nat → Nat) (i x : Nat) : ∀ n, i < n → valH (upd p i x) n + p i * H16 ^ i = valH p n + x * H16 ^ i
  | 0, h => by omega
  | n + 1, h => by
    rw [valH, valH]
    by_cases e : i = n
    · subst e
      rw [valH_same (upd p i x) p i (fun k hk => by unfold upd; rw [if_neg (by omega)])]
      have : upd p i x i = x := by unfold upd; rw [if_pos rfl]
      rw [this]
      omega
    · have h1 := valH_upd p i x n (by omega)
      have : upd p i x n = p n := by unfold upd; rw [if_neg (by omega)]
      rw [this]
      omega
theorem valH_lt (p : Nat → Nat) (h : ∀ k, p k < H16) : ∀ n, valH p n < H16 ^ n
  | 0 => by simp [valH]
  | n + 1 => by
    have h1 := valH_lt p h n
    have h2 := h n
    have h3 : (p n + 1) * H16 ^ n ≤ H16 * H16 ^ n := Nat.mul_le_mul_right _ h2
    rw [valH, Nat.pow_succ, Nat.mul_comm (H16 ^ n)]
    rw [Nat.add_mul, Nat.one_mul] at h3
    omega
theorem hd_valH (p : Nat → Nat) (h : ∀ k, p k < H16) (i : Nat) : ∀ n, i < n → hd (valH p n) i = p i
  | 0, hi => by omega
  | n + 1, hi => by
    unfold hd
    rw [valH]
    by_cases e : i = n
    · subst e
      rw [Nat.add_mul_div_right _ _ (Nat.pow_pos (by decide : 0 < H16)), Nat.div_eq_of_lt (valH_lt p h i), Nat.zero_add, Nat.mod_eq_of_lt (h i)]
    · have ih := hd_valH p h i n (by omega)
      unfold hd at ih
      obtain ⟨d, rfl⟩ : ∃ d, n = i + 1 + d := ⟨n - i - 1, by omega⟩
      have e2 : p (i + 1 + d) * H16 ^ (i + 1 + d) = p (i + 1 + d) * H16 ^ d * H16 * H16 ^ i := by
        rw [show i + 1 + d = d + 1 + i by omega, Nat.pow_add, Nat.pow_succ, Nat.mul_assoc, Nat.mul_assoc, Nat.mul_assoc]
      rw [e2, Nat.add_mul_div_right _ _ (Nat.pow_pos (by decide : 0 < H16)), Nat.add_mul_mod_self_right, ih]
theorem hmod_step (a i : Nat) : a % H16 ^ (i + 1) = a % H16 ^ i + hd a i * H16 ^ i := by
  unfold hd
  rw [Nat.pow_succ, Nat.mod_mul]
  rw [Nat.mul_comm (H16 ^ i) (a / H16 ^ i % H16)]
theorem hd_mod (a i n : Nat) (h : i < n) : hd (a % H16 ^ n) i = hd a i := by
  obtain ⟨d, rfl⟩ : ∃ d, n = i + 1 + d := ⟨n - i - 1, by omega⟩
  unfold hd
  have hd := Nat.div_add_mod a (H16 ^ (i + 1 + d))
  generalize a % H16 ^ (i + 1 + d) = r at hd ⊢
  generalize a / H16 ^ (i + 1 + d) = q at hd
  rw [← hd]
  have e2 : H16 ^ (i + 1 + d) * q = q * H16 ^ d * H16 * H16 ^ i := by
    rw [show i + 1 + d = d + 1 + i by omega, Nat.pow_add, Nat.pow_succ, Nat.mul_comm, Nat.mul_assoc, Nat.mul_assoc, Nat.mul_assoc]
  rw [e2, Nat.add_comm, Nat.add_mul_div_right _ _ (Nat.pow_pos (by decide : 0 < H16)), Nat.add_mul_mod_self_right]
theorem hd_div (a i n : Nat) : hd (a / H16 ^ n) i = hd a (n + i) := by
  unfold hd
  rw [Nat.div_div_eq_div_mul, ← Nat.pow_add]
/-- The value behind one step. -/
theorem valH_step (p : Nat → Nat) (n k x : Nat) (hk : k < n) (V : Nat) (c C s : Nat) (y b i j : Nat) (hkj : k = i + j)
    (hV : valH p n + c * H16 ^ k = V + x * (b % H16 ^ j) * H16 ^ i) (he : s + C * H16 = p k + c + x * y) (hy : y = hd b j) :
    valH (upd p k s) n + C * H16 ^ (k + 1) = V + x * (b % H16 ^ (j + 1)) * H16 ^ i := by
  have hu := valH_upd p k s n hk
  have hm := hmod_step b j
  rw [← hy] at hm
  have h1 : s * H16 ^ k + C * H16 ^ (k + 1) = p k * H16 ^ k + c * H16 ^ k + x * y * H16 ^ k := by
    have := congrArg (· * H16 ^ k) he
    simp only [Nat.add_mul] at this
    rw [Nat.pow_succ, Nat.mul_comm (H16 ^ k) H16, ← Nat.mul_assoc]
    exact this
  have h2 : x * (b % H16 ^ (j + 1)) * H16 ^ i = x * (b % H16 ^ j) * H16 ^ i + x * y * H16 ^ k := by
    rw [hm, Nat.mul_add, Nat.add_mul, hkj, Nat.pow_add]
    congr 1
    rw [Nat.mul_comm (H16 ^ i) (H16 ^ j), ← Nat.mul_assoc, ← Nat.mul_assoc]
  rw [h2]
  omega

/-- One step of a product of limbs. -/
theorem mulH_step (x y p c : Nat) (hx : x < 65536) (hy : y < 65536) (hp : p < 65536) (hc : c < 65536) :
    p + x * y + c < 18446744073709551616 ∧ x * y < 18446744073709551616 ∧ p + x * y < 18446744073709551616 ∧ (p + x * y + c) % 65536 < 65536 ∧ (p + x * y + c) / 65536 < 65536 ∧ (p + x * y + c) % 65536 + (p + x * y + c) / 65536 * H16 = p + c + x * y := by
  have hm : x * y ≤ 65535 * 65535 := Nat.mul_le_mul (by omega) (by omega)
  generalize x * y = M at *
  unfold H16
  omega
theorem valH_row (p : Nat → Nat) (n i c a b lb : Nat) (hi : i + lb < n) (hb : b < H16 ^ lb) (hz : p (i + lb) = 0)
    (hV : valH p n + c * H16 ^ (i + lb) = (a % H16 ^ i) * b + hd a i * (b % H16 ^ lb) * H16 ^ i) : valH (upd p (i + lb) c) n = (a % H16 ^ (i + 1)) * b := by
  have hu := valH_upd p (i + lb) c n hi
  rw [hz, Nat.zero_mul, Nat.add_zero] at hu
  rw [hu, hV, Nat.mod_eq_of_lt hb, hmod_step a i, Nat.add_mul]
  congr 1
  rw [Nat.mul_assoc, Nat.mul_comm b, Nat.mul_assoc]
theorem valH_dg (p : Nat → Nat) (n : Nat) (h : ∀ k, p k < H16) (k : Nat) (hk : k < n) : dg (valH p n) k = p k := hd_valH p h k n hk

/-- A row of limbs in memory. -/
def rowH (p : Nat → Nat) (N : Nat) : List Value := (List.range N).map fun k => .int .u64 (p k : Int)
theorem rowH_get (p : Nat → Nat) (N k : Nat) (h : k < N) : (rowH p N)[k]? = some (.int .u64 (p k : Int)) := by
  unfold rowH
  rw [List.getElem?_map, List.getElem?_range h]
  rfl
theorem rowH_set (p : Nat → Nat) (N i x : Nat) : (rowH p N).set i (.int .u64 (x : Int)) = rowH (upd p i x) N := by
  unfold rowH
  refine List.ext_getElem (by simp) fun j h1 h2 => ?_
  rw [List.getElem_set]
  simp only [List.getElem_map, List.getElem_range]
  unfold upd
  by_cases e : i = j
  · rw [if_pos e, if_pos e.symm]
  · rw [if_neg e, if_neg (fun h => e h.symm)]
theorem rowH_len (p : Nat → Nat) (N : Nat) : (rowH p N).length = N := by unfold rowH; simp
theorem rowH_made (n : Nat) : madeCells #[.int .u64 0] n = (rowH (fun _ => 0) n).toArray := by
  apply Array.ext
  · rw [size_madeCells]; simp [rowH_len]
  · intro i h1 h2
    have hi : i < n := by simpa [size_madeCells] using h1
    simp [madeCells, rowH, Nat.mod_one]
/-- A slice that holds a number's limbs, the lowest one first. -/
def IsN (w : World) (a : Option Addr) (len cap n : Nat) : Prop :=
  n < 65536 ^ len ∧ len ≤ 200 ∧ (len = 0 ∨ ∃ b, a = some ⟨b, 0, none⟩ ∧ len ≤ cap ∧ b < w.heap.size ∧ ∀ i, i < len → w.cell? ⟨b, i, none⟩ = some (.int .u64 (dg n i : Int)))
theorem IsN_below {w w' : World} {a : Option Addr} {len cap n : Nat} (h : IsN w a len cap n) (hb : Below w.heap.size w w') : IsN w' a len cap n := by
  obtain ⟨h1, h2, h3 | ⟨b, rfl, h4, h5, h6⟩⟩ := h
  · exact ⟨h1, h2, .inl h3⟩
  · exact ⟨h1, h2, .inr ⟨b, rfl, h4, by have := hb.size; omega, fun i hi => (hb.cell (p := ⟨b, i, none⟩) h5).trans (h6 i hi)⟩⟩
theorem IsN_row {w : World} {b N cap n : Nat} {p : Nat → Nat} {t : TypeId} (h : w.heap[b]? = some (.cells (rowH p N).toArray t (0, 0))) (hb : b < w.heap.size) (hn : n < 65536 ^ N) (hN : N ≤ 200) (hc : N ≤ cap) (hp : ∀ k, k < N → p k = dg n k) : IsN w (some ⟨b, 0, none⟩) N cap n :=
  ⟨hn, hN, .inr ⟨b, rfl, hc, hb, fun i hi => by rw [← hp i hi]; exact (arr_get h (rowH_get p N i hi)).1⟩⟩
theorem IsN_nil (w : World) : IsN w none 0 0 0 := ⟨by decide, by omega, .inl rfl⟩
/-- Less places, where the number is small enough. -/
theorem IsN_cut {w : World} {a : Option Addr} {len cap n : Nat} (h : IsN w a len cap n) (l : Nat) (hl : l ≤ len) (hn : n < 65536 ^ l) : IsN w a l cap n := by
  obtain ⟨h1, h2, h3 | ⟨b, rfl, h4, h5, h6⟩⟩ := h
  · exact ⟨hn, by omega, .inl (by omega)⟩
  · exact ⟨hn, by omega, .inr ⟨b, rfl, by omega, h5, fun i hi => h6 i (by omega)⟩⟩
end Go.Proofs.Ythdbadomppohbaa
