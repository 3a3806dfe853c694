/- The number 2^255 - 19 is prime: by orders of numbers (Lucas), the factors' own primes likewise. No program in it. -/
import Derived.Test.YthdbadomppohbaaAid
namespace Go.Proofs.Ythdbadomppohbaa
set_option maxRecDepth 20000
set_option linter.unusedSimpArgs false
set_option linter.unusedVariables false
def PrimeN (q : Nat) : Prop := 2 ≤ q ∧ ∀ a b, q ∣ a * b → q ∣ a ∨ q ∣ b
/-- Powers, from the lowest bit on. -/
def pm (n : Nat) : Nat → Nat → Nat → Nat → Nat
  | 0, _, _, acc => acc
  | f + 1, e, b, acc => pm n f (e / 2) (b * b % n) (bif Nat.beq (e % 2) 1 then acc * b % n else acc)
theorem pow_half (b e : Nat) : b ^ e = (b * b) ^ (e / 2) * b ^ (e % 2) := by
  rw [← Nat.pow_two, ← Nat.pow_mul, ← Nat.pow_add, Nat.div_add_mod]
theorem pm_eq (n : Nat) : ∀ f e b acc, e < 2 ^ f → pm n f e b acc % n = acc * b ^ e % n
  | 0, e, b, acc, h => by
    have h0 : e = 0 := by simp at h; omega
    subst h0
    simp [pm]
  | f + 1, e, b, acc, h => by
    have h2 : e / 2 < 2 ^ f := by rw [Nat.pow_succ] at h; omega
    unfold pm
    rw [pm_eq n f _ _ _ h2, pow_half b e, Nat.mul_mod, Nat.pow_mod, Nat.mod_mod, ← Nat.pow_mod]
    by_cases hb : e % 2 = 1
    · rw [hb]
      show ((acc * b % n) % n * ((b * b) ^ (e / 2) % n)) % n = _
      rw [Nat.mod_mod, ← Nat.mul_mod, Nat.pow_one]
      congr 1
      rw [Nat.mul_assoc, Nat.mul_comm b]
    · have h0 : e % 2 = 0 := by omega
      rw [h0]
      show (acc % n * ((b * b) ^ (e / 2) % n)) % n = _
      rw [← Nat.mul_mod, Nat.pow_zero, Nat.mul_one]
theorem prod_euclid : ∀ (L : List Nat), (∀ q ∈ L, PrimeN q) → ∀ k o, k * o = L.prod → (∀ q ∈ L, ¬ q ∣ k) → k = 1
  | [], _, k, o, h, _ => by
    have h1 : k * o = 1 := by simpa using h
    exact Nat.dvd_one.1 ⟨o, h1.symm⟩
  | q :: L, hp, k, o, h, hn => by
    rw [List.prod_cons] at h
    have hq := hp q (List.mem_cons_self)
    have hd : q ∣ k * o := ⟨L.prod, h⟩
    rcases hq.2 k o hd with h1 | h1
    · exact absurd h1 (hn q List.mem_cons_self)
    · obtain ⟨o', rfl⟩ := h1
      refine prod_euclid L (fun x hx => hp x (List.mem_cons_of_mem _ hx)) k o' ?_ fun x hx => hn x (List.mem_cons_of_mem _ hx)
      have h2 : q * (k * o') = q * L.prod := by rw [← h, ← Nat.mul_assoc, ← Nat.mul_assoc, Nat.mul_comm q k]
      exact Nat.eq_of_mul_eq_mul_left (by have := hq.1; omega) h2
/-- What goes from below m to below m, no two to one, meets each. -/
theorem pigeons : ∀ (m : Nat) (f : Nat → Nat), (∀ i, i < m → f i < m) → (∀ i j, i < m → j < m → f i = f j → i = j) → ∀ y, y < m → ∃ i, i < m ∧ f i = y
  | 0, _, _, _, _, hy => absurd hy (by omega)
  | m + 1, f, hf, hi, y, hy => by
    have IH := pigeons m (fun i => if f i = m then f m else f i) (fun i h => by
      show (if f i = m then f m else f i) < m
      have h1 := hf i (by omega)
      have h2 := hf m (by omega)
      by_cases h : f i = m
      · rw [if_pos h]
        have : f m ≠ m := fun e => by have := hi i m (by omega) (by omega) (by rw [h, e]); omega
        omega
      · rw [if_neg h]
        omega) (fun i j h1 h2 h3 => by
      replace h3 : (if f i = m then f m else f i) = (if f j = m then f m else f j) := h3
      by_cases a : f i = m
      · by_cases b : f j = m
        · exact hi i j (by omega) (by omega) (by rw [a, b])
        · rw [if_pos a, if_neg b] at h3
          have := hi m j (by omega) (by omega) h3
          omega
      · by_cases b : f j = m
        · rw [if_neg a, if_pos b] at h3
          have := hi i m (by omega) (by omega) h3
          omega
        · rw [if_neg a, if_neg b] at h3
          exact hi i j (by omega) (by omega) h3)
    have hm := hf m (by omega)
    by_cases hym : y = f m
    · exact ⟨m, by omega, hym.symm⟩
    · by_cases hy2 : y = m
      · subst hy2
        obtain ⟨i, h1, h2⟩ := IH (f y) (by omega)
        replace h2 : (if f i = y then f y else f i) = f y := h2
        by_cases a : f i = y
        · exact ⟨i, by omega, a⟩
        · rw [if_neg a] at h2
          have := hi i y (by omega) (by omega) h2
          omega
      · obtain ⟨i, h1, h2⟩ := IH y (by omega)
        replace h2 : (if f i = m then f m else f i) = y := h2
        by_cases a : f i = m
        · rw [if_pos a] at h2
          exact absurd h2.symm hym
        · rw [if_neg a] at h2
          exact ⟨i, by omega, h2⟩
theorem pow_one_mul {n g o : Nat} (h : g ^ o % n = 1 % n) (k : Nat) : g ^ (o * k) % n = 1 % n := by
  rw [Nat.pow_mul, Nat.pow_mod, h, ← Nat.pow_mod, Nat.one_pow]
theorem pow_one_add {n g o : Nat} (h : g ^ o % n = 1 % n) (k : Nat) : g ^ (o + k) % n = g ^ k % n := by
  rw [Nat.pow_add, Nat.mul_mod, h, ← Nat.mul_mod, Nat.one_mul]
theorem least : ∀ (P : Nat → Prop), (∃ n, P n) → ∃ n, P n ∧ ∀ m, m < n → ¬ P m := fun P h => by
  obtain ⟨n, hn⟩ := h
  induction n using Nat.strongRecOn with
  | ind n ih =>
    by_cases hx : ∃ m, m < n ∧ P m
    · obtain ⟨m, h1, h2⟩ := hx
      exact ih m h1 h2
    · exact ⟨n, hn, fun m h1 h2 => hx ⟨m, h1, h2⟩⟩
/-- A number's order is n - 1, if it is no less by any factor. -/
theorem order_full (n g : Nat) (L : List Nat) (hn : 2 ≤ n) (hL : n - 1 = L.prod) (hp : ∀ q ∈ L, PrimeN q) (h1 : g ^ (n - 1) % n = 1 % n) (hq : ∀ q ∈ L, g ^ ((n - 1) / q) % n ≠ 1 % n) : ∀ d, 0 < d → d < n - 1 → g ^ d % n ≠ 1 % n := by
  obtain ⟨o, ⟨ho0, ho1⟩, hmin⟩ := least (fun d => 0 < d ∧ g ^ d % n = 1 % n) ⟨n - 1, by omega, h1⟩
  have hr : (n - 1) % o = 0 := by
    rcases Nat.eq_zero_or_pos ((n - 1) % o) with h | h
    · exact h
    · refine absurd ⟨h, ?_⟩ (hmin _ (Nat.mod_lt _ ho0))
      have e : g ^ (n - 1) % n = g ^ ((n - 1) % o) % n := by
        conv => lhs; rw [← Nat.div_add_mod (n - 1) o]
        exact pow_one_add (pow_one_mul ho1 _) _
      rw [← e]
      exact h1
  obtain ⟨k, hk⟩ := Nat.dvd_of_mod_eq_zero hr
  have hk1 : k = 1 := by
    refine prod_euclid L hp k o (by rw [← hL, hk, Nat.mul_comm]) fun q hqL hd => ?_
    obtain ⟨k', rfl⟩ := hd
    have hq2 := (hp q hqL).1
    refine hq q hqL ?_
    have e : (n - 1) / q = o * k' := by
      rw [hk, show o * (q * k') = q * (o * k') by rw [← Nat.mul_assoc, Nat.mul_comm o q, Nat.mul_assoc], Nat.mul_div_cancel_left _ (by omega)]
    rw [e]
    exact pow_one_mul ho1 _
  subst hk1
  rw [Nat.mul_one] at hk
  intro d hd0 hd1 hd
  exact hmin d (by omega) ⟨hd0, hd⟩
theorem one_mod {n : Nat} (hn : 2 ≤ n) : 1 % n = 1 := Nat.mod_eq_of_lt (by omega)
theorem powers_apart (n g : Nat) (hn : 2 ≤ n) (h1 : g ^ (n - 1) % n = 1 % n) (hd : ∀ d, 0 < d → d < n - 1 → g ^ d % n ≠ 1 % n) (i j : Nat) (hij : i < j) (hj : j < n - 1) : g ^ i % n ≠ g ^ j % n := fun h => by
  refine hd (j - i) (by omega) (by omega) ?_
  have e1 : g ^ (n - 1 - i) * g ^ i % n = 1 % n := by rw [← Nat.pow_add, show n - 1 - i + i = n - 1 by omega]; exact h1
  have e2 : g ^ (n - 1 - i) * g ^ j % n = g ^ (j - i) % n := by
    rw [← Nat.pow_add, show n - 1 - i + j = n - 1 + (j - i) by omega]
    exact pow_one_add h1 _
  rw [← e2, Nat.mul_mod, ← h, ← Nat.mul_mod, e1]
theorem power_pos (n g : Nat) (hn : 2 ≤ n) (h1 : g ^ (n - 1) % n = 1 % n) (i : Nat) (hi : i ≤ n - 1) : 0 < g ^ i % n := by
  rcases Nat.eq_zero_or_pos (g ^ i % n) with h | h
  · have e1 : g ^ (n - 1 - i) * g ^ i % n = 1 % n := by rw [← Nat.pow_add, show n - 1 - i + i = n - 1 by omega]; exact h1
    rw [Nat.mul_mod, h, Nat.mul_zero, Nat.zero_mod, one_mod hn] at e1
    omega
  · exact h
theorem powers_all (n g : Nat) (hn : 2 ≤ n) (h1 : g ^ (n - 1) % n = 1 % n) (hd : ∀ d, 0 < d → d < n - 1 → g ^ d % n ≠ 1 % n) (a : Nat) (ha : a % n ≠ 0) : ∃ i, i < n - 1 ∧ g ^ i % n = a % n := by
  have hlt := Nat.mod_lt a (show 0 < n by omega)
  obtain ⟨i, hi, he⟩ := pigeons (n - 1) (fun i => g ^ i % n - 1) (fun i hi => by
    show g ^ i % n - 1 < n - 1
    have := power_pos n g hn h1 i (by omega)
    have := Nat.mod_lt (g ^ i) (show 0 < n by omega)
    omega) (fun i j hi hj h => by
    replace h : g ^ i % n - 1 = g ^ j % n - 1 := h
    have p1 := power_pos n g hn h1 i (by omega)
    have p2 := power_pos n g hn h1 j (by omega)
    have e : g ^ i % n = g ^ j % n := by omega
    rcases Nat.lt_trichotomy i j with hl | hl | hl
    · exact absurd e (powers_apart n g hn h1 hd i j hl hj)
    · exact hl
    · exact absurd e.symm (powers_apart n g hn h1 hd j i hl hi)) (a % n - 1) (by omega)
  replace he : g ^ i % n - 1 = a % n - 1 := he
  have p1 := power_pos n g hn h1 i (by omega)
  exact ⟨i, hi, by omega⟩
theorem fermat_of (n g : Nat) (hn : 2 ≤ n) (h1 : g ^ (n - 1) % n = 1 % n) (hd : ∀ d, 0 < d → d < n - 1 → g ^ d % n ≠ 1 % n) (a : Nat) (ha : a % n ≠ 0) : a ^ (n - 1) % n = 1 % n := by
  obtain ⟨i, _, he⟩ := powers_all n g hn h1 hd a ha
  rw [Nat.pow_mod, ← he, ← Nat.pow_mod, ← Nat.pow_mul, Nat.mul_comm]
  exact pow_one_mul h1 i
theorem prime_of (n g : Nat) (hn : 2 ≤ n) (h1 : g ^ (n - 1) % n = 1 % n) (hd : ∀ d, 0 < d → d < n - 1 → g ^ d % n ≠ 1 % n) : PrimeN n := by
  refine ⟨hn, fun a b h => ?_⟩
  by_cases ha : a % n = 0
  · exact .inl (Nat.dvd_of_mod_eq_zero ha)
  · refine .inr (Nat.dvd_of_mod_eq_zero ?_)
    have hf := fermat_of n g hn h1 hd a ha
    have e : a ^ (n - 1 - 1) * (a * b) % n = b % n := by
      rw [← Nat.mul_assoc, ← Nat.pow_succ, show (n - 1 - 1).succ = n - 1 from (by omega : n - 1 - 1 + 1 = n - 1), Nat.mul_mod, hf, ← Nat.mul_mod, Nat.one_mul]
    rw [← e, Nat.mul_mod, Nat.mod_eq_zero_of_dvd h, Nat.mul_zero, Nat.zero_mod]
/-- What the kernel reckons of a number, a base and the factors. -/
def cert (n g : Nat) (L : List Nat) : Bool := Nat.beq (L.prod + 1) n && Nat.beq (pm n 256 (n - 1) g 1 % n) 1 && L.all fun q => !Nat.beq (pm n 256 ((n - 1) / q) g 1 % n) 1
theorem order_cert (n g : Nat) (L : List Nat) (hn : 2 ≤ n) (hN : n < 2 ^ 256) (h : cert n g L = true) (hp : ∀ q ∈ L, PrimeN q) : g ^ (n - 1) % n = 1 % n ∧ ∀ d, 0 < d → d < n - 1 → g ^ d % n ≠ 1 % n := by
  unfold cert at h
  rw [Bool.and_eq_true, Bool.and_eq_true] at h
  obtain ⟨⟨hL, h1⟩, hq⟩ := h
  have hL := Nat.eq_of_beq_eq_true hL
  have h1 := Nat.eq_of_beq_eq_true h1
  rw [pm_eq n 256 (n - 1) g 1 (by omega), Nat.one_mul] at h1
  have h1' : g ^ (n - 1) % n = 1 % n := by rw [h1, one_mod hn]
  refine ⟨h1', order_full n g L hn (by omega) hp h1' fun q hqL he => ?_⟩
  have hx := List.all_eq_true.1 hq q hqL
  rw [pm_eq n 256 ((n - 1) / q) g 1 (Nat.lt_of_le_of_lt (Nat.div_le_self _ _) (by omega)), Nat.one_mul, he, one_mod hn] at hx
  cases hx
theorem prime_cert (n g : Nat) (L : List Nat) (hn : 2 ≤ n) (hN : n < 2 ^ 256) (h : cert n g L = true) (hp : ∀ q ∈ L, PrimeN q) : PrimeN n :=
  prime_of n g hn (order_cert n g L hn hN h hp).1 (order_cert n g L hn hN h hp).2
theorem prime2 : PrimeN 2 := by
  refine ⟨Nat.le_refl _, fun a b h => ?_⟩
  have h0 := Nat.mod_eq_zero_of_dvd h
  rw [Nat.mul_mod] at h0
  rcases Nat.mod_two_eq_zero_or_one a with e | e
  · exact .inl (Nat.dvd_of_mod_eq_zero e)
  · rcases Nat.mod_two_eq_zero_or_one b with f | f
    · exact .inr (Nat.dvd_of_mod_eq_zero f)
    · rw [e, f] at h0
      cases h0
theorem prime3 : PrimeN 3 := prime_cert 3 2 [2] (by decide +kernel) (by decide +kernel) (by decide +kernel) fun q hq => by
  simp only [List.mem_cons, List.not_mem_nil, or_false] at hq
  subst hq
  · exact prime2
theorem prime5 : PrimeN 5 := prime_cert 5 2 [2, 2] (by decide +kernel) (by decide +kernel) (by decide +kernel) fun q hq => by
  simp only [List.mem_cons, List.not_mem_nil, or_false] at hq
  rcases hq with rfl | rfl
  · exact prime2
  · exact prime2
theorem prime7 : PrimeN 7 := prime_cert 7 3 [2, 3] (by decide +kernel) (by decide +kernel) (by decide +kernel) fun q hq => by
  simp only [List.mem_cons, List.not_mem_nil, or_false] at hq
  rcases hq with rfl | rfl
  · exact prime2
  · exact prime3
theorem prime11 : PrimeN 11 := prime_cert 11 2 [2, 5] (by decide +kernel) (by decide +kernel) (by decide +kernel) fun q hq => by
  simp only [List.mem_cons, List.not_mem_nil, or_false] at hq
  rcases hq with rfl | rfl
  · exact prime2
  · exact prime5
theorem prime13 : PrimeN 13 := prime_cert 13 2 [2, 2, 3] (by decide +kernel) (by decide +kernel) (by decide +kernel) fun q hq => by
  simp only [List.mem_cons, List.not_mem_nil, or_false] at hq
  rcases hq with rfl | rfl | rfl
  · exact prime2
  · exact prime2
  · exact prime3
theorem prime17 : PrimeN 17 := prime_cert 17 3 [2, 2, 2, 2] (by decide +kernel) (by decide +kernel) (by decide +kernel) fun q hq => by
  simp only [List.mem_cons, List.not_mem_nil, or_false] at hq
  rcases hq with rfl | rfl | rfl | rfl
  · exact prime2
  · exact prime2
  · exact prime2
  · exact prime2
theorem prime19 : PrimeN 19 := prime_cert 19 2 [2, 3, 3] (by decide +kernel) (by decide +kernel) (by decide +kernel) fun q hq => by
  simp only [List.mem_cons, List.not_mem_nil, or_false] at hq
  rcases hq with rfl | rfl | rfl
  · exact prime2
  · exact prime3
  · exact prime3
theorem prime23 : PrimeN 23 := prime_cert 23 5 [2, 11] (by decide +kernel) (by decide +kernel) (by decide +kernel) fun q hq => by
  simp only [List.mem_cons, List.not_mem_nil, or_false] at hq
  rcases hq with rfl | rfl
  · exact prime2
  · exact prime11
theorem prime29 : PrimeN 29 := prime_cert 29 2 [2, 2, 7] (by decide +kernel) (by decide +kernel) (by decide +kernel) fun q hq => by
  simp only [List.mem_cons, List.not_mem_nil, or_false] at hq
  rcases hq with rfl | rfl | rfl
  · exact prime2
  · exact prime2
  · exact prime7
theorem prime31 : PrimeN 31 := prime_cert 31 3 [2, 3, 5] (by decide +kernel) (by decide +kernel) (by decide +kernel) fun q hq => by
  simp only [List.mem_cons, List.not_mem_nil, or_false] at hq
  rcases hq with rfl | rfl | rfl
  · exact prime2
  · exact prime3
  · exact prime5
theorem prime37 : PrimeN 37 := prime_cert 37 2 [2, 2, 3, 3] (by decide +kernel) (by decide +kernel) (by decide +kernel) fun q hq => by
  simp only [List.mem_cons, List.not_mem_nil, or_false] at hq
  rcases hq with rfl | rfl | rfl | rfl
  · exact prime2
  · exact prime2
  · exact prime3
  · exact prime3
theorem prime41 : PrimeN 41 := prime_cert 41 6 [2, 2, 2, 5] (by decide +kernel) (by decide +kernel) (by decide +kernel) fun q hq => by
  simp only [List.mem_cons, List.not_mem_nil, or_false] at hq
  rcases hq with rfl | rfl | rfl | rfl
  · exact prime2
  · exact prime2
  · exact prime2
  · exact prime5
theorem prime43 : PrimeN 43 := prime_cert 43 3 [2, 3, 7] (by decide +kernel) (by decide +kernel) (by decide +kernel) fun q hq => by
  simp only [List.mem_cons, List.not_mem_nil, or_false] at hq
  rcases hq with rfl | rfl | rfl
  · exact prime2
  · exact prime3
  · exact prime7
theorem prime47 : PrimeN 47 := prime_cert 47 5 [2, 23] (by decide +kernel) (by decide +kernel) (by decide +kernel) fun q hq => by
  simp only [List.mem_cons, List.not_mem_nil, or_false] at hq
  rcases hq with rfl | rfl
  · exact prime2
  · exact prime23
theorem prime53 : PrimeN 53 := prime_cert 53 2 [2, 2, 13] (by decide +kernel) (by decide +kernel) (by decide +kernel) fun q hq => by
  simp only [List.mem_cons, List.not_mem_nil, or_false] at hq
  rcases hq with rfl | rfl | rfl
  · exact prime2
  · exact prime2
  · exact prime13
theorem prime59 : PrimeN 59 := prime_cert 59 2 [2, 29] (by decide +kernel) (by decide +kernel) (by decide +kernel) fun q hq => by
  simp only [List.mem_cons, List.not_mem_nil, or_false] at hq
  rcases hq with rfl | rfl
  · exact prime2
  · exact prime29
theorem prime83 : PrimeN 83 := prime_cert 83 2 [2, 41] (by decide +kernel) (by decide +kernel) (by decide +kernel) fun q hq => by
  simp only [List.mem_cons, List.not_mem_nil, or_false] at hq
  rcases hq with rfl | rfl
  · exact prime2
  · exact prime41
theorem prime97 : PrimeN 97 := prime_cert 97 5 [2, 2, 2, 2, 2, 3] (by decide +kernel) (by decide +kernel) (by decide +kernel) fun q hq => by
  simp only [List.mem_cons, List.not_mem_nil, or_false] at hq
  rcases hq with rfl | rfl | rfl | rfl | rfl | rfl
  · exact prime2
  · exact prime2
  · exact prime2
  · exact prime2
  · exact prime2
  · exact prime3
theorem prime103 : PrimeN 103 := prime_cert 103 5 [2, 3, 17] (by decide +kernel) (by decide +kernel) (by decide +kernel) fun q hq => by
  simp only [List.mem_cons, List.not_mem_nil, or_false] at hq
  rcases hq with rfl | rfl | rfl
  · exact prime2
  · exact prime3
  · exact prime17
theorem prime107 : PrimeN 107 := prime_cert 107 2 [2, 53] (by decide +kernel) (by decide +kernel) (by decide +kernel) fun q hq => by
  simp only [List.mem_cons, List.not_mem_nil, or_false] at hq
  rcases hq with rfl | rfl
  · exact prime2
  · exact prime53
theorem prime127 : PrimeN 127 := prime_cert 127 3 [2, 3, 3, 7] (by decide +kernel) (by decide +kernel) (by decide +kernel) fun q hq => by
  simp only [List.mem_cons, List.not_mem_nil, or_false] at hq
  rcases hq with rfl | rfl | rfl | rfl
  · exact prime2
  · exact prime3
  · exact prime3
  · exact prime7
theorem prime131 : PrimeN 131 := prime_cert 131 2 [2, 5, 13] (by decide +kernel) (by decide +kernel) (by decide +kernel) fun q hq => by
  simp only [List.mem_cons, List.not_mem_nil, or_false] at hq
  rcases hq with rfl | rfl | rfl
  · exact prime2
  · exact prime5
  · exact prime13
theorem prime173 : PrimeN 173 := prime_cert 173 2 [2, 2, 43] (by decide +kernel) (by decide +kernel) (by decide +kernel) fun q hq => by
  simp only [List.mem_cons, List.not_mem_nil, or_false] at hq
  rcases hq with rfl | rfl | rfl
  · exact prime2
  · exact prime2
  · exact prime43
theorem prime223 : PrimeN 223 := prime_cert 223 3 [2, 3, 37] (by decide +kernel) (by decide +kernel) (by decide +kernel) fun q hq => by
  simp only [List.mem_cons, List.not_mem_nil, or_false] at hq
  rcases hq with rfl | rfl | rfl
  · exact prime2
  · exact prime3
  · exact prime37
theorem prime239 : PrimeN 239 := prime_cert 239 7 [2, 7, 17] (by decide +kernel) (by decide +kernel) (by decide +kernel) fun q hq => by
  simp only [List.mem_cons, List.not_mem_nil, or_false] at hq
  rcases hq with rfl | rfl | rfl
  · exact prime2
  · exact prime7
  · exact prime17
theorem prime353 : PrimeN 353 := prime_cert 353 3 [2, 2, 2, 2, 2, 11] (by decide +kernel) (by decide +kernel) (by decide +kernel) fun q hq => by
  simp only [List.mem_cons, List.not_mem_nil, or_false] at hq
  rcases hq with rfl | rfl | rfl | rfl | rfl | rfl
  · exact prime2
  · exact prime2
  · exact prime2
  · exact prime2
  · exact prime2
  · exact prime11
theorem prime419 : PrimeN 419 := prime_cert 419 2 [2, 11, 19] (by decide +kernel) (by decide +kernel) (by decide +kernel) fun q hq => by
  simp only [List.mem_cons, List.not_mem_nil, or_false] at hq
  rcases hq with rfl | rfl | rfl
  · exact prime2
  · exact prime11
  · exact prime19
theorem prime479 : PrimeN 479 := prime_cert 479 13 [2, 239] (by decide +kernel) (by decide +kernel) (by decide +kernel) fun q hq => by
  simp only [List.mem_cons, List.not_mem_nil, or_false] at hq
  rcases hq with rfl | rfl
  · exact prime2
  · exact prime239
theorem prime487 : PrimeN 487 := prime_cert 487 3 [2, 3, 3, 3, 3, 3] (by decide +kernel) (by decide +kernel) (by decide +kernel) fun q hq => by
  simp only [List.mem_cons, List.not_mem_nil, or_false] at hq
  rcases hq with rfl | rfl | rfl | rfl | rfl | rfl
  · exact prime2
  · exact prime3
  · exact prime3
  · exact prime3
  · exact prime3
  · exact prime3
theorem prime991 : PrimeN 991 := prime_cert 991 6 [2, 3, 3, 5, 11] (by decide +kernel) (by decide +kernel) (by decide +kernel) fun q hq => by
  simp only [List.mem_cons, List.not_mem_nil, or_false] at hq
  rcases hq with rfl | rfl | rfl | rfl | rfl
  · exact prime2
  · exact prime3
  · exact prime3
  · exact prime5
  · exact prime11
theorem prime1723 : PrimeN 1723 := prime_cert 1723 3 [2, 3, 7, 41] (by decide +kernel) (by decide +kernel) (by decide +kernel) fun q hq => by
  simp only [List.mem_cons, List.not_mem_nil, or_false] at hq
  rcases hq with rfl | rfl | rfl | rfl
  · exact prime2
  · exact prime3
  · exact prime7
  · exact prime41
theorem prime2437 : PrimeN 2437 := prime_cert 2437 2 [2, 2, 3, 7, 29] (by decide +kernel) (by decide +kernel) (by decide +kernel) fun q hq => by
  simp only [List.mem_cons, List.not_mem_nil, or_false] at hq
  rcases hq with rfl | rfl | rfl | rfl | rfl
  · exact prime2
  · exact prime2
  · exact prime3
  · exact prime7
  · exact prime29
theorem prime3727 : PrimeN 3727 := prime_cert 3727 3 [2, 3, 3, 3, 3, 23] (by decide +kernel) (by decide +kernel) (by decide +kernel) fun q hq => by
  simp only [List.mem_cons, List.not_mem_nil, or_false] at hq
  rcases hq with rfl | rfl | rfl | rfl | rfl | rfl
  · exact prime2
  · exact prime3
  · exact prime3
  · exact prime3
  · exact prime3
  · exact prime23
theorem prime4153 : PrimeN 4153 := prime_cert 4153 5 [2, 2, 2, 3, 173] (by decide +kernel) (by decide +kernel) (by decide +kernel) fun q hq => by
  simp only [List.mem_cons, List.not_mem_nil, or_false] at hq
  rcases hq with rfl | rfl | rfl | rfl | rfl
  · exact prime2
  · exact prime2
  · exact prime2
  · exact prime3
  · exact prime173
theorem prime9463 : PrimeN 9463 := prime_cert 9463 3 [2, 3, 19, 83] (by decide +kernel) (by decide +kernel) (by decide +kernel) fun q hq => by
  simp only [List.mem_cons, List.not_mem_nil, or_false] at hq
  rcases hq with rfl | rfl | rfl | rfl
  · exact prime2
  · exact prime3
  · exact prime19
  · exact prime83
theorem prime32573 : PrimeN 32573 := prime_cert 32573 2 [2, 2, 17, 479] (by decide +kernel) (by decide +kernel) (by decide +kernel) fun q hq => by
  simp only [List.mem_cons, List.not_mem_nil, or_false] at hq
  rcases hq with rfl | rfl | rfl | rfl
  · exact prime2
  · exact prime2
  · exact prime17
  · exact prime479
theorem prime37853 : PrimeN 37853 := prime_cert 37853 2 [2, 2, 9463] (by decide +kernel) (by decide +kernel) (by decide +kernel) fun q hq => by
  simp only [List.mem_cons, List.not_mem_nil, or_false] at hq
  rcases hq with rfl | rfl | rfl
  · exact prime2
  · exact prime2
  · exact prime9463
theorem prime57467 : PrimeN 57467 := prime_cert 57467 2 [2, 59, 487] (by decide +kernel) (by decide +kernel) (by decide +kernel) fun q hq => by
  simp only [List.mem_cons, List.not_mem_nil, or_false] at hq
  rcases hq with rfl | rfl | rfl
  · exact prime2
  · exact prime59
  · exact prime487
theorem prime65147 : PrimeN 65147 := prime_cert 65147 2 [2, 32573] (by decide +kernel) (by decide +kernel) (by decide +kernel) fun q hq => by
  simp only [List.mem_cons, List.not_mem_nil, or_false] at hq
  rcases hq with rfl | rfl
  · exact prime2
  · exact prime32573
theorem prime75707 : PrimeN 75707 := prime_cert 75707 2 [2, 37853] (by decide +kernel) (by decide +kernel) (by decide +kernel) fun q hq => by
  simp only [List.mem_cons, List.not_mem_nil, or_false] at hq
  rcases hq with rfl | rfl
  · exact prime2
  · exact prime37853
theorem prime132049 : PrimeN 132049 := prime_cert 132049 26 [2, 2, 2, 2, 3, 3, 7, 131] (by decide +kernel) (by decide +kernel) (by decide +kernel) fun q hq => by
  simp only [List.mem_cons, List.not_mem_nil, or_false] at hq
  rcases hq with rfl | rfl | rfl | rfl | rfl | rfl | rfl | rfl
  · exact prime2
  · exact prime2
  · exact prime2
  · exact prime2
  · exact prime3
  · exact prime3
  · exact prime7
  · exact prime131
theorem prime430751 : PrimeN 430751 := prime_cert 430751 17 [2, 5, 5, 5, 1723] (by decide +kernel) (by decide +kernel) (by decide +kernel) fun q hq => by
  simp only [List.mem_cons, List.not_mem_nil, or_false] at hq
  rcases hq with rfl | rfl | rfl | rfl | rfl
  · exact prime2
  · exact prime5
  · exact prime5
  · exact prime5
  · exact prime1723
theorem prime569003 : PrimeN 569003 := prime_cert 569003 2 [2, 7, 97, 419] (by decide +kernel) (by decide +kernel) (by decide +kernel) fun q hq => by
  simp only [List.mem_cons, List.not_mem_nil, or_false] at hq
  rcases hq with rfl | rfl | rfl | rfl
  · exact prime2
  · exact prime7
  · exact prime97
  · exact prime419
theorem prime1923133 : PrimeN 1923133 := prime_cert 1923133 2 [2, 2, 3, 43, 3727] (by decide +kernel) (by decide +kernel) (by decide +kernel) fun q hq => by
  simp only [List.mem_cons, List.not_mem_nil, or_false] at hq
  rcases hq with rfl | rfl | rfl | rfl | rfl
  · exact prime2
  · exact prime2
  · exact prime3
  · exact prime43
  · exact prime3727
theorem prime8574133 : PrimeN 8574133 := prime_cert 8574133 2 [2, 2, 3, 7, 103, 991] (by decide +kernel) (by decide +kernel) (by decide +kernel) fun q hq => by
  simp only [List.mem_cons, List.not_mem_nil, or_false] at hq
  rcases hq with rfl | rfl | rfl | rfl | rfl | rfl
  · exact prime2
  · exact prime2
  · exact prime3
  · exact prime7
  · exact prime103
  · exact prime991
theorem prime2773320623 : PrimeN 2773320623 := prime_cert 2773320623 5 [2, 2437, 569003] (by decide +kernel) (by decide +kernel) (by decide +kernel) fun q hq => by
  simp only [List.mem_cons, List.not_mem_nil, or_false] at hq
  rcases hq with rfl | rfl | rfl
  · exact prime2
  · exact prime2437
  · exact prime569003
theorem prime72106336199 : PrimeN 72106336199 := prime_cert 72106336199 7 [2, 13, 2773320623] (by decide +kernel) (by decide +kernel) (by decide +kernel) fun q hq => by
  simp only [List.mem_cons, List.not_mem_nil, or_false] at hq
  rcases hq with rfl | rfl | rfl
  · exact prime2
  · exact prime13
  · exact prime2773320623
theorem primeBig0 : PrimeN 1919519569386763 := prime_cert 1919519569386763 2 [2, 3, 7, 19, 47, 47, 127, 8574133] (by decide +kernel) (by decide +kernel) (by decide +kernel) fun q hq => by
  simp only [List.mem_cons, List.not_mem_nil, or_false] at hq
  rcases hq with rfl | rfl | rfl | rfl | rfl | rfl | rfl | rfl
  · exact prime2
  · exact prime3
  · exact prime7
  · exact prime19
  · exact prime47
  · exact prime47
  · exact prime127
  · exact prime8574133
theorem primeBig1 : PrimeN 31757755568855353 := prime_cert 31757755568855353 10 [2, 2, 2, 3, 31, 107, 223, 4153, 430751] (by decide +kernel) (by decide +kernel) (by decide +kernel) fun q hq => by
  simp only [List.mem_cons, List.not_mem_nil, or_false] at hq
  rcases hq with rfl | rfl | rfl | rfl | rfl | rfl | rfl | rfl | rfl
  · exact prime2
  · exact prime2
  · exact prime2
  · exact prime3
  · exact prime31
  · exact prime107
  · exact prime223
  · exact prime4153
  · exact prime430751
theorem primeBig2 : PrimeN 75445702479781427272750846543864801 := prime_cert 75445702479781427272750846543864801 7 [2, 2, 2, 2, 2, 3, 3, 5, 5, 75707, 72106336199, 1919519569386763] (by decide +kernel) (by decide +kernel) (by decide +kernel) fun q hq => by
  simp only [List.mem_cons, List.not_mem_nil, or_false] at hq
  rcases hq with rfl | rfl | rfl | rfl | rfl | rfl | rfl | rfl | rfl | rfl | rfl | rfl
  · exact prime2
  · exact prime2
  · exact prime2
  · exact prime2
  · exact prime2
  · exact prime3
  · exact prime3
  · exact prime5
  · exact prime5
  · exact prime75707
  · exact prime72106336199
  · exact primeBig0
theorem primeBig3 : PrimeN 74058212732561358302231226437062788676166966415465897661863160754340907 := prime_cert 74058212732561358302231226437062788676166966415465897661863160754340907 2 [2, 3, 353, 57467, 132049, 1923133, 31757755568855353, 75445702479781427272750846543864801] (by decide +kernel) (by decide +kernel) (by decide +kernel) fun q hq => by
  simp only [List.mem_cons, List.not_mem_nil, or_false] at hq
  rcases hq with rfl | rfl | rfl | rfl | rfl | rfl | rfl | rfl
  · exact prime2
  · exact prime3
  · exact prime353
  · exact prime57467
  · exact prime132049
  · exact prime1923133
  · exact primeBig1
  · exact primeBig2
def PN : Nat := 57896044618658097711785492504343953926634992332820282019728792003956564819949
theorem PN_ge : 2 ≤ PN := by decide +kernel
theorem PN_pos : 0 < PN := by decide +kernel
theorem PN_lt : PN < 2 ^ 256 := by decide +kernel
theorem orderP : 2 ^ (PN - 1) % PN = 1 % PN ∧ ∀ d, 0 < d → d < PN - 1 → 2 ^ d % PN ≠ 1 % PN := order_cert PN 2 [2, 2, 3, 65147, 74058212732561358302231226437062788676166966415465897661863160754340907] PN_ge PN_lt (by decide +kernel) fun q hq => by
  simp only [List.mem_cons, List.not_mem_nil, or_false] at hq
  rcases hq with rfl | rfl | rfl | rfl | rfl
  · exact prime2
  · exact prime2
  · exact prime3
  · exact prime65147
  · exact primeBig3
theorem primeP : PrimeN PN := prime_of PN 2 PN_ge orderP.1 orderP.2
theorem fermatP (a : Nat) (ha : a % PN ≠ 0) : a ^ (PN - 1) % PN = 1 := by
  rw [fermat_of PN 2 PN_ge orderP.1 orderP.2 a ha]
  exact one_mod PN_ge
end Go.Proofs.Ythdbadomppohbaa
