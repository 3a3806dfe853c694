/- A great prime that divides what the order of the curve's base is less 1. No program in it. The order of the curve's base has no small divisors. No program in it. The curve's base, reckoned on numbers: so many times it is 0; fewer than 2^32 times never. No program in it. -/
import Derived.Test.YthdbadomppohbaaPrm
import Derived.Test.YthdbadomppohbaaMEdw
namespace Go.Proofs.Ythdbadomppohbaa
set_option maxRecDepth 20000
set_option linter.unusedSimpArgs false
set_option linter.unusedVariables false
theorem primeE34123 : PrimeN 34123 := prime_cert 34123 2 [2, 3, 11, 11, 47] (by decide +kernel) (by decide +kernel) (by decide +kernel) fun q hq => by
  simp only [List.mem_cons, List.not_mem_nil, or_false] at hq
  rcases hq with rfl | rfl | rfl | rfl | rfl
  · exact prime2
  · exact prime3
  · exact prime11
  · exact prime11
  · exact prime47
theorem primeE409477 : PrimeN 409477 := prime_cert 409477 2 [2, 2, 3, 34123] (by decide +kernel) (by decide +kernel) (by decide +kernel) fun q hq => by
  simp only [List.mem_cons, List.not_mem_nil, or_false] at hq
  rcases hq with rfl | rfl | rfl | rfl
  · exact prime2
  · exact prime2
  · exact prime3
  · exact primeE34123
theorem primeE14741173 : PrimeN 14741173 := prime_cert 14741173 2 [2, 2, 3, 3, 409477] (by decide +kernel) (by decide +kernel) (by decide +kernel) fun q hq => by
  simp only [List.mem_cons, List.not_mem_nil, or_false] at hq
  rcases hq with rfl | rfl | rfl | rfl | rfl
  · exact prime2
  · exact prime2
  · exact prime3
  · exact prime3
  · exact primeE409477
theorem primeE58964693 : PrimeN 58964693 := prime_cert 58964693 2 [2, 2, 14741173] (by decide +kernel) (by decide +kernel) (by decide +kernel) fun q hq => by
  simp only [List.mem_cons, List.not_mem_nil, or_false] at hq
  rcases hq with rfl | rfl | rfl
  · exact prime2
  · exact prime2
  · exact primeE14741173
theorem primeE30703 : PrimeN 30703 := prime_cert 30703 3 [2, 3, 7, 17, 43] (by decide +kernel) (by decide +kernel) (by decide +kernel) fun q hq => by
  simp only [List.mem_cons, List.not_mem_nil, or_false] at hq
  rcases hq with rfl | rfl | rfl | rfl | rfl
  · exact prime2
  · exact prime3
  · exact prime7
  · exact prime17
  · exact prime43
theorem primeE79 : PrimeN 79 := prime_cert 79 3 [2, 3, 13] (by decide +kernel) (by decide +kernel) (by decide +kernel) fun q hq => by
  simp only [List.mem_cons, List.not_mem_nil, or_false] at hq
  rcases hq with rfl | rfl | rfl
  · exact prime2
  · exact prime3
  · exact prime13
theorem primeE41081 : PrimeN 41081 := prime_cert 41081 3 [2, 2, 2, 5, 13, 79] (by decide +kernel) (by decide +kernel) (by decide +kernel) fun q hq => by
  simp only [List.mem_cons, List.not_mem_nil, or_false] at hq
  rcases hq with rfl | rfl | rfl | rfl | rfl | rfl
  · exact prime2
  · exact prime2
  · exact prime2
  · exact prime5
  · exact prime13
  · exact primeE79
theorem primeE82163 : PrimeN 82163 := prime_cert 82163 2 [2, 41081] (by decide +kernel) (by decide +kernel) (by decide +kernel) fun q hq => by
  simp only [List.mem_cons, List.not_mem_nil, or_false] at hq
  rcases hq with rfl | rfl
  · exact prime2
  · exact primeE41081
theorem primeE67 : PrimeN 67 := prime_cert 67 2 [2, 3, 11] (by decide +kernel) (by decide +kernel) (by decide +kernel) fun q hq => by
  simp only [List.mem_cons, List.not_mem_nil, or_false] at hq
  rcases hq with rfl | rfl | rfl
  · exact prime2
  · exact prime3
  · exact prime11
theorem primeE22111 : PrimeN 22111 := prime_cert 22111 6 [2, 3, 5, 11, 67] (by decide +kernel) (by decide +kernel) (by decide +kernel) fun q hq => by
  simp only [List.mem_cons, List.not_mem_nil, or_false] at hq
  rcases hq with rfl | rfl | rfl | rfl | rfl
  · exact prime2
  · exact prime3
  · exact prime5
  · exact prime11
  · exact primeE67
theorem primeE132667 : PrimeN 132667 := prime_cert 132667 5 [2, 3, 22111] (by decide +kernel) (by decide +kernel) (by decide +kernel) fun q hq => by
  simp only [List.mem_cons, List.not_mem_nil, or_false] at hq
  rcases hq with rfl | rfl | rfl
  · exact prime2
  · exact prime3
  · exact primeE22111
theorem primeE17231 : PrimeN 17231 := prime_cert 17231 13 [2, 5, 1723] (by decide +kernel) (by decide +kernel) (by decide +kernel) fun q hq => by
  simp only [List.mem_cons, List.not_mem_nil, or_false] at hq
  rcases hq with rfl | rfl | rfl
  · exact prime2
  · exact prime5
  · exact prime1723
theorem primeE137849 : PrimeN 137849 := prime_cert 137849 3 [2, 2, 2, 17231] (by decide +kernel) (by decide +kernel) (by decide +kernel) fun q hq => by
  simp only [List.mem_cons, List.not_mem_nil, or_false] at hq
  rcases hq with rfl | rfl | rfl | rfl
  · exact prime2
  · exact prime2
  · exact prime2
  · exact primeE17231
theorem primeEll0 : PrimeN 3044861653679985063343 := prime_cert 3044861653679985063343 5 [2, 3, 11, 30703, 82163, 132667, 137849] (by decide +kernel) (by decide +kernel) (by decide +kernel) fun q hq => by
  simp only [List.mem_cons, List.not_mem_nil, or_false] at hq
  rcases hq with rfl | rfl | rfl | rfl | rfl | rfl | rfl
  · exact prime2
  · exact prime3
  · exact prime11
  · exact primeE30703
  · exact primeE82163
  · exact primeE132667
  · exact primeE137849
def FN : Nat := 198211423230930754013084525763697
theorem primeFN : PrimeN FN := prime_cert FN 5 [2, 2, 2, 2, 3, 23, 58964693, 3044861653679985063343] (by decide +kernel) (by decide +kernel) (by decide +kernel) fun q hq => by
  simp only [List.mem_cons, List.not_mem_nil, or_false] at hq
  rcases hq with rfl | rfl | rfl | rfl | rfl | rfl | rfl | rfl
  · exact prime2
  · exact prime2
  · exact prime2
  · exact prime2
  · exact prime3
  · exact prime23
  · exact primeE58964693
  · exact primeEll0
theorem inj_le (n m : Nat) (f : Nat → Nat) (hf : ∀ i, i < n → f i < m) (hi : ∀ i j, i < n → j < n → f i = f j → i = j) : n ≤ m := by
  apply Nat.le_of_not_lt
  intro hlt
  obtain ⟨i, h1, h2⟩ := pigeons m f (fun i h => hf i (by omega)) (fun i j h1 h2 e => hi i j (by omega) (by omega) e) (f m) (hf m hlt)
  have := hi i m (by omega) hlt h2
  omega
theorem pow_one_times (b g m k : Nat) (hg : 1 < g) (h : b ^ m % g = 1) : b ^ (m * k) % g = 1 := by
  rw [Nat.pow_mul, Nat.pow_mod, h, Nat.one_pow]
  exact Nat.mod_eq_of_lt hg
theorem pow_gcd (b g : Nat) (hg : 1 < g) (m n : Nat) : b ^ m % g = 1 → b ^ n % g = 1 → b ^ Nat.gcd m n % g = 1 := by
  refine Nat.gcd.induction (P := fun m n => b ^ m % g = 1 → b ^ n % g = 1 → b ^ Nat.gcd m n % g = 1) m n ?_ ?_
  · intro n _ hn
    rw [Nat.gcd_zero_left]
    exact hn
  · intro m n hm ih h1 h2
    rw [Nat.gcd_rec]
    refine ih ?_ h1
    have e : b ^ n = b ^ (m * (n / m)) * b ^ (n % m) := by rw [← Nat.pow_add, Nat.div_add_mod]
    rw [e, Nat.mul_mod, pow_one_times b g m (n / m) hg h1, Nat.one_mul, Nat.mod_mod] at h2
    exact h2
theorem gcd_prime (k F : Nat) (hF : PrimeN F) (h0 : 0 < k) (hk : k < F) : Nat.gcd k F = 1 := by
  obtain ⟨d, hd⟩ := Nat.gcd_dvd_right k F
  have hpos : 0 < F := by omega
  have hdv : F ∣ Nat.gcd k F * d := ⟨1, by rw [Nat.mul_one]; exact hd.symm⟩
  rcases hF.2 _ _ hdv with h | h
  · have h1 := Nat.le_of_dvd (Nat.gcd_pos_of_pos_left F h0) h
    have h2 := Nat.le_of_dvd h0 (Nat.gcd_dvd_left k F)
    omega
  · have hd0 : 0 < d := by
      apply Nat.pos_of_ne_zero
      rintro rfl
      rw [Nat.mul_zero] at hd
      omega
    have h1 := Nat.le_of_dvd hd0 h
    have hg := Nat.gcd_pos_of_pos_left F h0
    apply Nat.le_antisymm _ hg
    apply Nat.le_of_not_lt
    intro h2
    have h3 : 2 * d ≤ Nat.gcd k F * d := Nat.mul_le_mul_right d h2
    omega
/-- A number all of whose divisors are 1, or at least F. -/
theorem great_divs (N F e a u : Nat) (hF : PrimeN F) (he : F * e = N - 1) (h1 : a ^ (N - 1) % N = 1) (hu : (a ^ e % N + N - 1) * u % N = 1) (g : Nat) (hg : g ∣ N) (hg1 : 1 < g) (hN : 1 < N) : F ≤ g := by
  obtain ⟨b, hb⟩ : ∃ b, a ^ e = b := ⟨_, rfl⟩
  have hbF : b ^ F % g = 1 := by
    rw [← hb, ← Nat.pow_mul, Nat.mul_comm, he, ← Nat.mod_mod_of_dvd _ hg, h1]
    exact Nat.mod_eq_of_lt hg1
  have hb1 : b % g ≠ 1 := fun h => by
    have h2 : (b % N + N - 1) % g = 0 := by
      obtain ⟨c, hc⟩ := hg
      have h3 : (b % N) % g = 1 := by rw [Nat.mod_mod_of_dvd _ ⟨c, hc⟩]; exact h
      have h4 : 1 ≤ b % N := by
        apply Nat.pos_of_ne_zero
        intro h0
        rw [h0, Nat.zero_mod] at h3
        omega
      have h5 : b % N + N - 1 = (b % N - 1) + g * c := by omega
      rw [h5, Nat.add_mul_mod_self_left]
      have h6 := Nat.div_add_mod (b % N) g
      rw [h3] at h6
      rw [show b % N - 1 = g * (b % N / g) by omega, Nat.mul_mod_right]
    have h7 : (b % N + N - 1) * u % N % g = 0 := by rw [Nat.mod_mod_of_dvd _ hg, Nat.mul_mod, h2, Nat.zero_mul, Nat.zero_mod]
    rw [← hb] at h7
    rw [hu, Nat.mod_eq_of_lt hg1] at h7
    omega
  refine inj_le F g (fun i => b ^ i % g) (fun i _ => Nat.mod_lt _ (by omega)) ?_
  have key : ∀ i j, i < j → j < F → b ^ i % g = b ^ j % g → False := fun i j hij hj h => by
    have h2 : b ^ (j - i) % g = 1 := by
      have h3 : b ^ i * b ^ (F - i) % g = b ^ j * b ^ (F - i) % g := by rw [Nat.mul_mod, h, ← Nat.mul_mod]
      rw [← Nat.pow_add, ← Nat.pow_add, show i + (F - i) = F by omega, hbF, show j + (F - i) = (j - i) + F by omega, Nat.pow_add, Nat.mul_mod, hbF, Nat.mul_one, Nat.mod_mod] at h3
      exact h3.symm
    have h4 := pow_gcd b g hg1 (j - i) F h2 hbF
    rw [gcd_prime (j - i) F hF (by omega) (by omega), Nat.pow_one] at h4
    exact hb1 h4
  intro i j hi hj h
  rcases Nat.lt_trichotomy i j with h1 | h1 | h1
  · exact (key i j h1 hj h).elim
  · exact h1
  · exact (key j i h1 hi h.symm).elim
def LN : Nat := 7237005577332262213973186563042994240857116359379907606001950938285454250989
def eN : Nat := 36511546405176775671712865833542457120274604
def uN : Nat := 3663666293333349802734767330125554452563267030289603873756643401999244928315
theorem pow_ofR (n f e b : Nat) (he : e < 2 ^ f) : b ^ e % n = pm n f e b 1 % n := by
  have x := pm_eq n f e b 1 he
  rw [Nat.one_mul] at x
  exact x.symm
theorem ln_divs (g : Nat) (hg : g ∣ LN) (h1 : 1 < g) : 4294967296 < g := by
  have h := great_divs LN FN eN 2 uN primeFN (by decide +kernel) (pow_of LN 256 (LN - 1) 2 1 (by decide +kernel) (by decide +kernel)) (by rw [pow_ofR LN 256 eN 2 (by decide +kernel)]; decide +kernel) g hg h1 (by decide +kernel)
  exact Nat.lt_of_lt_of_le (by decide +kernel) h
/-- The sum by the document's definition, on numbers. -/
def addX (x1 y1 z1 x2 y2 z2 : Nat) : Nat := z1*z2 % PN * ((x1*y2 + y1*x2) % PN) % PN * ((z1*z2 % PN * (z1*z2 % PN) % PN + PN - dN * (x1*x2 % PN * (y1*y2 % PN) % PN) % PN) % PN) % PN
def addY (x1 y1 z1 x2 y2 z2 : Nat) : Nat := z1*z2 % PN * ((y1*y2 + x1*x2) % PN) % PN * ((z1*z2 % PN * (z1*z2 % PN) % PN + dN * (x1*x2 % PN * (y1*y2 % PN) % PN) % PN) % PN) % PN
def addZ (x1 y1 z1 x2 y2 z2 : Nat) : Nat := (z1*z2 % PN * (z1*z2 % PN) % PN + PN - dN * (x1*x2 % PN * (y1*y2 % PN) % PN) % PN) % PN * ((z1*z2 % PN * (z1*z2 % PN) % PN + dN * (x1*x2 % PN * (y1*y2 % PN) % PN) % PN) % PN) % PN
theorem addN_rep (x1 y1 z1 x2 y2 z2 : Nat) (p q : Fp × Fp) (hp : On p) (hq : On q) (h1 : Rep (fz x1) (fz y1) (fz z1) p) (h2 : Rep (fz x2) (fz y2) (fz z2) q) :
    Rep (fz (addX x1 y1 z1 x2 y2 z2)) (fz (addY x1 y1 z1 x2 y2 z2)) (fz (addZ x1 y1 z1 x2 y2 z2)) (addE p q) := by
  have h := rep_add (fz x1) (fz y1) (fz z1) (fz x2) (fz y2) (fz z2) p q hp hq h1 h2
  have hs : ∀ a b : Nat, fz (a + PN - b % PN) = fz a - fz b := fun a b => by rw [fz_sub _ _ (Nat.le_of_lt (Nat.mod_lt _ PN_pos)), fz_mod]
  unfold addX addY addZ
  simp only [fz_mod, fz_mul, hs, fz_add]
  exact h
/-- So many times, from the lowest bit on: the first number is the one that is asked for. -/
def tmX : Nat → Nat → Nat → Nat → Nat → Nat → Nat → Nat → Nat × Nat × Nat
  | 0, _, _, _, _, X, Y, Z => (X, Y, Z)
  | f + 1, e, x, y, z, X, Y, Z => bif Nat.beq (e % 2) 1 then tmX f (e / 2) (addX x y z x y z) (addY x y z x y z) (addZ x y z x y z) (addX X Y Z x y z) (addY X Y Z x y z) (addZ X Y Z x y z)
    else tmX f (e / 2) (addX x y z x y z) (addY x y z x y z) (addZ x y z x y z) X Y Z
theorem times_two (p : Fp × Fp) (hp : On p) (n : Nat) : timesE (2 * n) p = timesE n (addE p p) := by
  rw [Nat.mul_comm, times_mul p hp 2 n]
  congr 1
  show addE (addE zeroE p) p = _
  rw [add_comm' zeroE p, add_zero' p hp]
theorem tm_rep : ∀ (f e x y z X Y Z : Nat) (p q : Fp × Fp), e < 2 ^ f → On p → On q → Rep (fz x) (fz y) (fz z) p → Rep (fz X) (fz Y) (fz Z) q →
    Rep (fz (tmX f e x y z X Y Z).1) (fz (tmX f e x y z X Y Z).2.1) (fz (tmX f e x y z X Y Z).2.2) (addE q (timesE e p))
  | 0, e, x, y, z, X, Y, Z, p, q, he, hp, hq, _, h2 => by
    have : e = 0 := by simp at he; omega
    subst this
    show Rep (fz X) (fz Y) (fz Z) (addE q zeroE)
    rw [add_zero' q hq]
    exact h2
  | f + 1, e, x, y, z, X, Y, Z, p, q, he, hp, hq, h1, h2 => by
    have he2 : e / 2 < 2 ^ f := by rw [Nat.pow_succ] at he; omega
    have hd := addN_rep x y z x y z p p hp hp h1 h1
    have hdp := on_add p p hp hp
    by_cases hb : e % 2 = 1
    · have ee : timesE e p = addE (timesE (e / 2) (addE p p)) p := by
        rw [← times_two p hp, show e = 2 * (e / 2) + 1 by omega]
        rw [show (2 * (e / 2) + 1) / 2 = e / 2 by omega]
        rfl
      have IH := tm_rep f (e / 2) _ _ _ _ _ _ (addE p p) (addE q p) he2 hdp (on_add q p hq hp) hd (addN_rep X Y Z x y z q p hq hp h2 h1)
      rw [add_assoc' _ _ _ hq hp (on_times _ hdp _), add_comm' p (timesE _ _), ← ee] at IH
      unfold tmX
      rw [hb]
      exact IH
    · have hb0 : e % 2 = 0 := by omega
      have ee : timesE e p = timesE (e / 2) (addE p p) := by
        rw [← times_two p hp, show 2 * (e / 2) = e by omega]
      have IH := tm_rep f (e / 2) _ _ _ X Y Z (addE p p) q he2 hdp hq hd h2
      rw [← ee] at IH
      unfold tmX
      rw [hb0]
      exact IH
def bX : Nat := 15112221349535400772501151409588531511454012693041857206046113283949847762202
def bY : Nat := 46316835694926478169428394003475163141307993866256225615783033603165251855960
def baseE : Fp × Fp := (fz bX, fz bY)
theorem base_is : (bY * bY + PN - bX * bX % PN) % PN = (1 + dN * (bX * bX % PN) % PN * (bY * bY % PN)) % PN ∧ bY * 5 % PN = 4 ∧ bX % 2 = 0 ∧ bX < PN ∧ bY < PN := by decide +kernel
theorem on_base : On baseE := by
  have h := congrArg fz base_is.1
  have hs : ∀ a b : Nat, fz (a + PN - b % PN) = fz a - fz b := fun a b => by rw [fz_sub _ _ (Nat.le_of_lt (Nat.mod_lt _ PN_pos)), fz_mod]
  simp only [fz_mod, fz_mul, hs, fz_add, fz_one] at h
  exact h
theorem base_rep : Rep (fz bX) (fz bY) (fz 1) baseE := ⟨by
  intro h
  rw [fz_null] at h
  revert h
  decide +kernel, Lean.Grind.Semiring.mul_one _, Lean.Grind.Semiring.mul_one _⟩
theorem zero_rep : Rep (fz 0) (fz 1) (fz 1) zeroE := ⟨base_rep.1, Lean.Grind.Semiring.mul_one _, Lean.Grind.Semiring.mul_one _⟩
theorem ell_num : (tmX 253 LN bX bY 1 0 1 1).1 % PN = 0 ∧ (tmX 253 LN bX bY 1 0 1 1).2.1 % PN = (tmX 253 LN bX bY 1 0 1 1).2.2 % PN := by decide +kernel
/-- The order of the base. -/
theorem ell_base : timesE LN baseE = zeroE := by
  have h := tm_rep 253 LN bX bY 1 0 1 1 baseE zeroE (by decide +kernel) on_base on_zero base_rep zero_rep
  obtain ⟨n1, n2⟩ := ell_num
  generalize tmX 253 LN bX bY 1 0 1 1 = t at *
  rw [add_comm', add_zero' _ (on_times _ on_base _)] at h
  obtain ⟨h1, h2, h3⟩ := h
  have e1 : fz t.1 = 0 := (fz_null _).2 n1
  have e2 : fz t.2.1 = fz t.2.2 := by rw [← fz_mod, n2, fz_mod]
  rw [e1] at h2
  rw [e2] at h3
  refine Prod.ext ?_ (fp_cancel _ _ _ h1 ?_)
  · rcases fp_dom _ _ h2 with h | h
    · exact h
    · exact absurd h h1
  · rw [h3]
    exact (Lean.Grind.Semiring.one_mul _).symm
theorem times_gcd (p : Fp × Fp) (hp : On p) (m n : Nat) : timesE m p = zeroE → timesE n p = zeroE → timesE (Nat.gcd m n) p = zeroE := by
  refine Nat.gcd.induction (P := fun m n => timesE m p = zeroE → timesE n p = zeroE → timesE (Nat.gcd m n) p = zeroE) m n ?_ ?_
  · intro n _ hn
    rw [Nat.gcd_zero_left]
    exact hn
  · intro m n hm ih h1 h2
    rw [Nat.gcd_rec]
    refine ih ?_ h1
    have e : timesE n p = addE (timesE (n / m * m) p) (timesE (n % m) p) := by rw [← times_add p hp, Nat.mul_comm, Nat.div_add_mod]
    rw [times_mul p hp m, h1, times_zero, add_comm', add_zero' _ (on_times p hp _)] at e
    rw [← e]
    exact h2
theorem base_not : baseE ≠ zeroE := fun h => by
  have h1 : fz bX = 0 := congrArg Prod.fst h
  rw [fz_null] at h1
  revert h1
  decide +kernel
theorem base_ne (m : Nat) (h0 : 0 < m) (h : m < 4294967296) : timesE m baseE ≠ zeroE := fun e => by
  have hg := times_gcd baseE on_base m LN e ell_base
  have hle := Nat.le_of_dvd h0 (Nat.gcd_dvd_left m LN)
  have hpos : 0 < Nat.gcd m LN := Nat.gcd_pos_of_pos_left LN h0
  have h1 : Nat.gcd m LN = 1 := by
    apply Nat.le_antisymm _ hpos
    apply Nat.le_of_not_lt
    intro h2
    have := ln_divs _ (Nat.gcd_dvd_right m LN) h2
    omega
  rw [h1] at hg
  have h2 : timesE 1 baseE = baseE := by
    show addE zeroE baseE = baseE
    rw [add_comm' zeroE baseE, add_zero' baseE on_base]
  exact base_not (h2.symm.trans hg)
/-- So many times the base, and so many: the same just for the same. -/
theorem base_inj (k l : Nat) (hk : k < 4294967296) (hl : l < 4294967296) : timesE k baseE = timesE l baseE ↔ k = l := by
  have key : ∀ k l : Nat, l < 4294967296 → k < l → timesE k baseE = timesE l baseE → False := fun k l hl h e => by
    rw [show l = k + (l - k) by omega, times_add baseE on_base] at e
    have e2 : addE (timesE k baseE) zeroE = addE (timesE k baseE) (timesE (l - k) baseE) := by rw [add_zero' _ (on_times _ on_base _)]; exact e
    exact base_ne (l - k) (by omega) (by omega) (add_left_cancel' _ _ _ (on_times _ on_base _) on_zero (on_times _ on_base _) e2).symm
  constructor
  · intro e
    rcases Nat.lt_trichotomy k l with h | h | h
    · exact (key k l hl h e).elim
    · exact h
    · exact (key l k hk h e.symm).elim
  · rintro rfl
    rfl
end Go.Proofs.Ythdbadomppohbaa
