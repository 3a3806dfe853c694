/- A great prime that divides what the order of the curve's base is less 1. No program in it. The base's order is prime; points of low order (layer 23). No program in it but the laws' Low. The law MultRules (layer 23): it returns true. -/
import Derived.Test.YtigfoophimjgdaaM05
import Derived.Test.YtigfoophimjgdaaM26
namespace Go.Proofs.Ytigfoophimjgdaa
set_option maxRecDepth 20000
set_option linter.unusedSimpArgs false
set_option linter.unusedVariables false
theorem primeG67 : PrimeN 67 := prime_cert 67 2 [2, 3, 11] (by decide +kernel) (by decide +kernel) (by decide +kernel) fun q hq => by
  simp only [List.mem_cons, List.not_mem_nil, or_false] at hq
  rcases hq with rfl | rfl | rfl
  · exact prime2
  · exact prime3
  · exact prime11
theorem primeG269 : PrimeN 269 := prime_cert 269 2 [2, 2, 67] (by decide +kernel) (by decide +kernel) (by decide +kernel) fun q hq => by
  simp only [List.mem_cons, List.not_mem_nil, or_false] at hq
  rcases hq with rfl | rfl | rfl
  · exact prime2
  · exact prime2
  · exact primeG67
theorem primeG73 : PrimeN 73 := prime_cert 73 5 [2, 2, 2, 3, 3] (by decide +kernel) (by decide +kernel) (by decide +kernel) fun q hq => by
  simp only [List.mem_cons, List.not_mem_nil, or_false] at hq
  rcases hq with rfl | rfl | rfl | rfl | rfl
  · exact prime2
  · exact prime2
  · exact prime2
  · exact prime3
  · exact prime3
theorem primeG307 : PrimeN 307 := prime_cert 307 5 [2, 3, 3, 17] (by decide +kernel) (by decide +kernel) (by decide +kernel) fun q hq => by
  simp only [List.mem_cons, List.not_mem_nil, or_false] at hq
  rcases hq with rfl | rfl | rfl | rfl
  · exact prime2
  · exact prime3
  · exact prime3
  · exact prime17
theorem primeG113 : PrimeN 113 := prime_cert 113 3 [2, 2, 2, 2, 7] (by decide +kernel) (by decide +kernel) (by decide +kernel) fun q hq => by
  simp only [List.mem_cons, List.not_mem_nil, or_false] at hq
  rcases hq with rfl | rfl | rfl | rfl | rfl
  · exact prime2
  · exact prime2
  · exact prime2
  · exact prime2
  · exact prime7
theorem primeG2939 : PrimeN 2939 := prime_cert 2939 2 [2, 13, 113] (by decide +kernel) (by decide +kernel) (by decide +kernel) fun q hq => by
  simp only [List.mem_cons, List.not_mem_nil, or_false] at hq
  rcases hq with rfl | rfl | rfl
  · exact prime2
  · exact prime13
  · exact primeG113
theorem primeG5879 : PrimeN 5879 := prime_cert 5879 11 [2, 2939] (by decide +kernel) (by decide +kernel) (by decide +kernel) fun q hq => by
  simp only [List.mem_cons, List.not_mem_nil, or_false] at hq
  rcases hq with rfl | rfl
  · exact prime2
  · exact primeG2939
theorem primeG292386187 : PrimeN 292386187 := prime_cert 292386187 2 [2, 3, 3, 3, 3, 307, 5879] (by decide +kernel) (by decide +kernel) (by decide +kernel) fun q hq => by
  simp only [List.mem_cons, List.not_mem_nil, or_false] at hq
  rcases hq with rfl | rfl | rfl | rfl | rfl | rfl | rfl
  · exact prime2
  · exact prime3
  · exact prime3
  · exact prime3
  · exact prime3
  · exact primeG307
  · exact primeG5879
theorem primeG213441916511 : PrimeN 213441916511 := prime_cert 213441916511 13 [2, 5, 73, 292386187] (by decide +kernel) (by decide +kernel) (by decide +kernel) fun q hq => by
  simp only [List.mem_cons, List.not_mem_nil, or_false] at hq
  rcases hq with rfl | rfl | rfl | rfl
  · exact prime2
  · exact prime5
  · exact primeG73
  · exact primeG292386187
theorem primeG1361 : PrimeN 1361 := prime_cert 1361 3 [2, 2, 2, 2, 5, 17] (by decide +kernel) (by decide +kernel) (by decide +kernel) fun q hq => by
  simp only [List.mem_cons, List.not_mem_nil, or_false] at hq
  rcases hq with rfl | rfl | rfl | rfl | rfl | rfl
  · exact prime2
  · exact prime2
  · exact prime2
  · exact prime2
  · exact prime5
  · exact prime17
theorem primeG2851 : PrimeN 2851 := prime_cert 2851 2 [2, 3, 5, 5, 19] (by decide +kernel) (by decide +kernel) (by decide +kernel) fun q hq => by
  simp only [List.mem_cons, List.not_mem_nil, or_false] at hq
  rcases hq with rfl | rfl | rfl | rfl | rfl
  · exact prime2
  · exact prime3
  · exact prime5
  · exact prime5
  · exact prime19
theorem primeG3797 : PrimeN 3797 := prime_cert 3797 2 [2, 2, 13, 73] (by decide +kernel) (by decide +kernel) (by decide +kernel) fun q hq => by
  simp only [List.mem_cons, List.not_mem_nil, or_false] at hq
  rcases hq with rfl | rfl | rfl | rfl
  · exact prime2
  · exact prime2
  · exact prime13
  · exact primeG73
theorem primeG531581 : PrimeN 531581 := prime_cert 531581 2 [2, 2, 5, 7, 3797] (by decide +kernel) (by decide +kernel) (by decide +kernel) fun q hq => by
  simp only [List.mem_cons, List.not_mem_nil, or_false] at hq
  rcases hq with rfl | rfl | rfl | rfl | rfl
  · exact prime2
  · exact prime2
  · exact prime5
  · exact prime7
  · exact primeG3797
theorem primeG2551 : PrimeN 2551 := prime_cert 2551 6 [2, 3, 5, 5, 17] (by decide +kernel) (by decide +kernel) (by decide +kernel) fun q hq => by
  simp only [List.mem_cons, List.not_mem_nil, or_false] at hq
  rcases hq with rfl | rfl | rfl | rfl | rfl
  · exact prime2
  · exact prime3
  · exact prime5
  · exact prime5
  · exact prime17
theorem primeG1224481 : PrimeN 1224481 := prime_cert 1224481 13 [2, 2, 2, 2, 2, 3, 5, 2551] (by decide +kernel) (by decide +kernel) (by decide +kernel) fun q hq => by
  simp only [List.mem_cons, List.not_mem_nil, or_false] at hq
  rcases hq with rfl | rfl | rfl | rfl | rfl | rfl | rfl | rfl
  · exact prime2
  · exact prime2
  · exact prime2
  · exact prime2
  · exact prime2
  · exact prime3
  · exact prime5
  · exact primeG2551
theorem primeGl0 : PrimeN 1257559732178653 := prime_cert 1257559732178653 2 [2, 2, 3, 7, 23, 531581, 1224481] (by decide +kernel) (by decide +kernel) (by decide +kernel) fun q hq => by
  simp only [List.mem_cons, List.not_mem_nil, or_false] at hq
  rcases hq with rfl | rfl | rfl | rfl | rfl | rfl | rfl
  · exact prime2
  · exact prime2
  · exact prime3
  · exact prime7
  · exact prime23
  · exact primeG531581
  · exact primeG1224481
theorem primeGl1 : PrimeN 4434155615661930479 := prime_cert 4434155615661930479 17 [2, 41, 43, 1257559732178653] (by decide +kernel) (by decide +kernel) (by decide +kernel) fun q hq => by
  simp only [List.mem_cons, List.not_mem_nil, or_false] at hq
  rcases hq with rfl | rfl | rfl | rfl
  · exact prime2
  · exact prime41
  · exact prime43
  · exact primeGl0
theorem primeGl2 : PrimeN 172054593956031949258510691 := prime_cert 172054593956031949258510691 2 [2, 5, 1361, 2851, 4434155615661930479] (by decide +kernel) (by decide +kernel) (by decide +kernel) fun q hq => by
  simp only [List.mem_cons, List.not_mem_nil, or_false] at hq
  rcases hq with rfl | rfl | rfl | rfl | rfl
  · exact prime2
  · exact prime5
  · exact primeG1361
  · exact primeG2851
  · exact primeGl1
theorem primeGl3 : PrimeN 19757330305831588566944191468367130476339 := prime_cert 19757330305831588566944191468367130476339 2 [2, 269, 213441916511, 172054593956031949258510691] (by decide +kernel) (by decide +kernel) (by decide +kernel) fun q hq => by
  simp only [List.mem_cons, List.not_mem_nil, or_false] at hq
  rcases hq with rfl | rfl | rfl | rfl
  · exact prime2
  · exact primeG269
  · exact primeG213441916511
  · exact primeGl2
def GN : Nat := 276602624281642239937218680557139826668747
theorem primeGN : PrimeN GN := prime_cert GN 2 [2, 7, 19757330305831588566944191468367130476339] (by decide +kernel) (by decide +kernel) (by decide +kernel) fun q hq => by
  simp only [List.mem_cons, List.not_mem_nil, or_false] at hq
  rcases hq with rfl | rfl | rfl
  · exact prime2
  · exact prime7
  · exact primeGl3
end Go.Proofs.Ytigfoophimjgdaa
namespace Go.Proofs.Ytigfoophimjgdaa
set_option maxRecDepth 20000
set_option linter.unusedSimpArgs false
set_option linter.unusedVariables false
open Go.RowKit Go.Sort
def e2N : Nat := 26163907866482859529727157400808004
def u2N : Nat := 2233364593245673852815932892735013076939656528578070433728021143254617821614
theorem ln_divs2 (g : Nat) (hg : g ∣ LN) (h1 : 1 < g) : GN ≤ g :=
  great_divs LN GN e2N 2 u2N primeGN (by decide +kernel) (pow_of LN 256 (LN - 1) 2 1 (by decide +kernel) (by decide +kernel)) (by rw [pow_ofR LN 256 e2N 2 (by decide +kernel)]; decide +kernel) g hg h1 (by decide +kernel)
theorem ln_sq : LN < GN * GN := by decide +kernel
theorem ln_pos : 0 < LN ∧ 1 < LN := by decide +kernel
theorem ln_prime (g : Nat) (hg : g ∣ LN) (h1 : 1 < g) : g = LN := by
  have h2 := ln_divs2 g hg h1
  obtain ⟨c, hc⟩ := hg
  have hc0 : c ≠ 0 := fun e => by
    rw [e, Nat.mul_zero] at hc
    have := ln_pos.1
    omega
  by_cases hc1 : c = 1
  · rw [hc1, Nat.mul_one] at hc
    exact hc.symm
  · have h3 := ln_divs2 c ⟨g, by rw [hc, Nat.mul_comm]⟩ (by omega)
    have h4 := Nat.mul_le_mul h2 h3
    have h5 := ln_sq
    rw [hc] at h5
    exact absurd h5 (by omega)
theorem base_order (n : Nat) (h : timesE n baseE = zeroE) : LN ∣ n := by
  have hg := times_gcd baseE on_base n LN h ell_base
  have hd : Nat.gcd n LN ∣ LN := Nat.gcd_dvd_right n LN
  have hdn : Nat.gcd n LN ∣ n := Nat.gcd_dvd_left n LN
  have hpos : 0 < Nat.gcd n LN := Nat.gcd_pos_of_pos_right n ln_pos.1
  obtain ⟨g, eg⟩ : ∃ g, Nat.gcd n LN = g := ⟨_, rfl⟩
  rw [eg] at hg hd hdn hpos
  by_cases h1 : g = 1
  · rw [h1, times_one baseE on_base] at hg
    exact absurd hg base_not
  · rw [ln_prime g hd (by omega)] at hdn
    exact hdn
theorem base_rest (n : Nat) : timesE (n % LN) baseE = timesE n baseE := by
  have h := Nat.div_add_mod n LN
  obtain ⟨q, hq⟩ : ∃ q, n / LN = q := ⟨_, rfl⟩
  obtain ⟨r, hr⟩ : ∃ r, n % LN = r := ⟨_, rfl⟩
  rw [hq, hr] at h
  rw [hr, ← h, times_add baseE on_base, Nat.mul_comm, times_mul baseE on_base, ell_base, times_zero, zeroAdd _ (on_times baseE on_base r)]
section
variable {α : Type} [Lean.Grind.CommRing α]
theorem low_k (d x y : α) (h : x * y = 0) : d * x * x * y * y = 0 := by grind
theorem low_x (x y u : α) (h : x * y = 0) : (x * y + y * x) * u = 0 := by grind
theorem low_one (a u : α) (k : α) (hk : k = 0) (hu : (1 - k) * u = 1) : a * u = a := by grind
theorem low_sq (x y d : α) (h : x * y = 0) (ho : y * y - x * x = 1 + d * (x * x) * (y * y)) : (y * y + x * x) * (y * y + x * x) + 0 * 0 = 1 := by grind
theorem zero_times (y : α) : 0 * y = 0 := by grind
end
theorem low_twice (p : Pt) (hp : On p) (h : p.1 * p.2 = 0) : addE p p = (0, p.2 * p.2 + p.1 * p.1) := by
  obtain ⟨u, v, hu, hv, e⟩ := add_parts p p hp hp
  have hk : kF p p = 0 := low_k dF p.1 p.2 h
  rw [e]
  refine Prod.ext (low_x p.1 p.2 u h) (low_one _ v _ hk hv)
theorem low_four (p : Pt) (hp : On p) (h : p.1 * p.2 = 0) : timesE 4 p = zeroE := by
  have h1 : timesE 1 p = p := times_one p hp
  have h2 : timesE 2 p = addE p p := by
    have := times_dbl 1 p hp
    rw [h1] at this
    exact this.symm
  have h4 : timesE 4 p = addE (addE p p) (addE p p) := by
    have := times_dbl 2 p hp
    rw [h2] at this
    exact this.symm
  have hq := low_twice p hp h
  have hqo : On (addE p p) := on_add p p hp hp
  rw [h4, low_twice (addE p p) hqo (by rw [hq]; exact zero_times _), hq]
  refine Prod.ext rfl ?_
  exact low_sq p.1 p.2 dF h hp
theorem low_eight (p : Pt) (hp : On p) (h : timesE 4 p = zeroE) : timesE 8 p = zeroE := by
  rw [show (8 : Nat) = 2 * 4 from rfl, times_mul p hp, h, times_zero]
def mLN : Nat := 1809251394333065553493296640760748560214279089844976901500487734571363562747
theorem ln_four : LN = mLN * 4 + 1 := by decide +kernel
theorem low_main (p : Pt) (hp : On p) (h : timesE 4 p = zeroE) : timesE LN p = p := by
  rw [ln_four, times_add p hp, times_mul p hp, h, times_zero, times_one p hp, zeroAdd p hp]
/-- The laws' points of low order: which they are. -/
theorem low_all (k : Nat) : ∃ (a : N4) (b : N3) (p : Pt), Ok4 a p ∧ Ok3 b p ∧ timesE 4 p = zeroE ∧ (p = zeroE ↔ k % 4 = 0) ∧ ∀ w, Calls Try.prog 8 #[.int .u8 (k : Int)] w fun E w' => E = .returned (.tuple #[pv4 a, pv3 b]) ∧ Below w.heap.size w w' := by
  have h4 : k % 4 = 0 ∨ k % 4 = 1 ∨ k % 4 = 2 ∨ k % 4 = 3 := by omega
  rcases h4 with h | h | h | h
  · exact ⟨_, _, _, ok4_p _ on_low0, ok3_at 0 1 zero_below one_below on_low0, low_four _ on_low0 (by decide +kernel), ⟨fun _ => h, fun _ => rfl⟩, low0 k h⟩
  · exact ⟨_, _, _, ok4_p _ on_low1, ok3_at 0 mN zero_below mN_lt on_low1, low_four _ on_low1 (by decide +kernel), ⟨fun e => absurd e (by decide +kernel), fun e => by omega⟩, low1 k h⟩
  · exact ⟨_, _, _, ok4_p _ on_low2, ok3_at iR 0 iR_lt zero_below on_low2, low_four _ on_low2 (by decide +kernel), ⟨fun e => absurd e (by decide +kernel), fun e => by omega⟩, low2 k h⟩
  · exact ⟨_, _, _, ok4_p _ on_low3, ok3_at jR 0 jR_lt zero_below on_low3, low_four _ on_low3 (by decide +kernel), ⟨fun e => absurd e (by decide +kernel), fun e => by omega⟩, low3 k h⟩
/-- Eight times, and L times, a multiple of the base and a point of low order. -/
theorem eight_of (s : Nat) (hs : s < LN) (p : Pt) (hp : On p) (h : timesE 4 p = zeroE) : timesE 8 (addE (addE zeroE (timesE s baseE)) p) = zeroE ↔ s = 0 := by
  have hb := on_times baseE on_base s
  rw [zz2 _ _ hb hp, times_sum _ _ hb hp, low_eight p hp h, add_zero' _ (on_times _ hb 8), ← times_mul baseE on_base]
  constructor
  · intro e
    obtain ⟨c, hc⟩ := base_order _ e
    have hL : LN = mLN * 4 + 1 := ln_four
    have h8 : c < 8 := by
      apply Nat.lt_of_not_le
      intro h8
      have := Nat.mul_le_mul_left LN h8
      omega
    have : c = 0 := by
      have hm : LN % 8 = 5 := by decide +kernel
      have h1 : LN * c % 8 = 0 := by rw [← hc]; omega
      rw [Nat.mul_mod, hm] at h1
      omega
    rw [this, Nat.mul_zero] at hc
    omega
  · intro e
    rw [e, Nat.mul_zero]
    rfl
theorem main_of (s : Nat) (p : Pt) (hp : On p) (h : timesE 4 p = zeroE) : timesE LN (addE (addE zeroE (timesE s baseE)) p) = zeroE ↔ p = zeroE := by
  have hb := on_times baseE on_base s
  rw [zz2 _ _ hb hp, times_sum _ _ hb hp, low_main p hp h, ← times_mul baseE on_base, Nat.mul_comm, times_mul baseE on_base, ell_base, times_zero, zeroAdd p hp]
theorem sum_of (k l s : Nat) (hs : (k + l) % LN = s) : timesE s baseE = addE (timesE k baseE) (timesE l baseE) := by
  rw [← hs, base_rest, times_add baseE on_base]
end Go.Proofs.Ytigfoophimjgdaa
namespace Go.Proofs.Ytigfoophimjgdaa
set_option maxRecDepth 20000
set_option linter.unusedSimpArgs false
set_option linter.unusedVariables false
open Go.RowKit Go.Sort
theorem bs_Wn2 (k l : Nat) (W : World) : (Instr.buildSlice 103 2 #[(0, numV k), (1, numV l)]).run Try.prog W = .ok (.slice (some ⟨W.heap.size, 0, none⟩) 2 2) (W.alloc (.cells (elR k ++ elR l) 25 (0, 0))) := by
  unfold numV elR
  go_simp
theorem ssum2 (k l s : Nat) (hk : k < B64 ^ 4) (hl : l < B64 ^ 4) (hs : (k + l) % LN = s) (g : Nat) (W : World) (h : W.heap[g]? = some (.cells (elR k ++ elR l) 25 (0, 0))) : Calls Try.prog 24 #[.slice (some ⟨g, 0, none⟩) 2 2] W fun e w' => e = .returned (numV s) ∧ Below W.heap.size W w' := by
  have hc := scasum_any (some ⟨g, 0, none⟩) 2 2 [k, l] W (by decide) ⟨rfl, fun n hn => by
    simp only [List.mem_cons, List.not_mem_nil, or_false] at hn
    rcases hn with rfl | rfl
    · exact hk
    · exact hl, fun _ => ⟨g, rfl, (Array.getElem?_eq_some_iff.1 h).1, fun i j hi hj => by
    rw [cell_of_row W g (i * 4 + j) _ _ _ h]
    have hi2 : i = 0 ∨ i = 1 := by omega
    have hj4 : j = 0 ∨ j = 1 ∨ j = 2 ∨ j = 3 := by omega
    rcases hi2 with rfl | rfl <;> rcases hj4 with rfl | rfl | rfl | rfl <;> rfl⟩⟩
  rw [show [k, l].foldl (fun a b => (a + b) % LN) 0 = s by
    rw [← hs]
    simp only [List.foldl_cons, List.foldl_nil, Nat.zero_add]
    rw [Nat.mod_add_mod]] at hc
  exact hc
theorem bin_rem8' (a q : Nat) (hq : a % 4 = q) (x y : Operand) (W : World) : (do eqGuard .rem 5 x y (.int .u8 (a : Int)) (.int .u8 4); binOp .rem 5 (.int .u8 (a : Int)) (.int .u8 4) : Sem Value).run Try.prog W = .ok (.int .u8 (q : Int)) W := by
  have e : ((a : Int).tmod 4) = (q : Int) := by rw [Int.tmod_eq_emod_of_nonneg (by omega)]; omega
  have e2 : IntKind.u8.wrap (q : Int) = (q : Int) := IntWalk.u8_in _ (by omega)
  have e3 : (a : Int) % 4 = (q : Int) := by omega
  clear hq
  go_simp
theorem bin_eql8 (q : Nat) (x y : Operand) (W : World) : (do eqGuard .eql 5 x y (.int .u8 (q : Int)) (.int .u8 0); binOp .eql 5 (.int .u8 (q : Int)) (.int .u8 0) : Sem Value).run Try.prog W = .ok (.bool (decide (q = 0))) W := by
  have e : ((q : Int) == 0) = decide (q = 0) := by
    rw [Bool.eq_iff_iff]
    simp
  go_simp
theorem bin_eql_self_b (c : Bool) (x y : Operand) (W : World) : (do eqGuard .eql 4 x y (.bool c) (.bool c); binOp .eql 4 (.bool c) (.bool c) : Sem Value).run Try.prog W = .ok (.bool true) W := by
  cases c <;> rfl
theorem isz_B (s : Nat) (hs : s < B64 ^ 4) (B : Bool) (hB : decide (s = 0) = B) (w : World) : Calls Try.prog 29 #[numV s] w fun e w' => e = .returned (.bool B) ∧ Below w.heap.size w w' := by
  rw [← hB]
  exact isZero_any s w hs
set_option maxRecDepth 20000 in
set_option maxHeartbeats 8000000 in
theorem multRules_walk (k l : Nat) (m0 : Int) (w : World) (hk : k < B64 ^ 4) (hl : l < B64 ^ 4) (wm : (Lit.int .u8 m0).wf = true) : Calls Try.prog 6 #[numV k, numV l, .int .u8 m0] w fun e w' => e = .returned (.bool true) ∧ Below w.heap.size w w' := by
  obtain ⟨m, rfl, hm⟩ := u8_nat m0 wm
  clear wm
  obtain ⟨s, hse⟩ : ∃ x, (k + l) % LN = x := ⟨_, rfl⟩
  have hsL : s < LN := by rw [← hse]; exact Nat.mod_lt _ ln_pos.1
  have hsB : s < B64 ^ 4 := Nat.lt_trans hsL LN_lt
  obtain ⟨am, bm, pm, ham, hbm, hp4, hpm, Kbm⟩ := low_all m
  have Kbm := Lib.hid Kbm
  obtain ⟨q4, hq4⟩ : ∃ x, m % 4 = x := ⟨_, rfl⟩
  rw [hq4] at hpm
  obtain ⟨BM, hBM⟩ : ∃ x, decide (q4 = 0) = x := ⟨_, rfl⟩
  have hBMq := hBM
  obtain ⟨BZ, hBZ⟩ : ∃ x, decide (s = 0) = x := ⟨_, rfl⟩
  have HMIX := Lib.hid (show Try.prog.follows .mixedOrders = true by kernel_rfl)
  go_enter Try.func6, Try.ntmps6
  have hM0 := Mem.start w
  (go_step; go_step; refine wp_region_lit ?_)
  refine wl_new hM0 (f := fun b => .pointer (some ⟨b, 0, none⟩)) (ob := .cells (elR k) 24 (0, 0)) (fun W => run_box_of rfl rfl (bx_Nu k W)) rfl fun b1 W1 hM1 => ?_
  simp only [Act.put, List.setIfInBounds_toArray, List.set_cons_zero, List.set_cons_succ]
  refine wl_new hM1 (f := fun b => .pointer (some ⟨b, 0, none⟩)) (ob := .cells (elR l) 24 (0, 0)) (fun W => run_box_of rfl rfl (bx_Nu l W)) rfl fun b2 W2 hM2 => ?_
  simp only [Act.put, List.setIfInBounds_toArray, List.set_cons_zero, List.set_cons_succ]
  refine wl_pure (v := .bool false) (fun _ => rfl) rfl ?_
  simp only [Act.put, List.setIfInBounds_toArray, List.set_cons_zero, List.set_cons_succ]
  refine wpList_nil ?_
  have hPair := hM2.drew
  (go_step; go_step; go_step; refine wp_region_cut (Q' := fun e A1 w1 => e = .normal ∧ ∃ b3 b4, A1 = { tmps := #[numV k, numV l, .int .u8 (m : Int), .pointer (some ⟨b1, 0, none⟩), .pointer (some ⟨b2, 0, none⟩), undef, .bool false, .pointer (some ⟨b3, 0, none⟩), .pointer (some ⟨b4, 0, none⟩), undef, undef, undef, undef, undef, numV k, numV l, undef, undef, undef, undef, undef, undef, undef, undef, undef, undef, undef, undef, undef, undef, undef, undef, undef, undef, undef, undef, undef, undef, undef, undef, undef, undef, undef, undef, undef, undef, undef, undef, undef, undef, undef, undef, undef, undef, undef, undef, undef, undef, undef, undef, undef, undef, undef, undef, undef, undef, undef, undef, undef], defers := [] } ∧ Mem w [(b4, .cells (elR l) 25 (0, 0)), (b3, .cells (elR k) 25 (0, 0)), (b2, .cells (elR l) 24 (0, 0)), (b1, .cells (elR k) 24 (0, 0))] w1) ?_ ?_)
  rotate_left
  · refine wp_region_noPanic (wp_region_held_drew HMIX.out (S := fun w1 => w1.heap[b1]? = some (.cells (elR k) 24 (0, 0)) ∧ w1.heap[b2]? = some (.cells (elR l) 24 (0, 0))) (⟨hPair.get 1 rfl, hPair.get 0 rfl⟩) fun hS => ?_)
    change wpAnyH _ _ _ _ _ 6 _ _ _
    generalize W2.drew = w9 at hPair hS ⊢
    refine hd_row 0 14 #[true, false, false, false, false, false] (by kernel_rfl) (v := numV k) (cs := (elR k)) (b := b1) rfl rfl rfl rfl (fun W hW => hW.1) rfl rowNu (by kernel_rfl) (by kernel_rfl) (by kernel_rfl) rfl hS ?_
    simp only [Act.put, List.setIfInBounds_toArray, List.set_cons_zero, List.set_cons_succ]
    refine hd_row 1 15 #[true, true, false, false, false, false] (by kernel_rfl) (v := numV l) (cs := (elR l)) (b := b2) rfl rfl rfl rfl (fun W hW => hW.2) rfl rowNu (by kernel_rfl) (by kernel_rfl) (by kernel_rfl) rfl hS ?_
    simp only [Act.put, List.setIfInBounds_toArray, List.set_cons_zero, List.set_cons_succ]
    refine wpAnyH_ready (rs := [2, 3]) (by kernel_rfl) (by simp) ?_
    intro i hi
    simp only [List.mem_cons, List.not_mem_nil, or_false] at hi
    rcases hi with rfl | rfl
    · skip
      refine hdop_new (f := fun b => .pointer (some ⟨b, 0, none⟩)) rfl rfl rfl hPair (fun W => run_alloc_of rfl (al_Wn W)) #[true, true, true, false, false, false] (by kernel_rfl) fun b3 w8 hA => ⟨⟨hA.get 2 rfl, hA.get 1 rfl⟩, ?_⟩
      simp only [Act.put, List.setIfInBounds_toArray, List.set_cons_zero, List.set_cons_succ]
      refine wpAnyH_ready (rs := [3]) (by kernel_rfl) (by simp) ?_
      intro i hi
      simp only [List.mem_cons, List.not_mem_nil, or_false] at hi
      subst hi
      refine hdop_new (f := fun b => .pointer (some ⟨b, 0, none⟩)) rfl rfl rfl hA (fun W => run_alloc_of rfl (al_Wn W)) #[true, true, true, true, false, false] (by kernel_rfl) fun b4 w7 hC => ⟨⟨hC.get 3 rfl, hC.get 2 rfl⟩, ?_⟩
      simp only [Act.put, List.setIfInBounds_toArray, List.set_cons_zero, List.set_cons_succ]
      refine hd_set (n := 4) #[true, true, true, true, true, false] (by kernel_rfl) (by kernel_rfl) rfl hC 1 (cs := (elR k)) rfl rfl rfl rfl rowWn rfl (one_el k) rfl rfl (fun W hW => ⟨hW.get 3 rfl, hW.get 2 rfl⟩) fun w6 hC => ?_
      simp only [List.set_cons_zero, List.set_cons_succ] at hC
      refine hd_set (n := 5) #[true, true, true, true, true, true] (by kernel_rfl) (by kernel_rfl) rfl hC 0 (cs := (elR l)) rfl rfl rfl rfl rowWn rfl (one_el l) rfl rfl (fun W hW => ⟨hW.get 3 rfl, hW.get 2 rfl⟩) fun w5 hC => ?_
      simp only [List.set_cons_zero, List.set_cons_succ] at hC
      refine wpAnyH_done (by kernel_rfl) ?_ _
      exact NoPanic.normal ⟨rfl, _, _, rfl, hC⟩
    · skip
      refine hdop_new (f := fun b => .pointer (some ⟨b, 0, none⟩)) rfl rfl rfl hPair (fun W => run_alloc_of rfl (al_Wn W)) #[true, true, false, true, false, false] (by kernel_rfl) fun b4 w8 hB => ⟨⟨hB.get 2 rfl, hB.get 1 rfl⟩, ?_⟩
      simp only [Act.put, List.setIfInBounds_toArray, List.set_cons_zero, List.set_cons_succ]
      refine wpAnyH_ready (rs := [2]) (by kernel_rfl) (by simp) ?_
      intro i hi
      simp only [List.mem_cons, List.not_mem_nil, or_false] at hi
      subst hi
      refine hdop_new (f := fun b => .pointer (some ⟨b, 0, none⟩)) rfl rfl rfl hB (fun W => run_alloc_of rfl (al_Wn W)) #[true, true, true, true, false, false] (by kernel_rfl) fun b3 w7 hC => ⟨⟨hC.get 3 rfl, hC.get 2 rfl⟩, ?_⟩
      simp only [Act.put, List.setIfInBounds_toArray, List.set_cons_zero, List.set_cons_succ]
      have hC := hC.swap
      refine hd_set (n := 4) #[true, true, true, true, true, false] (by kernel_rfl) (by kernel_rfl) rfl hC 1 (cs := (elR k)) rfl rfl rfl rfl rowWn rfl (one_el k) rfl rfl (fun W hW => ⟨hW.get 3 rfl, hW.get 2 rfl⟩) fun w6 hC => ?_
      simp only [List.set_cons_zero, List.set_cons_succ] at hC
      refine hd_set (n := 5) #[true, true, true, true, true, true] (by kernel_rfl) (by kernel_rfl) rfl hC 0 (cs := (elR l)) rfl rfl rfl rfl rowWn rfl (one_el l) rfl rfl (fun W hW => ⟨hW.get 3 rfl, hW.get 2 rfl⟩) fun w5 hC => ?_
      simp only [List.set_cons_zero, List.set_cons_succ] at hC
      refine wpAnyH_done (by kernel_rfl) ?_ _
      exact NoPanic.normal ⟨rfl, _, _, rfl, hC⟩
  rintro e A1 W3 ⟨rfl, b3, b4, rfl, hM3⟩
  clear hPair
  (go_step; go_step; go_step; refine wp_region_lit ?_)
  refine wl_row hM3 1 (v := numV k) rfl rfl rfl rfl rowWn rfl ?_
  simp only [Act.put, List.setIfInBounds_toArray, List.set_cons_zero, List.set_cons_succ]
  refine wl_row hM3 0 (v := numV l) rfl rfl rfl rfl rowWn rfl ?_
  simp only [Act.put, List.setIfInBounds_toArray, List.set_cons_zero, List.set_cons_succ]
  refine wl_new hM3 (f := fun b => .slice (some ⟨b, 0, none⟩) 2 2) (ob := .cells (elR k ++ elR l) 25 (0, 0)) (fun W => run_slice_of rfl (by simp [Act.eval]) (bs_Wn2 k l W)) rfl fun b5 W4 hM4 => ?_
  simp only [Act.put, List.setIfInBounds_toArray, List.set_cons_zero, List.set_cons_succ]
  refine wl_call hM4 (args := #[.slice (some ⟨b5, 0, none⟩) 2 2]) (v := numV s) (fun W => run_call_fn W (enters_of Try.func24 rfl rfl) rfl (by simp [Act.eval])) (ssum2 k l s hk hl hse b5 W4 (hM4.get 0 rfl)) rfl fun W5 hM5 => ?_
  simp only [Act.put, List.setIfInBounds_toArray, List.set_cons_zero, List.set_cons_succ]
  refine wl_new hM5 (f := fun b => .pointer (some ⟨b, 0, none⟩)) (ob := .cells z4 25 (0, 0)) (fun W => run_alloc_of rfl (al_Wn W)) rfl fun b6 W6 hM6 => ?_
  simp only [Act.put, List.setIfInBounds_toArray, List.set_cons_zero, List.set_cons_succ]
  refine wl_set hM6 0 (cs := (elR s)) rfl rfl rfl rfl rowWn rfl (one_el s) rfl rfl fun W7 hM7 => ?_
  simp only [List.set_cons_zero, List.set_cons_succ] at hM7
  refine wpList_nil ?_
  (go_step; go_step; go_step; refine wp_region_lit ?_)
  refine wl_pure (v := .int .u8 (m : Int)) (fun _ => rfl) rfl ?_
  simp only [Act.put, List.setIfInBounds_toArray, List.set_cons_zero, List.set_cons_succ]
  refine wl_call hM7 (args := #[.int .u8 (m : Int)]) (v := .tuple #[pv4 am, pv3 bm]) (fun W => run_call_fn W (enters_of Try.func8 rfl rfl) rfl (by simp [Act.eval])) (Kbm.out W7) rfl fun W8 hM8 => ?_
  simp only [Act.put, List.setIfInBounds_toArray, List.set_cons_zero, List.set_cons_succ]
  refine wl_pure (v := .tuple #[pv4 am, pv3 bm]) (fun _ => rfl) rfl ?_
  simp only [Act.put, List.setIfInBounds_toArray, List.set_cons_zero, List.set_cons_succ]
  refine wl_pure (v := pv4 am) (fun _ => rfl) rfl ?_
  simp only [Act.put, List.setIfInBounds_toArray, List.set_cons_zero, List.set_cons_succ]
  refine wl_pure (v := pv3 bm) (fun _ => rfl) rfl ?_
  simp only [Act.put, List.setIfInBounds_toArray, List.set_cons_zero, List.set_cons_succ]
  refine wl_new hM8 (f := fun b => .pointer (some ⟨b, 0, none⟩)) (ob := .cells z16 30 (0, 0)) (fun W => run_alloc_of rfl (al_Pt W)) rfl fun b7 W9 hM9 => ?_
  simp only [Act.put, List.setIfInBounds_toArray, List.set_cons_zero, List.set_cons_succ]
  refine wl_new hM9 (f := fun b => .pointer (some ⟨b, 0, none⟩)) (ob := .cells z12 32 (0, 0)) (fun W => run_alloc_of rfl (al_Rp W)) rfl fun b8 W10 hM10 => ?_
  simp only [Act.put, List.setIfInBounds_toArray, List.set_cons_zero, List.set_cons_succ]
  refine wl_set hM10 1 (cs := ((pc4 am))) rfl rfl rfl rfl rowPt rfl (one_p4 _) rfl rfl fun W11 hM11 => ?_
  simp only [List.set_cons_zero, List.set_cons_succ] at hM11
  refine wl_set hM11 0 (cs := ((rpL bm.1 bm.2.1 bm.2.2).toArray)) rfl rfl rfl rfl rowRp rfl (one_rp _ _ _) rfl rfl fun W12 hM12 => ?_
  simp only [List.set_cons_zero, List.set_cons_succ] at hM12
  refine wpList_nil ?_
  (go_step; go_step; go_step; refine wp_region_lit ?_)
  refine wl_row hM12 2 (v := numV s) rfl rfl rfl rfl rowWn rfl ?_
  simp only [Act.put, List.setIfInBounds_toArray, List.set_cons_zero, List.set_cons_succ]
  obtain ⟨R1, oR1, KR1⟩ := base_ex s hsB
  refine wl_call hM12 (args := #[numV s]) (v := pv4 R1) (fun W => run_call_fn W (enters_of Try.func25 rfl rfl) rfl (by simp [Act.eval])) (KR1.out W12) rfl fun W13 hM13 => ?_
  simp only [Act.put, List.setIfInBounds_toArray, List.set_cons_zero, List.set_cons_succ]
  refine wl_new hM13 (f := fun b => .pointer (some ⟨b, 0, none⟩)) (ob := .cells z16 30 (0, 0)) (fun W => run_alloc_of rfl (al_Pt W)) rfl fun b9 W14 hM14 => ?_
  simp only [Act.put, List.setIfInBounds_toArray, List.set_cons_zero, List.set_cons_succ]
  refine wl_set hM14 0 (cs := ((pc4 R1))) rfl rfl rfl rfl rowPt rfl (one_p4 _) rfl rfl fun W15 hM15 => ?_
  simp only [List.set_cons_zero, List.set_cons_succ] at hM15
  refine wpList_nil ?_
  (go_step; go_step; go_step; refine wp_region_lit ?_)
  refine wl_row hM15 0 (v := pv4 R1) rfl rfl rfl rfl rowPt rfl ?_
  simp only [Act.put, List.setIfInBounds_toArray, List.set_cons_zero, List.set_cons_succ]
  refine wl_row hM15 2 (v := pv4 am) rfl rfl rfl rfl rowPt rfl ?_
  simp only [Act.put, List.setIfInBounds_toArray, List.set_cons_zero, List.set_cons_succ]
  refine wl_new hM15 (f := fun b => .slice (some ⟨b, 0, none⟩) 2 2) (ob := .cells ((pl4 R1 ++ pl4 am).toArray) 30 (0, 0)) (fun W => run_slice_of rfl (by simp [Act.eval]) (bsP2 R1 am W)) rfl fun b10 W16 hM16 => ?_
  simp only [Act.put, List.setIfInBounds_toArray, List.set_cons_zero, List.set_cons_succ]
  obtain ⟨r1, er1⟩ : ∃ x, x = (add4 (add4 zero4 R1) am) := ⟨_, rfl⟩
  have or1 := (ok4_add (ok4_add ok4_zero oR1) ham)
  rw [← er1] at or1
  have Kr1 := Lib.hid (addl2 oR1 ham)
  simp only [← er1] at Kr1
  refine wl_call hM16 (args := #[.slice (some ⟨b10, 0, none⟩) 2 2]) (v := pv4 r1) (fun W => run_call_fn W (enters_of Try.func9 rfl rfl) rfl (by simp [Act.eval])) (Kr1.out b10 W16 (hM16.get 0 rfl)) rfl fun W17 hM17 => ?_
  simp only [Act.put, List.setIfInBounds_toArray, List.set_cons_zero, List.set_cons_succ]
  refine wl_new hM17 (f := fun b => .pointer (some ⟨b, 0, none⟩)) (ob := .cells z16 30 (0, 0)) (fun W => run_alloc_of rfl (al_Pt W)) rfl fun b11 W18 hM18 => ?_
  simp only [Act.put, List.setIfInBounds_toArray, List.set_cons_zero, List.set_cons_succ]
  refine wl_set hM18 0 (cs := ((pc4 r1))) rfl rfl rfl rfl rowPt rfl (one_p4 _) rfl rfl fun W19 hM19 => ?_
  simp only [List.set_cons_zero, List.set_cons_succ] at hM19
  refine wpList_nil ?_
  (go_step; go_step; go_step; refine wp_region_inw 39 HMIX.out (by decide) (by kernel_rfl) (by kernel_rfl) ?_)
  refine inw_row hM19 2 (v := pv4 R1) rfl rfl rfl rfl rowPt rfl rfl ?_; simp only [Act.put, List.setIfInBounds_toArray, List.set_cons_zero, List.set_cons_succ]
  refine inw_row hM19 8 (v := numV k) rfl rfl rfl rfl rowWn rfl rfl ?_; simp only [Act.put, List.setIfInBounds_toArray, List.set_cons_zero, List.set_cons_succ]
  obtain ⟨R2, oR2, KR2⟩ := base_ex k hk
  refine inw_callV (args := #[numV k]) (v := pv4 R2) (fun W => run_call_fn W (enters_of Try.func25 rfl rfl) rfl (by simp [Act.eval])) (fun W _ => KR2.out W) rfl rfl ?_; simp only [Act.put, List.setIfInBounds_toArray, List.set_cons_zero, List.set_cons_succ]
  refine inw_row hM19 7 (v := numV l) rfl rfl rfl rfl rowWn rfl rfl ?_; simp only [Act.put, List.setIfInBounds_toArray, List.set_cons_zero, List.set_cons_succ]
  obtain ⟨R3, oR3, KR3⟩ := base_ex l hl
  refine inw_callV (args := #[numV l]) (v := pv4 R3) (fun W => run_call_fn W (enters_of Try.func25 rfl rfl) rfl (by simp [Act.eval])) (fun W _ => KR3.out W) rfl rfl ?_; simp only [Act.put, List.setIfInBounds_toArray, List.set_cons_zero, List.set_cons_succ]
  refine inw_slice (n := 2) (L := (pl4 R2 ++ pl4 R3).toArray) (T := 30) (fun W => run_slice_of rfl (by simp [Act.eval]) (bsP2 R2 R3 W)) rfl rfl ?_; simp only [List.nil_append, List.cons_append]
  obtain ⟨r2, er2⟩ : ∃ x, x = (add4 (add4 zero4 R2) R3) := ⟨_, rfl⟩
  have or2 := (ok4_add (ok4_add ok4_zero oR2) oR3)
  rw [← er2] at or2
  have Kr2 := Lib.hid (addl2 oR2 oR3)
  simp only [← er2] at Kr2
  refine inw_callS 5 36 (v := pv4 r2) rfl rfl (fun _ => rfl) (fun b W => run_call_fn W (enters_of Try.func9 rfl rfl) rfl (by simp [Act.eval, Act.put])) (fun b W h => Kr2.out b W h) ?_; simp only [Act.put, List.setIfInBounds_toArray, List.set_cons_zero, List.set_cons_succ]
  refine inw_callV (args := #[pv4 R1, pv4 r2]) (v := .bool true) (fun W => run_call_fn W (enters_of Try.func15 rfl rfl) rfl (by simp [Act.eval])) (fun W _ => same_yes oR1 or2 (by rw [zz2 _ _ (on_times baseE on_base k) (on_times baseE on_base l)]; exact sum_of k l s hse) W) rfl rfl ?_; simp only [Act.put, List.setIfInBounds_toArray, List.set_cons_zero, List.set_cons_succ]
  refine inw_pure (v := .bool true) (fun _ => rfl) rfl rfl ?_; simp only [Act.put, List.setIfInBounds_toArray, List.set_cons_zero, List.set_cons_succ]
  refine inw_row hM19 2 (v := pv4 R1) rfl rfl rfl rfl rowPt rfl rfl ?_; simp only [Act.put, List.setIfInBounds_toArray, List.set_cons_zero, List.set_cons_succ]
  refine inw_row hM19 8 (v := numV k) rfl rfl rfl rfl rowWn rfl rfl ?_; simp only [Act.put, List.setIfInBounds_toArray, List.set_cons_zero, List.set_cons_succ]
  refine inw_callV (args := #[]) (v := pv4 base4) (fun W => run_call_fn W (enters_of Try.func26 rfl rfl) rfl (by simp [Act.eval])) (fun W _ => base4_any W) rfl rfl ?_; simp only [Act.put, List.setIfInBounds_toArray, List.set_cons_zero, List.set_cons_succ]
  refine inw_row hM19 7 (v := numV l) rfl rfl rfl rfl rowWn rfl rfl ?_; simp only [Act.put, List.setIfInBounds_toArray, List.set_cons_zero, List.set_cons_succ]
  obtain ⟨R4, oR4, KR4⟩ := both_ex4 ok4_base k l hk hl
  refine inw_callV (args := #[numV k, pv4 base4, numV l]) (v := pv4 R4) (fun W => run_call_fn W (enters_of Try.func21 rfl rfl) rfl (by simp [Act.eval])) (fun W _ => KR4.out W) rfl rfl ?_; simp only [Act.put, List.setIfInBounds_toArray, List.set_cons_zero, List.set_cons_succ]
  refine inw_callV (args := #[pv4 R1, pv4 R4]) (v := .bool true) (fun W => run_call_fn W (enters_of Try.func15 rfl rfl) rfl (by simp [Act.eval])) (fun W _ => same_yes oR1 oR4 (sum_of k l s hse) W) rfl rfl ?_; simp only [Act.put, List.setIfInBounds_toArray, List.set_cons_zero, List.set_cons_succ]
  refine inw_pure (v := .bool true) (fun _ => rfl) rfl rfl ?_; simp only [Act.put, List.setIfInBounds_toArray, List.set_cons_zero, List.set_cons_succ]
  refine inw_pure (v := .bool true) (fun _ => rfl) rfl rfl ?_; simp only [Act.put, List.setIfInBounds_toArray, List.set_cons_zero, List.set_cons_succ]
  refine inw_row hM19 4 (v := pv4 am) rfl rfl rfl rfl rowPt rfl rfl ?_; simp only [Act.put, List.setIfInBounds_toArray, List.set_cons_zero, List.set_cons_succ]
  refine inw_callV (args := #[pv4 am]) (v := .bool true) (fun W => run_call_fn W (enters_of Try.func27 rfl rfl) rfl (by simp [Act.eval])) (fun W _ => (fun W => msmall_any ham true (decide_eq_true (low_eight pm ham.on hp4)) W) W) rfl rfl ?_; simp only [Act.put, List.setIfInBounds_toArray, List.set_cons_zero, List.set_cons_succ]
  refine inw_pure (v := .bool true) (fun _ => rfl) rfl rfl ?_; simp only [Act.put, List.setIfInBounds_toArray, List.set_cons_zero, List.set_cons_succ]
  refine inw_pure (v := .bool true) (fun _ => rfl) rfl rfl ?_; simp only [Act.put, List.setIfInBounds_toArray, List.set_cons_zero, List.set_cons_succ]
  refine inw_row hM19 0 (v := pv4 r1) rfl rfl rfl rfl rowPt rfl rfl ?_; simp only [Act.put, List.setIfInBounds_toArray, List.set_cons_zero, List.set_cons_succ]
  refine inw_callV (args := #[pv4 r1]) (v := .bool BM) (fun W => run_call_fn W (enters_of Try.func28 rfl rfl) rfl (by simp [Act.eval])) (fun W _ => (fun W => mmain_any or1 BM (by rw [← hBM]; exact decide_eq_decide.2 ((main_of s pm ham.on hp4).trans hpm)) W) W) rfl rfl ?_; simp only [Act.put, List.setIfInBounds_toArray, List.set_cons_zero, List.set_cons_succ]
  refine inw_pure (v := .int .u8 (m : Int)) (fun _ => rfl) rfl rfl ?_; simp only [Act.put, List.setIfInBounds_toArray, List.set_cons_zero, List.set_cons_succ]
  refine inw_pure (v := .int .u8 (q4 : Int)) (fun W => run_bin_of rfl rfl rfl (bin_rem8' m q4 hq4 _ _ W)) rfl rfl ?_; simp only [Act.put, List.setIfInBounds_toArray, List.set_cons_zero, List.set_cons_succ]
  refine inw_pure (v := .bool BM) (fun W => run_bin_of rfl rfl rfl (by rw [← hBMq]; exact bin_eql8 q4 _ _ W)) rfl rfl ?_; simp only [Act.put, List.setIfInBounds_toArray, List.set_cons_zero, List.set_cons_succ]
  refine inw_pure (v := .bool true) (fun W => run_bin_of rfl rfl rfl (bin_eql_self_b BM _ _ W)) rfl rfl ?_; simp only [Act.put, List.setIfInBounds_toArray, List.set_cons_zero, List.set_cons_succ]
  refine inw_pure (v := .bool true) (fun _ => rfl) rfl rfl ?_; simp only [Act.put, List.setIfInBounds_toArray, List.set_cons_zero, List.set_cons_succ]
  refine inw_pure (v := .bool true) (fun _ => rfl) rfl rfl ?_; simp only [Act.put, List.setIfInBounds_toArray, List.set_cons_zero, List.set_cons_succ]
  refine inw_row hM19 0 (v := pv4 r1) rfl rfl rfl rfl rowPt rfl rfl ?_; simp only [Act.put, List.setIfInBounds_toArray, List.set_cons_zero, List.set_cons_succ]
  refine inw_callV (args := #[pv4 r1]) (v := .bool BZ) (fun W => run_call_fn W (enters_of Try.func27 rfl rfl) rfl (by simp [Act.eval])) (fun W _ => (fun W => msmall_any or1 BZ (by rw [← hBZ]; exact decide_eq_decide.2 (eight_of s hsL pm ham.on hp4)) W) W) rfl rfl ?_; simp only [Act.put, List.setIfInBounds_toArray, List.set_cons_zero, List.set_cons_succ]
  refine inw_row hM19 5 (v := numV s) rfl rfl rfl rfl rowWn rfl rfl ?_; simp only [Act.put, List.setIfInBounds_toArray, List.set_cons_zero, List.set_cons_succ]
  refine inw_callV (args := #[numV s]) (v := .bool BZ) (fun W => run_call_fn W (enters_of Try.func29 rfl rfl) rfl (by simp [Act.eval])) (fun W _ => (fun W => isz_B s hsB BZ hBZ W) W) rfl rfl ?_; simp only [Act.put, List.setIfInBounds_toArray, List.set_cons_zero, List.set_cons_succ]
  refine inw_pure (v := .bool true) (fun W => run_bin_of rfl rfl rfl (bin_eql_self_b BZ _ _ W)) rfl rfl ?_; simp only [Act.put, List.setIfInBounds_toArray, List.set_cons_zero, List.set_cons_succ]
  refine inw_pure (v := .bool true) (fun _ => rfl) rfl rfl ?_; simp only [Act.put, List.setIfInBounds_toArray, List.set_cons_zero, List.set_cons_succ]
  refine inw_pure (v := .bool true) (fun _ => rfl) rfl rfl ?_; simp only [Act.put, List.setIfInBounds_toArray, List.set_cons_zero, List.set_cons_succ]
  refine inw_callV (args := #[]) (v := .bool true) (fun W => run_call_fn W (enters_of Try.func23 rfl rfl) rfl (by simp [Act.eval])) (fun W _ => lives23_any W) rfl rfl ?_; simp only [Act.put, List.setIfInBounds_toArray, List.set_cons_zero, List.set_cons_succ]
  refine inw_pure (v := .bool true) (fun _ => rfl) rfl rfl ?_; simp only [Act.put, List.setIfInBounds_toArray, List.set_cons_zero, List.set_cons_succ]
  refine inw_pure (v := .bool true) (fun _ => rfl) rfl rfl ?_; simp only [Act.put, List.setIfInBounds_toArray, List.set_cons_zero, List.set_cons_succ]
  refine inw_fin fun d os => ?_
  refine given_mk (t := 36) rfl fun s5 => ?_
  refine given_nil fun hap => ?_
  simp only [Act.put, List.setIfInBounds_toArray, List.set_cons_zero, List.set_cons_succ] at hap ⊢
  have hM20 := hM19.calls (below_regrown W19 d os)
  clear hap 
  generalize grow (redrawn W19 d) os = W20 at hM20 ⊢
  refine wpAny_done (by kernel_rfl) ?_ _
  (go_step; go_step; go_step; refine bodyPost_ret (v := .bool true) (results_slot Try.results6 rfl) rfl ⟨?_, hM20.below⟩)
  exact rfl
end Go.Proofs.Ytigfoophimjgdaa
