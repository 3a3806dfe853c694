/- Numbers below p that are compared; prime.Inv (layer 19): its contract. -/
import Derived.Test.YthdbadomppohbaaPriH
namespace Go.Proofs.Ythdbadomppohbaa
set_option maxRecDepth 20000
set_option linter.unusedSimpArgs false
set_option linter.unusedVariables false
open Go.RowKit
theorem eql_numF (f : Nat) (w : World) (x0 x1 x2 x3 y0 y1 y2 y3 : Int) : (Op.equalIn (f + 2) 26 (.agg #[.int .u64 x0, .int .u64 x1, .int .u64 x2, .int .u64 x3]) (.agg #[.int .u64 y0, .int .u64 y1, .int .u64 y2, .int .u64 y3])).run Try.prog w = .ok (x0 == y0 && (x1 == y1 && (x2 == y2 && x3 == y3))) w := by
  have he : ∀ (a b : Int) (w : World), (Op.equalIn (f + 1) 22 (.int .u64 a) (.int .u64 b)).run Try.prog w = .ok (a == b) w := fun a b w => run_equalIn_int w f 22 .u64 .u64 a b Try.underlying22
  rw [Op.equalIn]
  simp only [Sem.run_bind, run_underlying Try.underlying26, Result.andThen_ok]
  have hp : ∀ (v : Value) (k : Nat) (xs : Array Value) (w : World), xs[k]? = some v → (part 22 xs k).run Try.prog w = .ok v w := fun v k xs w h => by
    simp only [part]
    go_simp
  have hz : ∀ w, (sizeOf 22).run Try.prog w = .ok 1 w := Try.sizeOf22
  rw [hz]
  simp only [Result.andThen_ok]
  rw [Std.Legacy.Range.forIn_eq_forIn_range']
  simp [Std.Legacy.Range.size, List.range']
  have a0 := fun w => hp (.int .u64 x0) 0 #[.int .u64 x0, .int .u64 x1, .int .u64 x2, .int .u64 x3] w rfl
  have b0 := fun w => hp (.int .u64 y0) 0 #[.int .u64 y0, .int .u64 y1, .int .u64 y2, .int .u64 y3] w rfl
  have a1 := fun w => hp (.int .u64 x1) 1 #[.int .u64 x0, .int .u64 x1, .int .u64 x2, .int .u64 x3] w rfl
  have b1 := fun w => hp (.int .u64 y1) 1 #[.int .u64 y0, .int .u64 y1, .int .u64 y2, .int .u64 y3] w rfl
  have a2 := fun w => hp (.int .u64 x2) 2 #[.int .u64 x0, .int .u64 x1, .int .u64 x2, .int .u64 x3] w rfl
  have b2 := fun w => hp (.int .u64 y2) 2 #[.int .u64 y0, .int .u64 y1, .int .u64 y2, .int .u64 y3] w rfl
  have a3 := fun w => hp (.int .u64 x3) 3 #[.int .u64 x0, .int .u64 x1, .int .u64 x2, .int .u64 x3] w rfl
  have b3 := fun w => hp (.int .u64 y3) 3 #[.int .u64 y0, .int .u64 y1, .int .u64 y2, .int .u64 y3] w rfl
  simp only [a0, b0, a1, b1, a2, b2, a3, b3, he, Result.andThen_ok]
  generalize (x0 == y0) = c0
  generalize (x1 == y1) = c1
  generalize (x2 == y2) = c2
  generalize (x3 == y3) = c3
  cases c0 <;> cases c1 <;> cases c2 <;> cases c3 <;> simp
theorem eql_elI (w : World) (x0 x1 x2 x3 y0 y1 y2 y3 : Int) : (Op.equalIn 10000 28 (.agg #[.int .u64 x0, .int .u64 x1, .int .u64 x2, .int .u64 x3]) (.agg #[.int .u64 y0, .int .u64 y1, .int .u64 y2, .int .u64 y3])).run Try.prog w = .ok (x0 == y0 && (x1 == y1 && (x2 == y2 && x3 == y3))) w := by
  have hn := fun w => eql_numF 9997 w x0 x1 x2 x3 y0 y1 y2 y3
  rw [show (10000 : Nat) = 9999 + 1 from rfl, run_equalIn_struct w 9999 28 _ _ (by kernel_rfl) (by kernel_rfl)]
  have hp : ∀ (a0 a1 a2 a3 : Int) (w : World), (part 26 #[.int .u64 a0, .int .u64 a1, .int .u64 a2, .int .u64 a3] 0).run Try.prog w = .ok (.agg #[.int .u64 a0, .int .u64 a1, .int .u64 a2, .int .u64 a3]) w := fun a0 a1 a2 a3 w => by
    simp only [part]
    go_simp
  simp only [Program.fieldsOf, Try.underlying28]
  simp [Op.eqFields, hp, hn]
  by_cases h0 : x0 = y0 <;> by_cases h1 : x1 = y1 <;> by_cases h2 : x2 = y2 <;> by_cases h3 : x3 = y3 <;> simp [h0, h1, h2, h3]
theorem wd_same (a b : Nat) (ha : a < B64 ^ 4) (hb : b < B64 ^ 4) : ((wd a 0 : Int) == (wd b 0 : Int) && ((wd a 1 : Int) == (wd b 1 : Int) && ((wd a 2 : Int) == (wd b 2 : Int) && (wd a 3 : Int) == (wd b 3 : Int)))) = decide (a = b) := by
  by_cases h : a = b
  · subst h
    simp
  · rw [decide_eq_false h, Bool.eq_false_iff]
    intro hh
    simp only [Bool.and_eq_true, beq_iff_eq] at hh
    obtain ⟨h0, h1, h2, h3⟩ := hh
    have e := div_same a b ha hb 4 0 rfl (fun j _ hj => by
      have hj4 : j = 0 ∨ j = 1 ∨ j = 2 ∨ j = 3 := by omega
      rcases hj4 with rfl | rfl | rfl | rfl <;> omega)
    rw [Nat.pow_zero, Nat.div_one, Nat.div_one] at e
    exact h e
theorem eql_el (a b : Nat) (w : World) (ha : a < B64 ^ 4) (hb : b < B64 ^ 4) : (Op.equalIn 10000 28 (.agg #[.int .u64 (wd a 0 : Int), .int .u64 (wd a 1 : Int), .int .u64 (wd a 2 : Int), .int .u64 (wd a 3 : Int)]) (.agg #[.int .u64 (wd b 0 : Int), .int .u64 (wd b 1 : Int), .int .u64 (wd b 2 : Int), .int .u64 (wd b 3 : Int)])).run Try.prog w = .ok (decide (a = b)) w := by
  rw [eql_elI, wd_same a b ha hb]
theorem eql_nu (a b : Nat) (w : World) (ha : a < B64 ^ 4) (hb : b < B64 ^ 4) : (Op.equalIn 10000 26 (.agg #[.int .u64 (wd a 0 : Int), .int .u64 (wd a 1 : Int), .int .u64 (wd a 2 : Int), .int .u64 (wd a 3 : Int)]) (.agg #[.int .u64 (wd b 0 : Int), .int .u64 (wd b 1 : Int), .int .u64 (wd b 2 : Int), .int .u64 (wd b 3 : Int)])).run Try.prog w = .ok (decide (a = b)) w := by
  rw [eql_num, wd_same a b ha hb]
def P2 : Nat := PN - 2
theorem P2_B : P2 < B64 ^ 4 := by decide +kernel
theorem num_P2 : numV P2 = .agg #[.int .u64 18446744073709551595, .int .u64 18446744073709551615, .int .u64 18446744073709551615, .int .u64 9223372036854775807] := by
  unfold numV
  rw [show wd P2 0 = 18446744073709551595 by decide +kernel, show wd P2 1 = 18446744073709551615 by decide +kernel, show wd P2 2 = 18446744073709551615 by decide +kernel, show wd P2 3 = 9223372036854775807 by decide +kernel]
  rfl
theorem pinv_any (a : Nat) (w : World) (ha : a < PN) : Calls Try.prog 67 #[numV a] w fun e w' => e = .returned (numV (a ^ (PN - 2) % PN)) ∧ Below w.heap.size w w' := by
  have K := Lib.hid (fun w => ppow_any a P2 w ha P2_B)
  rw [num_P2] at K
  have hP2 : a ^ P2 % PN = a ^ (PN - 2) % PN := rfl
  rw [hP2] at K
  obtain ⟨R, hR⟩ : ∃ R, a ^ (PN - 2) % PN = R := ⟨_, rfl⟩
  rw [hR] at K
  rw [hR]
  obtain ⟨xa, xr, xz, xB⟩ := a2_at a 28 28 w
  simp only [numV_agg] at K ⊢
  obtain ⟨⟨p0, p1, p2, p3⟩, _⟩ := fourV xa
  clear hR hP2
  go_enter Try.func67, Try.ntmps67
  go_wp2_with fail
  change Calls _ _ _ (A2 a 28 28 w) _
  generalize A2 a 28 28 w = X at *
  refine (K.out X).mono ?_
  rintro e w1 ⟨rfl, hb1⟩
  have xr1 := isA_zero' (xr.keep hb1)
  obtain ⟨⟨d0, d1, d2, d3⟩, e0, e1, e2, e3⟩ := fourV xr1
  have KL := Lib.hid (load_el (isA_set (n := R) xr1))
  have BR := Lib.hid (set4_below (v0 := .int .u64 (wd R 0 : Int)) (v1 := .int .u64 (wd R 1 : Int)) (v2 := .int .u64 (wd R 2 : Int)) (v3 := .int .u64 (wd R 3 : Int)) (xB.trans (hb1.mono (by omega))) (b := w.heap.size + 1) (by omega))
  clear xa xr xr1 xB hb1
  go_wp2_with fail
  exact bodyPost_ret (results_arr Try.results67 (by rfl) KL.out) rfl ⟨rfl, BR.out⟩
end Go.Proofs.Ythdbadomppohbaa
