/- wide.Add, Sub, Small, IsZero: what they answer. -/
import Derived.Test.YthdbadomppohbaaWidD
namespace Go.Proofs.Ythdbadomppohbaa
set_option maxRecDepth 20000
set_option linter.unusedSimpArgs false
set_option linter.unusedVariables false
open Go.RowKit
theorem wd_succ (n i : Nat) : wd n (i + 1) = wd (n / B64) i := by
  have := wd_div n i 1
  rw [Nat.pow_one, Nat.add_comm] at this
  exact this.symm
theorem wd_zero (n : Nat) : wd n 0 = n % B64 := by unfold wd; rw [Nat.pow_zero, Nat.div_one]
def addN (a b : Nat) : Nat := (a + b) % B64 ^ 4
def addK (a b : Nat) : Nat := (a + b) / B64 ^ 4
def subN (a b : Nat) : Nat := if a < b then a + B64 ^ 4 - b else a - b
def subK (a b : Nat) : Nat := if a < b then 1 else 0
theorem add_res (a b c v : Nat) (ha : a < B64 ^ 4) (hb : b < B64 ^ 4) (hv : v < B64 ^ 4) (h : v + c * B64 ^ 4 = a % B64 ^ 4 + b % B64 ^ 4) : v = addN a b ∧ c = addK a b := by
  rw [Nat.mod_eq_of_lt ha, Nat.mod_eq_of_lt hb] at h
  unfold addN addK
  rw [← h, Nat.add_mul_mod_self_right, Nat.mod_eq_of_lt hv, Nat.add_mul_div_right _ _ (Nat.pow_pos B64_pos), Nat.div_eq_of_lt hv]
  exact ⟨rfl, by omega⟩
theorem sub_res (a b c v : Nat) (ha : a < B64 ^ 4) (hb : b < B64 ^ 4) (hc : c ≤ 1) (hv : v < B64 ^ 4) (h : v + b % B64 ^ 4 = a % B64 ^ 4 + c * B64 ^ 4) : v = subN a b ∧ c = subK a b := by
  rw [Nat.mod_eq_of_lt ha, Nat.mod_eq_of_lt hb] at h
  unfold subN subK
  generalize B64 ^ 4 = T at *
  have hc2 : c = 0 ∨ c = 1 := by omega
  rcases hc2 with rfl | rfl
  · rw [if_neg (by omega), if_neg (by omega)]; omega
  · rw [if_pos (by omega), if_pos (by omega)]; omega
theorem join_add' (a b : Nat) (w : World) (ha : a < B64 ^ 4) (hb : b < B64 ^ 4) :
    Calls Try.prog 77 #[.agg #[.int .u64 (wd a 0 : Int), .int .u64 (wd a 1 : Int), .int .u64 (wd a 2 : Int), .int .u64 (wd a 3 : Int)], .agg #[.int .u64 (wd b 0 : Int), .int .u64 (wd b 1 : Int), .int .u64 (wd b 2 : Int), .int .u64 (wd b 3 : Int)], .func (.func 79) #[] #[]] w fun e w' => e = .returned (.tuple #[.agg #[.int .u64 (wd (addN a b) 0 : Int), .int .u64 (wd (addN a b) 1 : Int), .int .u64 (wd (addN a b) 2 : Int), .int .u64 (wd (addN a b) 3 : Int)], .int .u64 (addK a b : Int)]) ∧ Below w.heap.size w w' := by
  refine (join_add a b w).mono ?_
  rintro e w' ⟨p, c, hp, hc, hV, rfl, hbl⟩
  obtain ⟨h1, h2⟩ := add_res a b c (valW p 4) ha hb (valW_lt p hp 4) hV
  refine ⟨?_, hbl⟩
  rw [rowQ_num p (addN a b) hp h1, h2]
  rfl
set_option maxHeartbeats 4000000 in
theorem add_any (a b : Nat) (w : World) (ha : a < B64 ^ 4) (hb : b < B64 ^ 4) :
    Calls Try.prog 64 #[numV a, numV b] w fun e w' => e = .returned (.tuple #[numV (addN a b), .int .u64 (addK a b : Int)]) ∧ Below w.heap.size w w' := by
  have JA := fun w => join_add' a b w ha hb
  rw [show numV a = .agg #[.int .u64 (wd a 0 : Int), .int .u64 (wd a 1 : Int), .int .u64 (wd a 2 : Int), .int .u64 (wd a 3 : Int)] from rfl, show numV b = .agg #[.int .u64 (wd b 0 : Int), .int .u64 (wd b 1 : Int), .int .u64 (wd b 2 : Int), .int .u64 (wd b 3 : Int)] from rfl]
  generalize hR : addN a b = R at JA ⊢
  generalize hK : addK a b = K at JA ⊢
  have HJ := Lib.hid JA
  clear JA hR hK ha hb
  have x2 : (((w.alloc (.cells (numL a).toArray 26)).alloc (.cells (numL b).toArray 26)).alloc (.cells (rowQ fun _ => 0).toArray 26)).heap[w.heap.size + 1 + 1]? = some (.cells (rowQ fun _ => 0).toArray 26 (0, 0)) := by
    have := alloc_new ((w.alloc (.cells (numL a).toArray 26)).alloc (.cells (numL b).toArray 26)) (.cells (rowQ fun _ => 0).toArray 26)
    simp only [alloc_size1] at this
    exact this
  have x3 : Below w.heap.size w (((w.alloc (.cells (numL a).toArray 26)).alloc (.cells (numL b).toArray 26)).alloc (.cells (rowQ fun _ => 0).toArray 26)) := gr_alloc (gr_alloc (gr_alloc (Below.refl _ _) _) _) _
  have x4 : (((w.alloc (.cells (numL a).toArray 26)).alloc (.cells (numL b).toArray 26)).alloc (.cells (rowQ fun _ => 0).toArray 26)).heap.size = w.heap.size + 3 := by simp only [alloc_size1]
  have X2 := Lib.hid x2
  have X3 := Lib.hid x3
  have X4 := Lib.hid x4
  clear x2 x3 x4
  go_enter Try.func64, Try.ntmps64
  go_wp2_with fail
  go_at_call 77
  change Calls _ _ _ (((w.alloc (.cells (numL a).toArray 26)).alloc (.cells (numL b).toArray 26)).alloc (.cells (rowQ fun _ => 0).toArray 26)) _
  generalize ((w.alloc (.cells (numL a).toArray 26)).alloc (.cells (numL b).toArray 26)).alloc (.cells (rowQ fun _ => 0).toArray 26) = X at *
  refine (HJ.out X).mono ?_
  rintro e w1 ⟨rfl, hb1⟩
  have y2 := (hb1.block (w.heap.size + 1 + 1) (by have := X4.out; omega)).trans X2.out
  have hb : Below w.heap.size w w1 := X3.out.trans (hb1.mono (by have := X4.out; omega))
  clear X2 X3 hb1 HJ
  obtain ⟨d0, e0⟩ := arr_get y2 (rowQ_get (fun _ => 0) 0 (by omega))
  obtain ⟨d1, e1⟩ := arr_get y2 (rowQ_get (fun _ => 0) 1 (by omega))
  obtain ⟨d2, e2⟩ := arr_get y2 (rowQ_get (fun _ => 0) 2 (by omega))
  obtain ⟨d3, e3⟩ := arr_get y2 (rowQ_get (fun _ => 0) 3 (by omega))
  have v1 := arr_set (i := 3) (arr_set (i := 2) (arr_set (i := 1) (arr_set (i := 0) y2 (.int .u64 (wd R 0 : Int))) (.int .u64 (wd R 1 : Int))) (.int .u64 (wd R 2 : Int))) (.int .u64 (wd R 3 : Int))
  have q2 : ((((rowQ fun _ => 0).set 0 (.int .u64 (wd R 0 : Int))).set 1 (.int .u64 (wd R 1 : Int))).set 2 (.int .u64 (wd R 2 : Int))).set 3 (.int .u64 (wd R 3 : Int)) = numL R := rfl
  rw [q2] at v1
  have V1 := Lib.hid v1
  have bl : ∀ (W' : World) (q k : Nat) (x : Value), w.heap.size ≤ q → Below w.heap.size w W' → Below w.heap.size w (W'.setCell ⟨q, k, none⟩ x) := fun W' q k x hq h => h.setCell (p := ⟨q, k, none⟩) hq x
  have BB := Lib.hid (bl _ (w.heap.size + 1 + 1) 3 (.int .u64 (wd R 3 : Int)) (by omega) (bl _ (w.heap.size + 1 + 1) 2 (.int .u64 (wd R 2 : Int)) (by omega) (bl _ (w.heap.size + 1 + 1) 1 (.int .u64 (wd R 1 : Int)) (by omega) (bl _ (w.heap.size + 1 + 1) 0 (.int .u64 (wd R 0 : Int)) (by omega) hb))))
  clear y2 q2 v1 bl
  go_wp2_with fail
  obtain ⟨Y, hY⟩ : ∃ Y, Y = (((w1.setCell ⟨w.heap.size + 1 + 1, 0, none⟩ (.int .u64 (wd R 0 : Int))).setCell ⟨w.heap.size + 1 + 1, 1, none⟩ (.int .u64 (wd R 1 : Int))).setCell ⟨w.heap.size + 1 + 1, 2, none⟩ (.int .u64 (wd R 2 : Int))).setCell ⟨w.heap.size + 1 + 1, 3, none⟩ (.int .u64 (wd R 3 : Int)) := ⟨_, rfl⟩
  have v1 := V1.out
  have bb := BB.out
  rw [← hY] at v1 bb ⊢
  clear hY V1 BB
  have kl := run_loadVar_row (P := Try.prog) Y (w.heap.size + 1 + 1) 26 26 _ (0, 0) _ v1 Try.underlying26 rfl (by kernel_rfl)
  exact bodyPost_ret (v := .tuple #[.agg (numL R).toArray, .int .u64 (K : Int)]) (results_arr_tmp Try.results64 (by rfl) (by rfl) kl) rfl ⟨rfl, bb⟩
theorem join_sub' (a b : Nat) (w : World) (ha : a < B64 ^ 4) (hb : b < B64 ^ 4) :
    Calls Try.prog 77 #[.agg #[.int .u64 (wd a 0 : Int), .int .u64 (wd a 1 : Int), .int .u64 (wd a 2 : Int), .int .u64 (wd a 3 : Int)], .agg #[.int .u64 (wd b 0 : Int), .int .u64 (wd b 1 : Int), .int .u64 (wd b 2 : Int), .int .u64 (wd b 3 : Int)], .func (.func 78) #[] #[]] w fun e w' => e = .returned (.tuple #[.agg #[.int .u64 (wd (subN a b) 0 : Int), .int .u64 (wd (subN a b) 1 : Int), .int .u64 (wd (subN a b) 2 : Int), .int .u64 (wd (subN a b) 3 : Int)], .int .u64 (subK a b : Int)]) ∧ Below w.heap.size w w' := by
  refine (join_sub a b w).mono ?_
  rintro e w' ⟨p, c, hp, hc, hV, rfl, hbl⟩
  obtain ⟨h1, h2⟩ := sub_res a b c (valW p 4) ha hb hc (valW_lt p hp 4) hV
  refine ⟨?_, hbl⟩
  rw [rowQ_num p (subN a b) hp h1, h2]
  rfl
set_option maxHeartbeats 4000000 in
theorem sub_any (a b : Nat) (w : World) (ha : a < B64 ^ 4) (hb : b < B64 ^ 4) :
    Calls Try.prog 63 #[numV a, numV b] w fun e w' => e = .returned (.tuple #[numV (subN a b), .int .u64 (subK a b : Int)]) ∧ Below w.heap.size w w' := by
  have JA := fun w => join_sub' a b w ha hb
  rw [show numV a = .agg #[.int .u64 (wd a 0 : Int), .int .u64 (wd a 1 : Int), .int .u64 (wd a 2 : Int), .int .u64 (wd a 3 : Int)] from rfl, show numV b = .agg #[.int .u64 (wd b 0 : Int), .int .u64 (wd b 1 : Int), .int .u64 (wd b 2 : Int), .int .u64 (wd b 3 : Int)] from rfl]
  generalize hR : subN a b = R at JA ⊢
  generalize hK : subK a b = K at JA ⊢
  have HJ := Lib.hid JA
  clear JA hR hK ha hb
  have x2 : (((w.alloc (.cells (numL a).toArray 26)).alloc (.cells (numL b).toArray 26)).alloc (.cells (rowQ fun _ => 0).toArray 26)).heap[w.heap.size + 1 + 1]? = some (.cells (rowQ fun _ => 0).toArray 26 (0, 0)) := by
    have := alloc_new ((w.alloc (.cells (numL a).toArray 26)).alloc (.cells (numL b).toArray 26)) (.cells (rowQ fun _ => 0).toArray 26)
    simp only [alloc_size1] at this
    exact this
  have x3 : Below w.heap.size w (((w.alloc (.cells (numL a).toArray 26)).alloc (.cells (numL b).toArray 26)).alloc (.cells (rowQ fun _ => 0).toArray 26)) := gr_alloc (gr_alloc (gr_alloc (Below.refl _ _) _) _) _
  have x4 : (((w.alloc (.cells (numL a).toArray 26)).alloc (.cells (numL b).toArray 26)).alloc (.cells (rowQ fun _ => 0).toArray 26)).heap.size = w.heap.size + 3 := by simp only [alloc_size1]
  have X2 := Lib.hid x2
  have X3 := Lib.hid x3
  have X4 := Lib.hid x4
  clear x2 x3 x4
  go_enter Try.func63, Try.ntmps63
  go_wp2_with fail
  go_at_call 77
  change Calls _ _ _ (((w.alloc (.cells (numL a).toArray 26)).alloc (.cells (numL b).toArray 26)).alloc (.cells (rowQ fun _ => 0).toArray 26)) _
  generalize ((w.alloc (.cells (numL a).toArray 26)).alloc (.cells (numL b).toArray 26)).alloc (.cells (rowQ fun _ => 0).toArray 26) = X at *
  refine (HJ.out X).mono ?_
  rintro e w1 ⟨rfl, hb1⟩
  have y2 := (hb1.block (w.heap.size + 1 + 1) (by have := X4.out; omega)).trans X2.out
  have hb : Below w.heap.size w w1 := X3.out.trans (hb1.mono (by have := X4.out; omega))
  clear X2 X3 hb1 HJ
  obtain ⟨d0, e0⟩ := arr_get y2 (rowQ_get (fun _ => 0) 0 (by omega))
  obtain ⟨d1, e1⟩ := arr_get y2 (rowQ_get (fun _ => 0) 1 (by omega))
  obtain ⟨d2, e2⟩ := arr_get y2 (rowQ_get (fun _ => 0) 2 (by omega))
  obtain ⟨d3, e3⟩ := arr_get y2 (rowQ_get (fun _ => 0) 3 (by omega))
  have v1 := arr_set (i := 3) (arr_set (i := 2) (arr_set (i := 1) (arr_set (i := 0) y2 (.int .u64 (wd R 0 : Int))) (.int .u64 (wd R 1 : Int))) (.int .u64 (wd R 2 : Int))) (.int .u64 (wd R 3 : Int))
  have q2 : ((((rowQ fun _ => 0).set 0 (.int .u64 (wd R 0 : Int))).set 1 (.int .u64 (wd R 1 : Int))).set 2 (.int .u64 (wd R 2 : Int))).set 3 (.int .u64 (wd R 3 : Int)) = numL R := rfl
  rw [q2] at v1
  have V1 := Lib.hid v1
  have bl : ∀ (W' : World) (q k : Nat) (x : Value), w.heap.size ≤ q → Below w.heap.size w W' → Below w.heap.size w (W'.setCell ⟨q, k, none⟩ x) := fun W' q k x hq h => h.setCell (p := ⟨q, k, none⟩) hq x
  have BB := Lib.hid (bl _ (w.heap.size + 1 + 1) 3 (.int .u64 (wd R 3 : Int)) (by omega) (bl _ (w.heap.size + 1 + 1) 2 (.int .u64 (wd R 2 : Int)) (by omega) (bl _ (w.heap.size + 1 + 1) 1 (.int .u64 (wd R 1 : Int)) (by omega) (bl _ (w.heap.size + 1 + 1) 0 (.int .u64 (wd R 0 : Int)) (by omega) hb))))
  clear y2 q2 v1 bl
  go_wp2_with fail
  obtain ⟨Y, hY⟩ : ∃ Y, Y = (((w1.setCell ⟨w.heap.size + 1 + 1, 0, none⟩ (.int .u64 (wd R 0 : Int))).setCell ⟨w.heap.size + 1 + 1, 1, none⟩ (.int .u64 (wd R 1 : Int))).setCell ⟨w.heap.size + 1 + 1, 2, none⟩ (.int .u64 (wd R 2 : Int))).setCell ⟨w.heap.size + 1 + 1, 3, none⟩ (.int .u64 (wd R 3 : Int)) := ⟨_, rfl⟩
  have v1 := V1.out
  have bb := BB.out
  rw [← hY] at v1 bb ⊢
  clear hY V1 BB
  have kl := run_loadVar_row (P := Try.prog) Y (w.heap.size + 1 + 1) 26 26 _ (0, 0) _ v1 Try.underlying26 rfl (by kernel_rfl)
  exact bodyPost_ret (v := .tuple #[.agg (numL R).toArray, .int .u64 (K : Int)]) (results_arr_tmp Try.results63 (by rfl) (by rfl) kl) rfl ⟨rfl, bb⟩
theorem eql_num (w : World) (x0 x1 x2 x3 y0 y1 y2 y3 : Int) : (Op.equalIn 10000 26 (.agg #[.int .u64 x0, .int .u64 x1, .int .u64 x2, .int .u64 x3]) (.agg #[.int .u64 y0, .int .u64 y1, .int .u64 y2, .int .u64 y3])).run Try.prog w = .ok (x0 == y0 && (x1 == y1 && (x2 == y2 && x3 == y3))) w := by
  have he : ∀ (a b : Int) (w : World), (Op.equalIn 9999 22 (.int .u64 a) (.int .u64 b)).run Try.prog w = .ok (a == b) w := fun a b w => run_equalIn_int w 9998 22 .u64 .u64 a b Try.underlying22
  rw [show (10000 : Nat) = 9999 + 1 from rfl, Op.equalIn]
  simp only [Sem.run_bind, run_underlying Try.underlying26, Result.andThen_ok]
  have hp : ∀ (v : Value) (k : Nat) (xs : Array Value) (w : World), xs[k]? = some v → (part 22 xs k).run Try.prog w = .ok v w := fun v k xs w h => by
    simp only [part]
    go_simp
  have hz : ∀ w, (sizeOf 22).run Try.prog w = .ok 1 w := Try.sizeOf22
  rw [hz]
  simp only [Result.andThen_ok]
  rw [Std.Legacy.Range.forIn_eq_forIn_range']
  simp [Std.Legacy.Range.size, List.range']
  have a0 := fun w => hp (.int .u64 x0) 0 #[.int .u64 x0, .int .u64 x1, .int .u64 x2, .int .u64 x3] w rfl
  have b0 := fun w => hp (.int .u64 y0) 0 #[.int .u64 y0, .int .u64 y1, .int .u64 y2, .int .u64 y3] w rfl
  have a1 := fun w => hp (.int .u64 x1) 1 #[.int .u64 x0, .int .u64 x1, .int .u64 x2, .int .u64 x3] w rfl
  have b1 := fun w => hp (.int .u64 y1) 1 #[.int .u64 y0, .int .u64 y1, .int .u64 y2, .int .u64 y3] w rfl
  have a2 := fun w => hp (.int .u64 x2) 2 #[.int .u64 x0, .int .u64 x1, .int .u64 x2, .int .u64 x3] w rfl
  have b2 := fun w => hp (.int .u64 y2) 2 #[.int .u64 y0, .int .u64 y1, .int .u64 y2, .int .u64 y3] w rfl
  have a3 := fun w => hp (.int .u64 x3) 3 #[.int .u64 x0, .int .u64 x1, .int .u64 x2, .int .u64 x3] w rfl
  have b3 := fun w => hp (.int .u64 y3) 3 #[.int .u64 y0, .int .u64 y1, .int .u64 y2, .int .u64 y3] w rfl
  simp only [a0, b0, a1, b1, a2, b2, a3, b3, he, Result.andThen_ok]
  generalize (x0 == y0) = c0
  generalize (x1 == y1) = c1
  generalize (x2 == y2) = c2
  generalize (x3 == y3) = c3
  cases c0 <;> cases c1 <;> cases c2 <;> cases c3 <;> simp
/-- A function's one result that lies in a cell, an array. -/
theorem results_arr {P : Program} {fn : Func} {tmps : Array Value} {w : World} {v : Value} {a t b : Nat} (h : fn.results = #[.cell a t]) (ha : tmps.getD a undef = .pointer (some ⟨b, 0, none⟩)) (hl : (loadVar t ⟨b, 0, none⟩).run P w = .ok v w) : (results fn tmps).run P w = .ok v w := by
  rw [Array.getD_eq_getD_getElem?] at ha
  simp only [results, h]
  simp [asAddr, ha, hl]
theorem numL_small (a : Nat) (ha : a < 18446744073709551616) : (numL a).toArray = #[.int .u64 (a : Int), .int .u64 0, .int .u64 0, .int .u64 0] := by
  have e0 : wd a 0 = a := by rw [wd_zero]; exact Nat.mod_eq_of_lt ha
  have ek : ∀ k, 1 ≤ k → wd a k = 0 := fun k hk => by
    obtain ⟨j, rfl⟩ : ∃ j, k = j + 1 := ⟨k - 1, by omega⟩
    have : a / B64 = 0 := Nat.div_eq_of_lt ha
    rw [wd_succ, this]
    simp [wd]
  unfold numL
  rw [e0, ek 1 (by omega), ek 2 (by omega), ek 3 (by omega)]
  rfl
theorem small_any (a : Nat) (w : World) (ha : a < 18446744073709551616) :
    Calls Try.prog 62 #[.int .u64 (a : Int)] w fun e w' => e = .returned (numV a) ∧ Below w.heap.size w w' := by
  have kl := run_loadVar_row (P := Try.prog) (w.alloc (.cells (numL a).toArray 26)) w.heap.size 26 26 _ (0, 0) _ (alloc_new _ _) Try.underlying26 rfl (by kernel_rfl)
  rw [show numV a = .agg (numL a).toArray from rfl]
  rw [numL_small a ha] at kl ⊢
  have KL := Lib.hid kl
  clear kl
  go_enter Try.func62, Try.ntmps62
  go_wp2_with fail
  exact bodyPost_ret (v := .agg #[.int .u64 (a : Int), .int .u64 0, .int .u64 0, .int .u64 0]) (results_arr Try.results62 (by rfl) KL.out) rfl ⟨rfl, gr_alloc (Below.refl _ _) _⟩
end Go.Proofs.Ythdbadomppohbaa
