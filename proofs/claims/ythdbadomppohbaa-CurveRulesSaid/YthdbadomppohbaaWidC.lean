/- wide.Mul: what it answers. -/
import Derived.Test.YthdbadomppohbaaWidB
import Derived.Test.YthdbadomppohbaaShelf
import Derived.Shelf.Spec.BitsCarry
import Derived.Laws.CopyOwn
import Derived.BigRegion
import Derived.Laws.Cover3
namespace Go.Proofs.Ythdbadomppohbaa
set_option maxRecDepth 20000
set_option linter.unusedSimpArgs false
set_option linter.unusedVariables false
open Go.RowKit
theorem add64_gen (x y c : Nat) (hc : c ≤ 1) (w : World) : (callFunc 76 #[.int .u64 (x : Int), .int .u64 (y : Int), .int .u64 (c : Int)]).run Try.prog w =
      .ok (.value (.tuple #[.int .u64 (((x + y + c) % 18446744073709551616 : Nat) : Int), .int .u64 (((x + y + c) / 18446744073709551616 : Nat) : Int)])) w := by
  rw [run_callFunc_extern Try.func76 (by kernel_rfl) (by kernel_rfl) (by kernel_rfl) (e := add64Entry) (by kernel_rfl), run_add64 x y c (by omega) (by omega) (by omega) (by omega)]
  simp only [Result.andThen]
  congr 5 <;> omega
theorem add64_call (x y : Nat) (w : World) : (callFunc 76 #[.int .u64 (x : Int), .int .u64 (y : Int), .int .u64 0]).run Try.prog w =
      .ok (.value (.tuple #[.int .u64 (((x + y + 0) % 18446744073709551616 : Nat) : Int), .int .u64 (((x + y + 0) / 18446744073709551616 : Nat) : Int)])) w := add64_gen x y 0 (by omega) w
/-- A function's results that lie in cells, arrays each. -/
theorem results_arr2 {P : Program} {fn : Func} {tmps : Array Value} {w : World} {v v' : Value} {a t b a' t' b' : Nat} (h : fn.results = #[.cell a t, .cell a' t']) (ha : tmps.getD a undef = .pointer (some ⟨b, 0, none⟩)) (ha' : tmps.getD a' undef = .pointer (some ⟨b', 0, none⟩)) (hl : (loadVar t ⟨b, 0, none⟩).run P w = .ok v w) (hl' : (loadVar t' ⟨b', 0, none⟩).run P w = .ok v' w) : (results fn tmps).run P w = .ok (.tuple #[v, v']) w := by
  rw [Array.getD_eq_getD_getElem?] at ha ha'
  simp only [results, h]
  simp [asAddr, ha, ha', hl, hl']
def mulSt (hs a b : Nat) (p : Nat → Nat) (W : World) : Prop :=
  W.heap[hs]? = some (.cells (numL a).toArray 26 (0, 0)) ∧ W.heap[hs + 1]? = some (.cells (numL b).toArray 26 (0, 0)) ∧ W.heap[hs + 1 + 1]? = some (.cells (numL 0).toArray 26 (0, 0)) ∧
  W.heap[hs + 1 + 1 + 1]? = some (.cells (numL 0).toArray 26 (0, 0)) ∧ W.heap[hs + 1 + 1 + 1 + 1]? = some (.cells (rowP p).toArray 104 (0, 0)) ∧ W.heap.size = hs + 5
theorem arr_set {w : World} {b i : Nat} {t : TypeId} {L : List Value} (h : w.heap[b]? = some (.cells L.toArray t (0, 0))) (v : Value) : (w.setCell ⟨b, i, none⟩ v).heap[b]? = some (.cells (L.set i v).toArray t (0, 0)) := by
  have hlt : b < w.heap.size := by
    apply Nat.lt_of_not_le
    intro hle
    rw [Array.getElem?_eq_none hle] at h
    simp at h
  have h' : w.heap[b] = .cells L.toArray t (0, 0) := by simpa [Array.getElem?_eq_getElem hlt] using h
  show (w.heap.modify b _)[b]? = _
  rw [Array.getElem?_eq_getElem (by simpa using hlt), Array.getElem_modify_self, h']
  simp
theorem mul_set {hs a b : Nat} {p : Nat → Nat} {W : World} (h : mulSt hs a b p W) (k x : Nat) : mulSt hs a b (upd p k x) (W.setCell ⟨hs + 1 + 1 + 1 + 1, k, none⟩ (.int .u64 (x : Int))) := by
  obtain ⟨h0, h1, h2, h3, h4, h5⟩ := h
  refine ⟨?_, ?_, ?_, ?_, ?_, ?_⟩
  · rw [Below.heap_setCell _ _ _ _ (by show hs ≠ hs + 1 + 1 + 1 + 1; omega)]; exact h0
  · rw [Below.heap_setCell _ _ _ _ (by show hs + 1 ≠ hs + 1 + 1 + 1 + 1; omega)]; exact h1
  · rw [Below.heap_setCell _ _ _ _ (by show hs + 1 + 1 ≠ hs + 1 + 1 + 1 + 1; omega)]; exact h2
  · rw [Below.heap_setCell _ _ _ _ (by show hs + 1 + 1 + 1 ≠ hs + 1 + 1 + 1 + 1; omega)]; exact h3
  · rw [← rowP_set]; exact arr_set h4 _
  · show (W.heap.modify _ _).size = _; rw [Array.size_modify]; exact h5
theorem numL_0 : (numL 0).toArray = #[.int .u64 0, .int .u64 0, .int .u64 0, .int .u64 0] := by simp [numL, wd]
theorem rowP_0 : (rowP fun _ => 0).toArray = #[.int .u64 0, .int .u64 0, .int .u64 0, .int .u64 0, .int .u64 0, .int .u64 0, .int .u64 0, .int .u64 0] := rfl
def mulW (a b : Nat) (w : World) : World := ((((w.alloc (.cells (numL a).toArray 26)).alloc (.cells (numL b).toArray 26)).alloc (.cells (numL 0).toArray 26)).alloc (.cells (numL 0).toArray 26)).alloc (.cells (rowP fun _ => 0).toArray 104)
theorem mul_start (a b : Nat) (w : World) : mulSt w.heap.size a b (fun _ => 0) (mulW a b w) := by
  unfold mulW
  refine ⟨?_, ?_, ?_, ?_, ?_, ?_⟩
  · rw [alloc_old _ _ _ (by simp only [alloc_size1]; omega), alloc_old _ _ _ (by simp only [alloc_size1]; omega), alloc_old _ _ _ (by simp only [alloc_size1]; omega), alloc_old _ _ _ (by simp only [alloc_size1]; omega), alloc_new]
  · rw [alloc_old _ _ _ (by simp only [alloc_size1]; omega), alloc_old _ _ _ (by simp only [alloc_size1]; omega), alloc_old _ _ _ (by simp only [alloc_size1]; omega)]
    have := alloc_new (w.alloc (.cells (numL a).toArray 26)) (.cells (numL b).toArray 26)
    simp only [alloc_size1] at this
    exact this
  · rw [alloc_old _ _ _ (by simp only [alloc_size1]; omega), alloc_old _ _ _ (by simp only [alloc_size1]; omega)]
    have := alloc_new ((w.alloc (.cells (numL a).toArray 26)).alloc (.cells (numL b).toArray 26)) (.cells (numL 0).toArray 26)
    simp only [alloc_size1] at this
    exact this
  · rw [alloc_old _ _ _ (by simp only [alloc_size1]; omega)]
    have := alloc_new (((w.alloc (.cells (numL a).toArray 26)).alloc (.cells (numL b).toArray 26)).alloc (.cells (numL 0).toArray 26)) (.cells (numL 0).toArray 26)
    simp only [alloc_size1] at this
    exact this
  · have := alloc_new ((((w.alloc (.cells (numL a).toArray 26)).alloc (.cells (numL b).toArray 26)).alloc (.cells (numL 0).toArray 26)).alloc (.cells (numL 0).toArray 26)) (.cells (rowP fun _ => 0).toArray 104)
    simp only [alloc_size1] at this
    exact this
  · simp only [alloc_size1]
theorem mul_below (a b : Nat) (w : World) : Below w.heap.size w (mulW a b w) := gr_alloc (gr_alloc (gr_alloc (gr_alloc (gr_alloc (Below.refl _ _) _) _) _) _) _
theorem Try.info_p8 : (Try.prog.info? 104).map (fun i => (i.zero, i.size)) = some (some (.agg (Array.replicate 8 (.int .u64 0))), 8) := by kernel_rfl
theorem Try.info_p4 : (Try.prog.info? 26).map (fun i => (i.zero, i.size)) = some (some (.agg (Array.replicate 4 (.int .u64 0))), 4) := by kernel_rfl
theorem upd_lt {p : Nat → Nat} {k x : Nat} (h : ∀ k, p k < B64) (hx : x < 18446744073709551616) : ∀ n, upd p k x n < B64 := fun n => by
  unfold upd
  split
  · exact hx
  · exact h n
theorem upd_zero {p : Nat → Nat} {k x m : Nat} (h : ∀ n, m ≤ n → p n = 0) (hk : k < m) : ∀ n, m ≤ n → upd p k x n = 0 := fun n hn => by
  unfold upd
  rw [if_neg (by omega)]
  exact h n hn
set_option maxHeartbeats 4000000 in
theorem mul_any (a b : Nat) (w : World) (ha : a < B64 ^ 4) (hb : b < B64 ^ 4) :
    Calls Try.prog 61 #[numV a, numV b] w fun e w' => e = .returned (.tuple #[numV (a * b % B64 ^ 4), numV (a * b / B64 ^ 4)]) ∧ Below w.heap.size w w' := by
  rw [show numV a = .agg #[.int .u64 (wd a 0 : Int), .int .u64 (wd a 1 : Int), .int .u64 (wd a 2 : Int), .int .u64 (wd a 3 : Int)] from rfl, show numV b = .agg #[.int .u64 (wd b 0 : Int), .int .u64 (wd b 1 : Int), .int .u64 (wd b 2 : Int), .int .u64 (wd b 3 : Int)] from rfl]
  go_enter Try.func61, Try.ntmps61
  go_wp2_with fail
  have hst0 := mul_start a b w
  have hbl0 := mul_below a b w
  obtain ⟨X, hX⟩ : ∃ X, mulW a b w = X := ⟨_, rfl⟩
  have hX' := hX
  unfold mulW at hX'
  rw [numL_0, rowP_0] at hX'
  change Code.wp _ _ _ _ (((((w.alloc (.cells (numL a).toArray 26)).alloc (.cells (numL b).toArray 26)).alloc (.cells #[.int .u64 0, .int .u64 0, .int .u64 0, .int .u64 0] 26)).alloc (.cells #[.int .u64 0, .int .u64 0, .int .u64 0, .int .u64 0] 26)).alloc (.cells #[.int .u64 0, .int .u64 0, .int .u64 0, .int .u64 0, .int .u64 0, .int .u64 0, .int .u64 0, .int .u64 0] 104))
  rw [hX']
  rw [hX] at hst0 hbl0
  clear hX hX'
  have hb0 := Lib.hid hb
  clear hb
  go_loopw [14] (fun i wr => ∃ i' : Nat, ∃ p : Nat → Nat, i' ≤ 4 ∧ i = .int .i64 (i' : Int) ∧ (∀ k, p k < B64) ∧ (∀ k, i' + 4 ≤ k → p k = 0) ∧ valW p 8 = (a % B64 ^ i') * b ∧ mulSt w.heap.size a b p wr ∧ Below w.heap.size w wr) (fun i _ => 4 - (intOf i).toNat)
  case atStart => exact ⟨0, fun _ => 0, by omega, rfl, fun _ => B64_pos, fun _ _ => rfl, by rw [Nat.pow_zero, Nat.mod_one, Nat.zero_mul]; rfl, hst0, hbl0⟩
  case round =>
    clear hst0 hbl0
    obtain ⟨i, p, hi, rfl, hp, hz, hV, hst, hb⟩ := hrel
    by_cases hlt : i < 4
    · have p1 : (i : Int) < 4 := by omega
      have HP := Lib.hid hp
      have HZ := Lib.hid hz
      have HV := Lib.hid hV
      clear hp hz hV
      go_wp2_with fail
      go_loopw [8, 17] (fun c j wr => ∃ j' c' : Nat, ∃ p : Nat → Nat, j' ≤ 4 ∧ j = .int .i64 (j' : Int) ∧ c = .int .u64 (c' : Int) ∧ c' < 18446744073709551616 ∧ (∀ k, p k < B64) ∧ (∀ k, i + 4 ≤ k → p k = 0) ∧ valW p 8 + c' * B64 ^ (i + j') = (a % B64 ^ i) * b + wd a i * (b % B64 ^ j') * B64 ^ i ∧ mulSt w.heap.size a b p wr ∧ Below w.heap.size w wr) (fun _ j _ => 4 - (intOf j).toNat)
      case atStart => exact ⟨0, 0, p, by omega, rfl, rfl, by omega, HP.out, HZ.out, by rw [HV.out, Nat.pow_zero, Nat.mod_one, Nat.mul_zero, Nat.zero_mul, Nat.zero_mul], hst, hb⟩
      case round =>
        clear HP HZ HV hst hb
        obtain ⟨j, c, p, hj, rfl, rfl, hc, hp, hz, hV, hst, hb⟩ := hrel
        by_cases hjl : j < 4
        · have p2 : (j : Int) < 4 := by omega
          obtain ⟨s0, s1, s2, s3, s4, s5⟩ := hst
          have hst : Hid (mulSt w.heap.size a b p wr) := ⟨s0, s1, s2, s3, s4, s5⟩
          have c0 := (arr_get s0 (numL_get a i hlt)).1
          have c1 := (arr_get s1 (numL_get b j hjl)).1
          obtain ⟨c4, f4⟩ := arr_get s4 (rowP_get p (i + j) (by omega))
          have hx := wd_lt a i
          have hy := wd_lt b j
          have hpk : p (i + j) < 18446744073709551616 := hp _
          obtain ⟨h, l, o1, t1, o2, t2, e1, e2, e3, e4, e5, e6, k1, k2, k3, k4, k5, k6, k7, ke⟩ := mul_step (wd a i) (wd b j) (p (i + j)) c hx hy hpk hc
          have HVS := Lib.hid (val_step p 8 (i + j) (wd a i) (by omega) _ c (h + o1 + o2) t2 (wd b j) b i j rfl hV ke rfl)
          have MU := fun w => Try.bits_Mul64 (wd a i) (wd b j) hx hy w
          rw [e1, e2] at MU
          have A1 := fun w => add64_call l (p (i + j)) w
          rw [e3, e4] at A1
          have A2 := fun w => add64_call t1 c w
          rw [e5, e6] at A2
          have HPP := Lib.hid hp
          have HZZ := Lib.hid hz
          clear e1 e2 e3 e4 e5 e6 hp hz hV s0 s1 s2 s3 s4 ke
          generalize wd a i = x at *
          generalize wd b j = y at *
          generalize p (i + j) = v at c4 A1 hpk
          have nat1 : ((i : Int) + (j : Int)).toNat = i + j := by omega
          have q1 : (i : Int) + (j : Int) < 8 := by omega
          go_wp2_with fail
          go_quiet ((go_at_call 75; exact Calls.quiet_of_same (MU _)))
          go_wp2_with fail
          go_roundw
          case rel => exact ⟨j + 1, h + o1 + o2, upd p (i + j) t2, by omega, congrArg (Value.int .i64) (by omega), congrArg (Value.int .u64) (by omega), k2, upd_lt HPP.out k3, upd_zero HZZ.out (by omega), HVS.out, mul_set hst.out (i + j) t2, below_drewN1 (hb.setCell (p := ⟨w.heap.size + 1 + 1 + 1 + 1, i + j, none⟩) (by show w.heap.size ≤ w.heap.size + 1 + 1 + 1 + 1; omega) _) _⟩
          case measure => simp [intOf]; omega
        · obtain rfl : j = 4 := by omega
          have HVR := Lib.hid (val_row p 8 i c a b (by omega) hb0.out (hz (i + 4) (by omega)) hV)
          have HPP := Lib.hid hp
          have HZZ := Lib.hid hz
          obtain ⟨s0, s1, s2, s3, s4, s5⟩ := hst
          obtain ⟨c4, f4⟩ := arr_get s4 (rowP_get p (i + 4) (by omega))
          have hst : Hid (mulSt w.heap.size a b p wr) := ⟨s0, s1, s2, s3, s4, s5⟩
          have nat1 : ((i : Int) + 4).toNat = i + 4 := by omega
          have q1 : (i : Int) + 4 < 8 := by omega
          clear hV hp hz s0 s1 s2 s3 s4
          go_wp2_with fail
          go_roundw
          case rel => exact ⟨i + 1, upd p (i + 4) c, by omega, congrArg (Value.int .i64) (by omega), upd_lt HPP.out hc, upd_zero (fun n hn => HZZ.out n (by omega)) (by omega), HVR.out, mul_set hst.out (i + 4) c, hb.setCell (p := ⟨w.heap.size + 1 + 1 + 1 + 1, i + 4, none⟩) (by show w.heap.size ≤ w.heap.size + 1 + 1 + 1 + 1; omega) _⟩
          case measure => simp [intOf]; omega
    · obtain rfl : i = 4 := by omega
      obtain ⟨s0, s1, s2, s3, s4, s5⟩ := hst
      have c0 := (arr_get s4 (rowP_get p 0 (by omega))).1
      have c1 := (arr_get s4 (rowP_get p 1 (by omega))).1
      have c2 := (arr_get s4 (rowP_get p 2 (by omega))).1
      have c3 := (arr_get s4 (rowP_get p 3 (by omega))).1
      have c4 := (arr_get s4 (rowP_get p 4 (by omega))).1
      have c5 := (arr_get s4 (rowP_get p 5 (by omega))).1
      have c6 := (arr_get s4 (rowP_get p 6 (by omega))).1
      have c7 := (arr_get s4 (rowP_get p 7 (by omega))).1
      have d0 := arr_get s2 (numL_get 0 0 (by omega))
      have d1 := arr_get s2 (numL_get 0 1 (by omega))
      have d2 := arr_get s2 (numL_get 0 2 (by omega))
      have d3 := arr_get s2 (numL_get 0 3 (by omega))
      have g0 := arr_get s3 (numL_get 0 0 (by omega))
      have g1 := arr_get s3 (numL_get 0 1 (by omega))
      have g2 := arr_get s3 (numL_get 0 2 (by omega))
      have g3 := arr_get s3 (numL_get 0 3 (by omega))
      have S2 := Lib.hid s2
      have S3 := Lib.hid s3
      have S4 := Lib.hid s4
      have HPP := Lib.hid hp
      have HV := Lib.hid hV
      clear s0 s1 s2 s3 s4 hp hz hV
      generalize hp0 : p 0 = p0 at c0
      generalize hp1 : p 1 = p1 at c1
      generalize hp2 : p 2 = p2 at c2
      generalize hp3 : p 3 = p3 at c3
      generalize hp4 : p 4 = p4 at c4
      generalize hp5 : p 5 = p5 at c5
      generalize hp6 : p 6 = p6 at c6
      generalize hp7 : p 7 = p7 at c7
      have H0 := Lib.hid hp0
      have H1 := Lib.hid hp1
      have H2 := Lib.hid hp2
      have H3 := Lib.hid hp3
      have H4 := Lib.hid hp4
      have H5 := Lib.hid hp5
      have H6 := Lib.hid hp6
      have H7 := Lib.hid hp7
      clear hp0 hp1 hp2 hp3 hp4 hp5 hp6 hp7
      generalize (wd 0 0 : Int) = z0 at d0 g0
      generalize (wd 0 1 : Int) = z1 at d1 g1
      generalize (wd 0 2 : Int) = z2 at d2 g2
      generalize (wd 0 3 : Int) = z3 at d3 g3
      obtain ⟨d0, e0⟩ := d0
      obtain ⟨d1, e1⟩ := d1
      obtain ⟨d2, e2⟩ := d2
      obtain ⟨d3, e3⟩ := d3
      obtain ⟨g0, h0⟩ := g0
      obtain ⟨g1, h1⟩ := g1
      obtain ⟨g2, h2⟩ := g2
      obtain ⟨g3, h3⟩ := g3
      have k1 : ∀ w', (Instr.arrayAt 26 (.slice (some ⟨w.heap.size + 1 + 1 + 1 + 1, 0, none⟩) 4 8)).run Try.prog w' = .ok (.pointer (some ⟨w.heap.size + 1 + 1 + 1 + 1, 0, none⟩)) w' := fun w' => run_arrayAt w' 26 22 4 _ 4 8 Try.underlying26 (by omega)
      have k2 : ∀ w', (Instr.arrayAt 26 (.slice (some ⟨w.heap.size + 1 + 1 + 1 + 1, 4, none⟩) 4 4)).run Try.prog w' = .ok (.pointer (some ⟨w.heap.size + 1 + 1 + 1 + 1, 4, none⟩)) w' := fun w' => run_arrayAt w' 26 22 4 _ 4 4 Try.underlying26 (by omega)
      go_wp2_with fail
      go_region
      have n1 : w.heap.size + 1 + 1 ≠ w.heap.size + 1 + 1 + 1 := by omega
      have r2 := arr_set (i := 3) (arr_set (i := 2) (arr_set (i := 1) (arr_set (i := 0) S2.out (.int .u64 (p0 : Int))) (.int .u64 (p1 : Int))) (.int .u64 (p2 : Int))) (.int .u64 (p3 : Int))
      have r2' := r2
      rw [← Below.heap_setCell _ ⟨w.heap.size + 1 + 1 + 1, 0, none⟩ (.int .u64 (p4 : Int)) _ n1, ← Below.heap_setCell _ ⟨w.heap.size + 1 + 1 + 1, 1, none⟩ (.int .u64 (p5 : Int)) _ n1, ← Below.heap_setCell _ ⟨w.heap.size + 1 + 1 + 1, 2, none⟩ (.int .u64 (p6 : Int)) _ n1, ← Below.heap_setCell _ ⟨w.heap.size + 1 + 1 + 1, 3, none⟩ (.int .u64 (p7 : Int)) _ n1] at r2'
      have r3 := S3.out
      rw [← Below.heap_setCell _ ⟨w.heap.size + 1 + 1, 0, none⟩ (.int .u64 (p0 : Int)) _ n1.symm, ← Below.heap_setCell _ ⟨w.heap.size + 1 + 1, 1, none⟩ (.int .u64 (p1 : Int)) _ n1.symm, ← Below.heap_setCell _ ⟨w.heap.size + 1 + 1, 2, none⟩ (.int .u64 (p2 : Int)) _ n1.symm, ← Below.heap_setCell _ ⟨w.heap.size + 1 + 1, 3, none⟩ (.int .u64 (p3 : Int)) _ n1.symm] at r3
      have r3' := arr_set (i := 3) (arr_set (i := 2) (arr_set (i := 1) (arr_set (i := 0) r3 (.int .u64 (p4 : Int))) (.int .u64 (p5 : Int))) (.int .u64 (p6 : Int))) (.int .u64 (p7 : Int))
      have bl : ∀ (W' : World) (q k : Nat) (x : Value), w.heap.size ≤ q → Below w.heap.size w W' → Below w.heap.size w (W'.setCell ⟨q, k, none⟩ x) := fun W' q k x hq h => h.setCell (p := ⟨q, k, none⟩) hq x
      have bb := (bl _ (w.heap.size + 1 + 1 + 1) 3 (.int .u64 (p7 : Int)) (by omega) (bl _ (w.heap.size + 1 + 1 + 1) 2 (.int .u64 (p6 : Int)) (by omega) (bl _ (w.heap.size + 1 + 1 + 1) 1 (.int .u64 (p5 : Int)) (by omega) (bl _ (w.heap.size + 1 + 1 + 1) 0 (.int .u64 (p4 : Int)) (by omega) (bl _ (w.heap.size + 1 + 1) 3 (.int .u64 (p3 : Int)) (by omega) (bl _ (w.heap.size + 1 + 1) 2 (.int .u64 (p2 : Int)) (by omega) (bl _ (w.heap.size + 1 + 1) 1 (.int .u64 (p1 : Int)) (by omega) (bl _ (w.heap.size + 1 + 1) 0 (.int .u64 (p0 : Int)) (by omega) hb)))))))).drew
      clear r2 r3 bl c0 c1 c2 c3 c4 c5 c6 c7 d0 d1 d2 d3 g0 g1 g2 g3 e0 e1 e2 e3 h0 h1 h2 h3 k1 k2
      have q2 : ((((numL 0).set 0 (.int .u64 (p0 : Int))).set 1 (.int .u64 (p1 : Int))).set 2 (.int .u64 (p2 : Int))).set 3 (.int .u64 (p3 : Int)) = [.int .u64 (p0 : Int), .int .u64 (p1 : Int), .int .u64 (p2 : Int), .int .u64 (p3 : Int)] := rfl
      have q3 : ((((numL 0).set 0 (.int .u64 (p4 : Int))).set 1 (.int .u64 (p5 : Int))).set 2 (.int .u64 (p6 : Int))).set 3 (.int .u64 (p7 : Int)) = [.int .u64 (p4 : Int), .int .u64 (p5 : Int), .int .u64 (p6 : Int), .int .u64 (p7 : Int)] := rfl
      rw [q2] at r2'
      rw [q3] at r3'
      clear q2 q3
      obtain ⟨Y, hY⟩ : ∃ Y, Y = ((((((((wr).setCell ⟨w.heap.size + 1 + 1, 0, none⟩ (.int .u64 (p0 : Int))).setCell ⟨w.heap.size + 1 + 1, 1, none⟩ (.int .u64 (p1 : Int))).setCell ⟨w.heap.size + 1 + 1, 2, none⟩ (.int .u64 (p2 : Int))).setCell ⟨w.heap.size + 1 + 1, 3, none⟩ (.int .u64 (p3 : Int))).setCell ⟨w.heap.size + 1 + 1 + 1, 0, none⟩ (.int .u64 (p4 : Int))).setCell ⟨w.heap.size + 1 + 1 + 1, 1, none⟩ (.int .u64 (p5 : Int))).setCell ⟨w.heap.size + 1 + 1 + 1, 2, none⟩ (.int .u64 (p6 : Int))).setCell ⟨w.heap.size + 1 + 1 + 1, 3, none⟩ (.int .u64 (p7 : Int)) := ⟨_, rfl⟩
      rw [← hY] at r2' r3' bb ⊢
      clear hY
      have R2 := Lib.hid r2'
      have R3 := Lib.hid r3'
      clear r2' r3'
      go_wp2_with fail
      have r2' := R2.out
      have r3' := R3.out
      have kl2 := run_loadVar_row (P := Try.prog) Y.drew (w.heap.size + 1 + 1) 26 26 _ (0, 0) _ r2' Try.underlying26 rfl (by kernel_rfl)
      have kl3 := run_loadVar_row (P := Try.prog) Y.drew (w.heap.size + 1 + 1 + 1) 26 26 _ (0, 0) _ r3' Try.underlying26 rfl (by kernel_rfl)
      have hab : valW p 8 = a * b := by rw [HV.out, Nat.mod_eq_of_lt ha]
      have wk : ∀ k, k < 8 → wd (a * b) k = p k := fun k hk => by rw [← hab]; exact wd_valW p HPP.out k 8 hk
      have v1 : numV (a * b % B64 ^ 4) = .agg #[.int .u64 (p0 : Int), .int .u64 (p1 : Int), .int .u64 (p2 : Int), .int .u64 (p3 : Int)] := by
        unfold numV
        rw [wd_mod _ _ _ (by omega), wd_mod _ _ _ (by omega), wd_mod _ _ _ (by omega), wd_mod _ _ _ (by omega), wk 0 (by omega), wk 1 (by omega), wk 2 (by omega), wk 3 (by omega), H0.out, H1.out, H2.out, H3.out]
      have v2 : numV (a * b / B64 ^ 4) = .agg #[.int .u64 (p4 : Int), .int .u64 (p5 : Int), .int .u64 (p6 : Int), .int .u64 (p7 : Int)] := by
        unfold numV
        rw [wd_div, wd_div, wd_div, wd_div, wk 4 (by omega), wk 5 (by omega), wk 6 (by omega), wk 7 (by omega), H4.out, H5.out, H6.out, H7.out]
      refine bodyPost_ret (v := .tuple #[.agg #[.int .u64 (p0 : Int), .int .u64 (p1 : Int), .int .u64 (p2 : Int), .int .u64 (p3 : Int)], .agg #[.int .u64 (p4 : Int), .int .u64 (p5 : Int), .int .u64 (p6 : Int), .int .u64 (p7 : Int)]]) (results_arr2 Try.results61 (by rfl) (by rfl) kl2 kl3) rfl ⟨by rw [v1, v2], bb⟩
end Go.Proofs.Ythdbadomppohbaa
