/- wide.Add and wide.Sub: what they answer. -/
import Derived.Test.YthdbadomppohbaaWidC
namespace Go.Proofs.Ythdbadomppohbaa
set_option maxRecDepth 20000
set_option linter.unusedSimpArgs false
set_option linter.unusedVariables false
open Go.RowKit
theorem sub64_gen (x y c : Nat) (hc : c ≤ 1) (w : World) : (callFunc 83 #[.int .u64 (x : Int), .int .u64 (y : Int), .int .u64 (c : Int)]).run Try.prog w =
      .ok (.value (.tuple #[.int .u64 (((x + 18446744073709551616 - y - c) % 18446744073709551616 : Nat) : Int), .int .u64 ((if x < y + c then 1 else 0 : Nat) : Int)])) w := by
  rw [run_callFunc_extern Try.func83 (by kernel_rfl) (by kernel_rfl) (by kernel_rfl) (e := sub64Entry) (by kernel_rfl), run_sub64 x y c hc]
  simp only [Result.andThen]
def addS (x y c : Nat) : Nat := (x + y + c) % 18446744073709551616
def addC (x y c : Nat) : Nat := (x + y + c) / 18446744073709551616
def subS (x y c : Nat) : Nat := (x + 18446744073709551616 - y - c) % 18446744073709551616
def subC (x y c : Nat) : Nat := if x < y + c then 1 else 0
theorem w_add (x y c : Nat) (w : World) (hc : c ≤ 1) : Calls Try.prog 79 #[.int .u64 (x : Int), .int .u64 (y : Int), .int .u64 (c : Int)] w fun e w' => e = .returned (.tuple #[.int .u64 (addS x y c : Int), .int .u64 (addC x y c : Int)]) ∧ w' = w := by
  have kd := fun w => add64_gen x y c hc w
  rw [show (x + y + c) % 18446744073709551616 = addS x y c from rfl, show (x + y + c) / 18446744073709551616 = addC x y c from rfl] at kd
  go_enter Try.func79, Try.ntmps79
  go_wp2_with fail
  go_ret2
  exact ⟨rfl, rfl⟩
theorem w_sub (x y c : Nat) (w : World) (hc : c ≤ 1) : Calls Try.prog 78 #[.int .u64 (x : Int), .int .u64 (y : Int), .int .u64 (c : Int)] w fun e w' => e = .returned (.tuple #[.int .u64 (subS x y c : Int), .int .u64 (subC x y c : Int)]) ∧ w' = w := by
  have kd := fun w => sub64_gen x y c hc w
  rw [show (x + 18446744073709551616 - y - c) % 18446744073709551616 = subS x y c from rfl, show (if x < y + c then 1 else 0 : Nat) = subC x y c from rfl] at kd
  go_enter Try.func78, Try.ntmps78
  go_wp2_with fail
  go_ret2
  exact ⟨rfl, rfl⟩
theorem add_step (a b i c : Nat) (p : Nat → Nat) (hc : c ≤ 1) (hV : valW p i + c * B64 ^ i = a % B64 ^ i + b % B64 ^ i) :
    valW (upd p i (addS (wd a i) (wd b i) c)) (i + 1) + addC (wd a i) (wd b i) c * B64 ^ (i + 1) = a % B64 ^ (i + 1) + b % B64 ^ (i + 1) ∧ addC (wd a i) (wd b i) c ≤ 1 ∧ addS (wd a i) (wd b i) c < 18446744073709551616 := by
  have hx := wd_lt a i
  have hy := wd_lt b i
  have he : addS (wd a i) (wd b i) c + addC (wd a i) (wd b i) c * B64 = wd a i + wd b i + c := by unfold addS addC B64; omega
  refine ⟨?_, by unfold addC; omega, by unfold addS; omega⟩
  rw [valW, valW_same (upd p i _) p i (fun k hk => by unfold upd; rw [if_neg (by omega)]), show upd p i (addS (wd a i) (wd b i) c) i = addS (wd a i) (wd b i) c by unfold upd; rw [if_pos rfl], mod_step a i, mod_step b i, Nat.pow_succ, Nat.mul_comm (B64 ^ i) B64, ← Nat.mul_assoc]
  have h2 := congrArg (· * B64 ^ i) he
  simp only [Nat.add_mul] at h2
  omega
theorem sub_step (a b i c : Nat) (p : Nat → Nat) (hc : c ≤ 1) (hV : valW p i + b % B64 ^ i = a % B64 ^ i + c * B64 ^ i) :
    valW (upd p i (subS (wd a i) (wd b i) c)) (i + 1) + b % B64 ^ (i + 1) = a % B64 ^ (i + 1) + subC (wd a i) (wd b i) c * B64 ^ (i + 1) ∧ subC (wd a i) (wd b i) c ≤ 1 ∧ subS (wd a i) (wd b i) c < 18446744073709551616 := by
  have hx := wd_lt a i
  have hy := wd_lt b i
  have he : subS (wd a i) (wd b i) c + wd b i + c = wd a i + subC (wd a i) (wd b i) c * B64 := by unfold subS subC B64; split <;> omega
  refine ⟨?_, by unfold subC; split <;> omega, by unfold subS; omega⟩
  rw [valW, valW_same (upd p i _) p i (fun k hk => by unfold upd; rw [if_neg (by omega)]), show upd p i (subS (wd a i) (wd b i) c) i = subS (wd a i) (wd b i) c by unfold upd; rw [if_pos rfl], mod_step a i, mod_step b i, Nat.pow_succ, Nat.mul_comm (B64 ^ i) B64, ← Nat.mul_assoc]
  have h2 := congrArg (· * B64 ^ i) he
  simp only [Nat.add_mul] at h2
  omega
theorem results_arr_tmp {P : Program} {fn : Func} {tmps : Array Value} {w : World} {v u : Value} {a t b s : Nat} (h : fn.results = #[.cell a t, .tmp s]) (ha : tmps.getD a undef = .pointer (some ⟨b, 0, none⟩)) (hs : tmps.getD s undef = u) (hl : (loadVar t ⟨b, 0, none⟩).run P w = .ok v w) : (results fn tmps).run P w = .ok (.tuple #[v, u]) w := by
  rw [Array.getD_eq_getD_getElem?] at ha hs
  simp only [results, h]
  simp [asAddr, ha, hl, hs]
def rowQ (p : Nat → Nat) : List Value := [.int .u64 (p 0 : Int), .int .u64 (p 1 : Int), .int .u64 (p 2 : Int), .int .u64 (p 3 : Int)]
theorem rowQ_get (p : Nat → Nat) (k : Nat) (h : k < 4) : (rowQ p)[k]? = some (.int .u64 (p k : Int)) := by
  match k, h with
  | 0, _ => rfl | 1, _ => rfl | 2, _ => rfl | 3, _ => rfl
theorem rowQ_set (p : Nat → Nat) (i x : Nat) (h : i < 4) : (rowQ p).set i (.int .u64 (x : Int)) = rowQ (upd p i x) := by
  match i, h with
  | 0, _ => rfl | 1, _ => rfl | 2, _ => rfl | 3, _ => rfl
theorem rowQ_num (p : Nat → Nat) (v : Nat) (hp : ∀ k, p k < B64) (h : valW p 4 = v) : .agg (rowQ p).toArray = numV v := by
  have e : ∀ k, k < 4 → wd v k = p k := fun k hk => by rw [← h]; exact wd_valW p hp k 4 hk
  unfold numV rowQ
  rw [e 0 (by omega), e 1 (by omega), e 2 (by omega), e 3 (by omega)]
set_option maxHeartbeats 4000000 in
theorem join_add (a b : Nat) (w : World) :
    Calls Try.prog 77 #[numV a, numV b, .func (.func 79) #[] #[]] w fun e w' => ∃ p : Nat → Nat, ∃ c : Nat, (∀ k, p k < B64) ∧ c ≤ 1 ∧ valW p 4 + c * B64 ^ 4 = a % B64 ^ 4 + b % B64 ^ 4 ∧ e = .returned (.tuple #[.agg (rowQ p).toArray, .int .u64 (c : Int)]) ∧ Below w.heap.size w w' := by
  rw [show numV a = .agg #[.int .u64 (wd a 0 : Int), .int .u64 (wd a 1 : Int), .int .u64 (wd a 2 : Int), .int .u64 (wd a 3 : Int)] from rfl, show numV b = .agg #[.int .u64 (wd b 0 : Int), .int .u64 (wd b 1 : Int), .int .u64 (wd b 2 : Int), .int .u64 (wd b 3 : Int)] from rfl]
  have x0 : (((w.alloc (.cells (numL a).toArray 26)).alloc (.cells (numL b).toArray 26)).alloc (.cells (rowQ fun _ => 0).toArray 26)).heap[w.heap.size]? = some (.cells (numL a).toArray 26 (0, 0)) := by
    rw [alloc_old _ _ _ (by simp only [alloc_size1]; omega), alloc_old _ _ _ (by rw [alloc_size1]; omega), alloc_new]
  have x1 : (((w.alloc (.cells (numL a).toArray 26)).alloc (.cells (numL b).toArray 26)).alloc (.cells (rowQ fun _ => 0).toArray 26)).heap[w.heap.size + 1]? = some (.cells (numL b).toArray 26 (0, 0)) := by
    rw [alloc_old _ _ _ (by simp only [alloc_size1]; omega)]
    have := alloc_new (w.alloc (.cells (numL a).toArray 26)) (.cells (numL b).toArray 26)
    rw [alloc_size1] at this
    exact this
  have x2 : (((w.alloc (.cells (numL a).toArray 26)).alloc (.cells (numL b).toArray 26)).alloc (.cells (rowQ fun _ => 0).toArray 26)).heap[w.heap.size + 1 + 1]? = some (.cells (rowQ fun _ => 0).toArray 26 (0, 0)) := by
    have := alloc_new ((w.alloc (.cells (numL a).toArray 26)).alloc (.cells (numL b).toArray 26)) (.cells (rowQ fun _ => 0).toArray 26)
    simp only [alloc_size1] at this
    exact this
  have x3 : Below w.heap.size w (((w.alloc (.cells (numL a).toArray 26)).alloc (.cells (numL b).toArray 26)).alloc (.cells (rowQ fun _ => 0).toArray 26)) := gr_alloc (gr_alloc (gr_alloc (Below.refl _ _) _) _) _
  go_enter Try.func77, Try.ntmps77
  go_wp2_with fail
  change Code.wp _ _ _ _ (((w.alloc (.cells (numL a).toArray 26)).alloc (.cells (numL b).toArray 26)).alloc (.cells (rowQ fun _ => 0).toArray 26))
  generalize ((w.alloc (.cells (numL a).toArray 26)).alloc (.cells (numL b).toArray 26)).alloc (.cells (rowQ fun _ => 0).toArray 26) = X at *
  go_loopw [7, 9] (fun c i wr => ∃ i' c' : Nat, ∃ p : Nat → Nat, i' ≤ 4 ∧ i = .int .i64 (i' : Int) ∧ c = .int .u64 (c' : Int) ∧ c' ≤ 1 ∧ (∀ k, p k < B64) ∧ valW p i' + c' * B64 ^ i' = a % B64 ^ i' + b % B64 ^ i' ∧ wr.heap[w.heap.size]? = some (.cells (numL a).toArray 26 (0, 0)) ∧ wr.heap[w.heap.size + 1]? = some (.cells (numL b).toArray 26 (0, 0)) ∧ wr.heap[w.heap.size + 1 + 1]? = some (.cells (rowQ p).toArray 26 (0, 0)) ∧ Below w.heap.size w wr) (fun _ i _ => 4 - (intOf i).toNat)
  case atStart => exact ⟨0, 0, fun _ => 0, by omega, rfl, rfl, by omega, fun _ => B64_pos, by simp [valW, Nat.mod_one], x0, x1, x2, x3⟩
  case round =>
    clear x0 x1 x2 x3
    obtain ⟨i, c, p, hi, rfl, rfl, hc, hp, hV, y0, y1, y2, hb⟩ := hrel
    by_cases hlt : i < 4
    · have p1 : (i : Int) < 4 := by omega
      obtain ⟨hv, hc1, hs1⟩ := add_step a b i c p hc hV
      have HV := Lib.hid hv
      have HPP := Lib.hid hp
      have c0 := (arr_get y0 (numL_get a i hlt)).1
      have c1 := (arr_get y1 (numL_get b i hlt)).1
      obtain ⟨c2, f2⟩ := arr_get y2 (rowQ_get p i hlt)
      have WA := fun w => w_add (wd a i) (wd b i) c w hc
      have hset := arr_set (i := i) y2 (.int .u64 (addS (wd a i) (wd b i) c : Int))
      rw [rowQ_set p i _ hlt] at hset
      have HSET := Lib.hid hset
      have Y0 := Lib.hid y0
      have Y1 := Lib.hid y1
      clear hv hV hp y0 y1 y2 hset
      generalize hS : addS (wd a i) (wd b i) c = S at *
      generalize hC : addC (wd a i) (wd b i) c = C at *
      clear hS hC
      generalize wd a i = x at *
      generalize wd b i = y at *
      generalize p i = z at c2
      have o5 : IntKind.i64.wrap ((i : Int) + 1) = (i : Int) + 1 := IntWalk.i64_in _ (by omega)
      have k0 : ∀ v, (wr.setCell ⟨w.heap.size + 1 + 1, i, none⟩ v).cell? ⟨w.heap.size, i, none⟩ = some (.int .u64 (x : Int)) := fun v => (World.cell?_setCell_far wr ⟨w.heap.size + 1 + 1, i, none⟩ ⟨w.heap.size, i, none⟩ v (by show w.heap.size + 1 + 1 ≠ w.heap.size; omega)).trans c0
      have k1 : ∀ v, (wr.setCell ⟨w.heap.size + 1 + 1, i, none⟩ v).cell? ⟨w.heap.size + 1, i, none⟩ = some (.int .u64 (y : Int)) := fun v => (World.cell?_setCell_far wr ⟨w.heap.size + 1 + 1, i, none⟩ ⟨w.heap.size + 1, i, none⟩ v (by show w.heap.size + 1 + 1 ≠ w.heap.size + 1; omega)).trans c1
      have k2 : ∀ v, ∃ u, (wr.setCell ⟨w.heap.size + 1 + 1, i, none⟩ v).cell? ⟨w.heap.size + 1 + 1, i, none⟩ = some u := fun v => ⟨v, World.cell?_setCell_same wr _ v c2⟩
      have k3 : ∀ v, (wr.setCell ⟨w.heap.size + 1 + 1, i, none⟩ v).frozen? ⟨w.heap.size + 1 + 1, i, none⟩ = false := fun v => by rw [World.frozen?_setCell]; exact f2
      go_wp2_with fail
      go_region_held3 (fun w' => w'.cell? ⟨w.heap.size, i, none⟩ = some (.int .u64 (x : Int)) ∧ w'.cell? ⟨w.heap.size + 1, i, none⟩ = some (.int .u64 (y : Int)) ∧ (∃ v, w'.cell? ⟨w.heap.size + 1 + 1, i, none⟩ = some v) ∧ w'.frozen? ⟨w.heap.size + 1 + 1, i, none⟩ = false) (first | exact ⟨c0, c1, ⟨_, c2⟩, f2⟩ | exact ⟨k0 _, k1 _, k2 _, k3 _⟩ | go_keep) (first
        | (go_at_call 79; go_must (refine (WA _).mono ?_); rintro e w' ⟨rfl, rfl⟩))
      go_wp2_with fail
      go_roundw
      case rel =>
        refine ⟨i + 1, C, upd p i S, by omega, congrArg (Value.int .i64) (by omega), rfl, hc1, upd_lt HPP.out hs1, HV.out, ?_, ?_, HSET.out, (hb.setCell (p := ⟨w.heap.size + 1 + 1, i, none⟩) (by show w.heap.size ≤ w.heap.size + 1 + 1; omega) _).drew⟩
        · exact (Below.heap_setCell wr ⟨w.heap.size + 1 + 1, i, none⟩ (.int .u64 (S : Int)) w.heap.size (by show w.heap.size ≠ w.heap.size + 1 + 1; omega)).trans Y0.out
        · exact (Below.heap_setCell wr ⟨w.heap.size + 1 + 1, i, none⟩ (.int .u64 (S : Int)) (w.heap.size + 1) (by show w.heap.size + 1 ≠ w.heap.size + 1 + 1; omega)).trans Y1.out
      case measure => simp [intOf]; omega
    · obtain rfl : i = 4 := by omega
      have p1 : ¬ ((4 : Nat) : Int) < 4 := by omega
      have HV := Lib.hid hV
      have HPP := Lib.hid hp
      obtain ⟨d0, e0⟩ := arr_get y2 (rowQ_get p 0 (by omega))
      obtain ⟨d1, e1⟩ := arr_get y2 (rowQ_get p 1 (by omega))
      obtain ⟨d2, e2⟩ := arr_get y2 (rowQ_get p 2 (by omega))
      obtain ⟨d3, e3⟩ := arr_get y2 (rowQ_get p 3 (by omega))
      have v1 := arr_set (i := 3) (arr_set (i := 2) (arr_set (i := 1) (arr_set (i := 0) y2 (.int .u64 (p 0 : Int))) (.int .u64 (p 1 : Int))) (.int .u64 (p 2 : Int))) (.int .u64 (p 3 : Int))
      have q2 : ((((rowQ p).set 0 (.int .u64 (p 0 : Int))).set 1 (.int .u64 (p 1 : Int))).set 2 (.int .u64 (p 2 : Int))).set 3 (.int .u64 (p 3 : Int)) = rowQ p := rfl
      rw [q2] at v1
      have V1 := Lib.hid v1
      have bl : ∀ (W' : World) (q k : Nat) (x : Value), w.heap.size ≤ q → Below w.heap.size w W' → Below w.heap.size w (W'.setCell ⟨q, k, none⟩ x) := fun W' q k x hq h => h.setCell (p := ⟨q, k, none⟩) hq x
      have BB := Lib.hid (bl _ (w.heap.size + 1 + 1) 3 (.int .u64 (p 3 : Int)) (by omega) (bl _ (w.heap.size + 1 + 1) 2 (.int .u64 (p 2 : Int)) (by omega) (bl _ (w.heap.size + 1 + 1) 1 (.int .u64 (p 1 : Int)) (by omega) (bl _ (w.heap.size + 1 + 1) 0 (.int .u64 (p 0 : Int)) (by omega) hb))))
      clear hV hp y0 y1 y2 q2 v1 bl
      go_wp2_with fail
      obtain ⟨Y, hY⟩ : ∃ Y, Y = (((wr.setCell ⟨w.heap.size + 1 + 1, 0, none⟩ (.int .u64 (p 0 : Int))).setCell ⟨w.heap.size + 1 + 1, 1, none⟩ (.int .u64 (p 1 : Int))).setCell ⟨w.heap.size + 1 + 1, 2, none⟩ (.int .u64 (p 2 : Int))).setCell ⟨w.heap.size + 1 + 1, 3, none⟩ (.int .u64 (p 3 : Int)) := ⟨_, rfl⟩
      have v1 := V1.out
      have bb := BB.out
      rw [← hY] at v1 bb ⊢
      clear hY V1 BB
      have kl := run_loadVar_row (P := Try.prog) Y (w.heap.size + 1 + 1) 26 26 _ (0, 0) _ v1 Try.underlying26 rfl (by kernel_rfl)
      exact bodyPost_ret (v := .tuple #[.agg (rowQ p).toArray, .int .u64 (c : Int)]) (results_arr_tmp Try.results77 (by rfl) (by rfl) kl) rfl ⟨p, HPP.out, c, hc, HV.out, rfl, bb⟩
set_option maxHeartbeats 4000000 in
theorem join_sub (a b : Nat) (w : World) :
    Calls Try.prog 77 #[numV a, numV b, .func (.func 78) #[] #[]] w fun e w' => ∃ p : Nat → Nat, ∃ c : Nat, (∀ k, p k < B64) ∧ c ≤ 1 ∧ valW p 4 + b % B64 ^ 4 = a % B64 ^ 4 + c * B64 ^ 4 ∧ e = .returned (.tuple #[.agg (rowQ p).toArray, .int .u64 (c : Int)]) ∧ Below w.heap.size w w' := by
  rw [show numV a = .agg #[.int .u64 (wd a 0 : Int), .int .u64 (wd a 1 : Int), .int .u64 (wd a 2 : Int), .int .u64 (wd a 3 : Int)] from rfl, show numV b = .agg #[.int .u64 (wd b 0 : Int), .int .u64 (wd b 1 : Int), .int .u64 (wd b 2 : Int), .int .u64 (wd b 3 : Int)] from rfl]
  have x0 : (((w.alloc (.cells (numL a).toArray 26)).alloc (.cells (numL b).toArray 26)).alloc (.cells (rowQ fun _ => 0).toArray 26)).heap[w.heap.size]? = some (.cells (numL a).toArray 26 (0, 0)) := by
    rw [alloc_old _ _ _ (by simp only [alloc_size1]; omega), alloc_old _ _ _ (by rw [alloc_size1]; omega), alloc_new]
  have x1 : (((w.alloc (.cells (numL a).toArray 26)).alloc (.cells (numL b).toArray 26)).alloc (.cells (rowQ fun _ => 0).toArray 26)).heap[w.heap.size + 1]? = some (.cells (numL b).toArray 26 (0, 0)) := by
    rw [alloc_old _ _ _ (by simp only [alloc_size1]; omega)]
    have := alloc_new (w.alloc (.cells (numL a).toArray 26)) (.cells (numL b).toArray 26)
    rw [alloc_size1] at this
    exact this
  have x2 : (((w.alloc (.cells (numL a).toArray 26)).alloc (.cells (numL b).toArray 26)).alloc (.cells (rowQ fun _ => 0).toArray 26)).heap[w.heap.size + 1 + 1]? = some (.cells (rowQ fun _ => 0).toArray 26 (0, 0)) := by
    have := alloc_new ((w.alloc (.cells (numL a).toArray 26)).alloc (.cells (numL b).toArray 26)) (.cells (rowQ fun _ => 0).toArray 26)
    simp only [alloc_size1] at this
    exact this
  have x3 : Below w.heap.size w (((w.alloc (.cells (numL a).toArray 26)).alloc (.cells (numL b).toArray 26)).alloc (.cells (rowQ fun _ => 0).toArray 26)) := gr_alloc (gr_alloc (gr_alloc (Below.refl _ _) _) _) _
  go_enter Try.func77, Try.ntmps77
  go_wp2_with fail
  change Code.wp _ _ _ _ (((w.alloc (.cells (numL a).toArray 26)).alloc (.cells (numL b).toArray 26)).alloc (.cells (rowQ fun _ => 0).toArray 26))
  generalize ((w.alloc (.cells (numL a).toArray 26)).alloc (.cells (numL b).toArray 26)).alloc (.cells (rowQ fun _ => 0).toArray 26) = X at *
  go_loopw [7, 9] (fun c i wr => ∃ i' c' : Nat, ∃ p : Nat → Nat, i' ≤ 4 ∧ i = .int .i64 (i' : Int) ∧ c = .int .u64 (c' : Int) ∧ c' ≤ 1 ∧ (∀ k, p k < B64) ∧ valW p i' + b % B64 ^ i' = a % B64 ^ i' + c' * B64 ^ i' ∧ wr.heap[w.heap.size]? = some (.cells (numL a).toArray 26 (0, 0)) ∧ wr.heap[w.heap.size + 1]? = some (.cells (numL b).toArray 26 (0, 0)) ∧ wr.heap[w.heap.size + 1 + 1]? = some (.cells (rowQ p).toArray 26 (0, 0)) ∧ Below w.heap.size w wr) (fun _ i _ => 4 - (intOf i).toNat)
  case atStart => exact ⟨0, 0, fun _ => 0, by omega, rfl, rfl, by omega, fun _ => B64_pos, by simp [valW, Nat.mod_one], x0, x1, x2, x3⟩
  case round =>
    clear x0 x1 x2 x3
    obtain ⟨i, c, p, hi, rfl, rfl, hc, hp, hV, y0, y1, y2, hb⟩ := hrel
    by_cases hlt : i < 4
    · have p1 : (i : Int) < 4 := by omega
      obtain ⟨hv, hc1, hs1⟩ := sub_step a b i c p hc hV
      have HV := Lib.hid hv
      have HPP := Lib.hid hp
      have c0 := (arr_get y0 (numL_get a i hlt)).1
      have c1 := (arr_get y1 (numL_get b i hlt)).1
      obtain ⟨c2, f2⟩ := arr_get y2 (rowQ_get p i hlt)
      have WA := fun w => w_sub (wd a i) (wd b i) c w hc
      have hset := arr_set (i := i) y2 (.int .u64 (subS (wd a i) (wd b i) c : Int))
      rw [rowQ_set p i _ hlt] at hset
      have HSET := Lib.hid hset
      have Y0 := Lib.hid y0
      have Y1 := Lib.hid y1
      clear hv hV hp y0 y1 y2 hset
      generalize hS : subS (wd a i) (wd b i) c = S at *
      generalize hC : subC (wd a i) (wd b i) c = C at *
      clear hS hC
      generalize wd a i = x at *
      generalize wd b i = y at *
      generalize p i = z at c2
      have o5 : IntKind.i64.wrap ((i : Int) + 1) = (i : Int) + 1 := IntWalk.i64_in _ (by omega)
      have k0 : ∀ v, (wr.setCell ⟨w.heap.size + 1 + 1, i, none⟩ v).cell? ⟨w.heap.size, i, none⟩ = some (.int .u64 (x : Int)) := fun v => (World.cell?_setCell_far wr ⟨w.heap.size + 1 + 1, i, none⟩ ⟨w.heap.size, i, none⟩ v (by show w.heap.size + 1 + 1 ≠ w.heap.size; omega)).trans c0
      have k1 : ∀ v, (wr.setCell ⟨w.heap.size + 1 + 1, i, none⟩ v).cell? ⟨w.heap.size + 1, i, none⟩ = some (.int .u64 (y : Int)) := fun v => (World.cell?_setCell_far wr ⟨w.heap.size + 1 + 1, i, none⟩ ⟨w.heap.size + 1, i, none⟩ v (by show w.heap.size + 1 + 1 ≠ w.heap.size + 1; omega)).trans c1
      have k2 : ∀ v, ∃ u, (wr.setCell ⟨w.heap.size + 1 + 1, i, none⟩ v).cell? ⟨w.heap.size + 1 + 1, i, none⟩ = some u := fun v => ⟨v, World.cell?_setCell_same wr _ v c2⟩
      have k3 : ∀ v, (wr.setCell ⟨w.heap.size + 1 + 1, i, none⟩ v).frozen? ⟨w.heap.size + 1 + 1, i, none⟩ = false := fun v => by rw [World.frozen?_setCell]; exact f2
      go_wp2_with fail
      go_region_held3 (fun w' => w'.cell? ⟨w.heap.size, i, none⟩ = some (.int .u64 (x : Int)) ∧ w'.cell? ⟨w.heap.size + 1, i, none⟩ = some (.int .u64 (y : Int)) ∧ (∃ v, w'.cell? ⟨w.heap.size + 1 + 1, i, none⟩ = some v) ∧ w'.frozen? ⟨w.heap.size + 1 + 1, i, none⟩ = false) (first | exact ⟨c0, c1, ⟨_, c2⟩, f2⟩ | exact ⟨k0 _, k1 _, k2 _, k3 _⟩ | go_keep) (first
        | (go_at_call 78; go_must (refine (WA _).mono ?_); rintro e w' ⟨rfl, rfl⟩))
      go_wp2_with fail
      go_roundw
      case rel =>
        refine ⟨i + 1, C, upd p i S, by omega, congrArg (Value.int .i64) (by omega), rfl, hc1, upd_lt HPP.out hs1, HV.out, ?_, ?_, HSET.out, (hb.setCell (p := ⟨w.heap.size + 1 + 1, i, none⟩) (by show w.heap.size ≤ w.heap.size + 1 + 1; omega) _).drew⟩
        · exact (Below.heap_setCell wr ⟨w.heap.size + 1 + 1, i, none⟩ (.int .u64 (S : Int)) w.heap.size (by show w.heap.size ≠ w.heap.size + 1 + 1; omega)).trans Y0.out
        · exact (Below.heap_setCell wr ⟨w.heap.size + 1 + 1, i, none⟩ (.int .u64 (S : Int)) (w.heap.size + 1) (by show w.heap.size + 1 ≠ w.heap.size + 1 + 1; omega)).trans Y1.out
      case measure => simp [intOf]; omega
    · obtain rfl : i = 4 := by omega
      have p1 : ¬ ((4 : Nat) : Int) < 4 := by omega
      have HV := Lib.hid hV
      have HPP := Lib.hid hp
      obtain ⟨d0, e0⟩ := arr_get y2 (rowQ_get p 0 (by omega))
      obtain ⟨d1, e1⟩ := arr_get y2 (rowQ_get p 1 (by omega))
      obtain ⟨d2, e2⟩ := arr_get y2 (rowQ_get p 2 (by omega))
      obtain ⟨d3, e3⟩ := arr_get y2 (rowQ_get p 3 (by omega))
      have v1 := arr_set (i := 3) (arr_set (i := 2) (arr_set (i := 1) (arr_set (i := 0) y2 (.int .u64 (p 0 : Int))) (.int .u64 (p 1 : Int))) (.int .u64 (p 2 : Int))) (.int .u64 (p 3 : Int))
      have q2 : ((((rowQ p).set 0 (.int .u64 (p 0 : Int))).set 1 (.int .u64 (p 1 : Int))).set 2 (.int .u64 (p 2 : Int))).set 3 (.int .u64 (p 3 : Int)) = rowQ p := rfl
      rw [q2] at v1
      have V1 := Lib.hid v1
      have bl : ∀ (W' : World) (q k : Nat) (x : Value), w.heap.size ≤ q → Below w.heap.size w W' → Below w.heap.size w (W'.setCell ⟨q, k, none⟩ x) := fun W' q k x hq h => h.setCell (p := ⟨q, k, none⟩) hq x
      have BB := Lib.hid (bl _ (w.heap.size + 1 + 1) 3 (.int .u64 (p 3 : Int)) (by omega) (bl _ (w.heap.size + 1 + 1) 2 (.int .u64 (p 2 : Int)) (by omega) (bl _ (w.heap.size + 1 + 1) 1 (.int .u64 (p 1 : Int)) (by omega) (bl _ (w.heap.size + 1 + 1) 0 (.int .u64 (p 0 : Int)) (by omega) hb))))
      clear hV hp y0 y1 y2 q2 v1 bl
      go_wp2_with fail
      obtain ⟨Y, hY⟩ : ∃ Y, Y = (((wr.setCell ⟨w.heap.size + 1 + 1, 0, none⟩ (.int .u64 (p 0 : Int))).setCell ⟨w.heap.size + 1 + 1, 1, none⟩ (.int .u64 (p 1 : Int))).setCell ⟨w.heap.size + 1 + 1, 2, none⟩ (.int .u64 (p 2 : Int))).setCell ⟨w.heap.size + 1 + 1, 3, none⟩ (.int .u64 (p 3 : Int)) := ⟨_, rfl⟩
      have v1 := V1.out
      have bb := BB.out
      rw [← hY] at v1 bb ⊢
      clear hY V1 BB
      have kl := run_loadVar_row (P := Try.prog) Y (w.heap.size + 1 + 1) 26 26 _ (0, 0) _ v1 Try.underlying26 rfl (by kernel_rfl)
      exact bodyPost_ret (v := .tuple #[.agg (rowQ p).toArray, .int .u64 (c : Int)]) (results_arr_tmp Try.results77 (by rfl) (by rfl) kl) rfl ⟨p, HPP.out, c, hc, HV.out, rfl, bb⟩
end Go.Proofs.Ythdbadomppohbaa
