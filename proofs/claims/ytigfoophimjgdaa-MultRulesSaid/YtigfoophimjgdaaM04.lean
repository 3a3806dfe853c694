/- Numbers of four words in blocks of memory, for seats without wide.Rem: what is kept of them. -/
import Derived.Deep.DeepCutAuto
import Derived.Lib.QuietBelow
import Derived.Deep.Light
import Derived.Test.YtigfoophimjgdaaM02
import Derived.Test.YtigfoophimjgdaaM03
namespace Go.Proofs.Ytigfoophimjgdaa
set_option maxRecDepth 20000
set_option linter.unusedSimpArgs false
set_option linter.unusedVariables false
open Go.RowKit
theorem fourV {w : World} {b : Nat} {t : TypeId} {v0 v1 v2 v3 : Value} (h : w.heap[b]? = some (.cells #[v0, v1, v2, v3] t (0, 0))) :
    (w.cell? ⟨b, 0, none⟩ = some v0 ∧ w.cell? ⟨b, 1, none⟩ = some v1 ∧ w.cell? ⟨b, 2, none⟩ = some v2 ∧ w.cell? ⟨b, 3, none⟩ = some v3) ∧
    w.frozen? ⟨b, 0, none⟩ = false ∧ w.frozen? ⟨b, 1, none⟩ = false ∧ w.frozen? ⟨b, 2, none⟩ = false ∧ w.frozen? ⟨b, 3, none⟩ = false := by
  have h' : w.heap[b]? = some (.cells ([v0, v1, v2, v3] : List Value).toArray t (0, 0)) := h
  exact ⟨⟨(arr_get (i := 0) h' rfl).1, (arr_get (i := 1) h' rfl).1, (arr_get (i := 2) h' rfl).1, (arr_get (i := 3) h' rfl).1⟩, (arr_get (i := 0) h' rfl).2, (arr_get (i := 1) h' rfl).2, (arr_get (i := 2) h' rfl).2, (arr_get (i := 3) h' rfl).2⟩
theorem keep {w w' : World} {b : Nat} {o : Obj} (r : w.heap[b]? = some o) (hb : Below w.heap.size w w') : w'.heap[b]? = some o := (hb.block b (lt_blk r)).trans r
theorem alloc_keep {w : World} {b : Nat} {o : Obj} (r : w.heap[b]? = some o) (z : Obj) : (w.alloc z).heap[b]? = some o := (alloc_old w z b (lt_blk r)).trans r
theorem set4_row {w : World} {b : Nat} {t : TypeId} {u0 u1 u2 u3 v0 v1 v2 v3 : Value} (h : w.heap[b]? = some (.cells #[u0, u1, u2, u3] t (0, 0))) :
    ((((w.setCell ⟨b, 0, none⟩ v0).setCell ⟨b, 1, none⟩ v1).setCell ⟨b, 2, none⟩ v2).setCell ⟨b, 3, none⟩ v3).heap[b]? = some (.cells #[v0, v1, v2, v3] t (0, 0)) := by
  have h' : w.heap[b]? = some (.cells ([u0, u1, u2, u3] : List Value).toArray t (0, 0)) := h
  exact arr_set (i := 3) (arr_set (i := 2) (arr_set (i := 1) (arr_set (i := 0) h' v0) v1) v2) v3
theorem set4_far {w : World} {b c : Nat} {v0 v1 v2 v3 : Value} (h : c ≠ b) :
    ((((w.setCell ⟨b, 0, none⟩ v0).setCell ⟨b, 1, none⟩ v1).setCell ⟨b, 2, none⟩ v2).setCell ⟨b, 3, none⟩ v3).heap[c]? = w.heap[c]? := by
  rw [Below.heap_setCell _ ⟨b, 3, none⟩ _ _ h, Below.heap_setCell _ ⟨b, 2, none⟩ _ _ h, Below.heap_setCell _ ⟨b, 1, none⟩ _ _ h, Below.heap_setCell _ ⟨b, 0, none⟩ _ _ h]
theorem set4_below {B : Nat} {w0 w : World} {b : Nat} {v0 v1 v2 v3 : Value} (h : Below B w0 w) (hb : B ≤ b) :
    Below B w0 ((((w.setCell ⟨b, 0, none⟩ v0).setCell ⟨b, 1, none⟩ v1).setCell ⟨b, 2, none⟩ v2).setCell ⟨b, 3, none⟩ v3) :=
  (((h.setCell (p := ⟨b, 0, none⟩) hb _).setCell (p := ⟨b, 1, none⟩) hb _).setCell (p := ⟨b, 2, none⟩) hb _).setCell (p := ⟨b, 3, none⟩) hb _
theorem gr_allocB {B : Nat} {w0 w1 : World} (h : Below B w0 w1) (hs : B ≤ w1.heap.size) (o : Obj) : Below B w0 (w1.alloc o) := h.alloc hs o
theorem far4 {w : World} {b c : Nat} {v0 v1 v2 v3 x0 x1 x2 x3 : Value} (h : w.cell? ⟨c, 0, none⟩ = some x0 ∧ w.cell? ⟨c, 1, none⟩ = some x1 ∧ w.cell? ⟨c, 2, none⟩ = some x2 ∧ w.cell? ⟨c, 3, none⟩ = some x3) (hne : c ≠ b) :
    ((((w.setCell ⟨b, 0, none⟩ v0).setCell ⟨b, 1, none⟩ v1).setCell ⟨b, 2, none⟩ v2).setCell ⟨b, 3, none⟩ v3).cell? ⟨c, 0, none⟩ = some x0 ∧ ((((w.setCell ⟨b, 0, none⟩ v0).setCell ⟨b, 1, none⟩ v1).setCell ⟨b, 2, none⟩ v2).setCell ⟨b, 3, none⟩ v3).cell? ⟨c, 1, none⟩ = some x1 ∧
    ((((w.setCell ⟨b, 0, none⟩ v0).setCell ⟨b, 1, none⟩ v1).setCell ⟨b, 2, none⟩ v2).setCell ⟨b, 3, none⟩ v3).cell? ⟨c, 2, none⟩ = some x2 ∧ ((((w.setCell ⟨b, 0, none⟩ v0).setCell ⟨b, 1, none⟩ v1).setCell ⟨b, 2, none⟩ v2).setCell ⟨b, 3, none⟩ v3).cell? ⟨c, 3, none⟩ = some x3 := by
  have hf : ∀ k, ((((w.setCell ⟨b, 0, none⟩ v0).setCell ⟨b, 1, none⟩ v1).setCell ⟨b, 2, none⟩ v2).setCell ⟨b, 3, none⟩ v3).cell? ⟨c, k, none⟩ = w.cell? ⟨c, k, none⟩ := fun k => by
    have := set4_far (w := w) (b := b) (c := c) (v0 := v0) (v1 := v1) (v2 := v2) (v3 := v3) hne
    simp only [World.cell?, this]
  exact ⟨(hf 0).trans h.1, (hf 1).trans h.2.1, (hf 2).trans h.2.2.1, (hf 3).trans h.2.2.2⟩
/-- The block b holds the number n, as an array of type t. -/
def IsA (w : World) (b n : Nat) (t : TypeId) : Prop := w.heap[b]? = some (.cells #[.int .u64 (wd n 0 : Int), .int .u64 (wd n 1 : Int), .int .u64 (wd n 2 : Int), .int .u64 (wd n 3 : Int)] t (0, 0))
theorem IsA.keep {w w' : World} {b n : Nat} {t : TypeId} (r : IsA w b n t) (hb : Below w.heap.size w w') : IsA w' b n t := Go.Proofs.Ytigfoophimjgdaa.keep r hb
theorem IsA.alloc {w : World} {b n : Nat} {t : TypeId} (r : IsA w b n t) (z : Obj) : IsA (w.alloc z) b n t := alloc_keep r z
theorem alloc_new1 (w : World) (z o : Obj) : ((w.alloc z).alloc o).heap[w.heap.size + 1]? = some o := by
  have := alloc_new (w.alloc z) o
  rw [alloc_size1] at this
  exact this
theorem mul_high (a b : Nat) (ha : a < B64 ^ 4) (hb : b < B64 ^ 4) : a * b / 65536 ^ 16 % B64 ^ 4 = a * b / B64 ^ 4 := by
  rw [show (65536 : Nat) ^ 16 = B64 ^ 4 by decide]
  apply Nat.mod_eq_of_lt
  rw [Nat.div_lt_iff_lt_mul (Nat.pow_pos B64_pos)]
  exact Nat.mul_lt_mul'' ha hb
theorem less_is (a b : Nat) : ((subK a b : Int) == 1) = decide (a < b) := by
  unfold subK
  split
  · rename_i h; rw [decide_eq_true h]; rfl
  · rename_i h; rw [decide_eq_false h]; rfl
theorem sub_fits (a b : Nat) (ha : a < B64 ^ 4) (hb : b < B64 ^ 4) : subN a b < B64 ^ 4 := by
  unfold subN
  split <;> omega
theorem sub_back (a b : Nat) (ha : a < B64 ^ 4) (hb : b < B64 ^ 4) : addN (subN a b) b = a := by
  unfold addN subN
  split
  · rw [show a + B64 ^ 4 - b + b = a + B64 ^ 4 by omega, Nat.add_mod_right, Nat.mod_eq_of_lt ha]
  · rw [show a - b + b = a by omega, Nat.mod_eq_of_lt ha]
theorem top_limb (a b : Nat) (ha : a < B64 ^ 4) (hb : b < B64 ^ 4) : dg (a + b) 16 = addK a b := by
  unfold dg addK
  rw [show (65536 : Nat) ^ 16 = B64 ^ 4 by decide]
  have : (a + b) / B64 ^ 4 < 2 := by rw [Nat.div_lt_iff_lt_mul (Nat.pow_pos B64_pos)]; omega
  exact Nat.mod_eq_of_lt (by omega)
theorem alloc_new2 (w : World) (y z o : Obj) : (((w.alloc y).alloc z).alloc o).heap[w.heap.size + 1 + 1]? = some o := by
  have := alloc_new ((w.alloc y).alloc z) o
  rw [alloc_size1, alloc_size1] at this
  exact this
theorem IsA.drew {w : World} {b n : Nat} {t : TypeId} (r : IsA w b n t) : IsA w.drew b n t := r
theorem cells12 {w : World} {b1 b2 b3 x y z : Nat} {t1 t2 t3 : TypeId} (h1 : IsA w b1 x t1) (h2 : IsA w b2 y t2) (h3 : IsA w b3 z t3) :
    w.cell? ⟨b1, 0, none⟩ = some (.int .u64 (wd x 0 : Int)) ∧ w.cell? ⟨b1, 1, none⟩ = some (.int .u64 (wd x 1 : Int)) ∧ w.cell? ⟨b1, 2, none⟩ = some (.int .u64 (wd x 2 : Int)) ∧ w.cell? ⟨b1, 3, none⟩ = some (.int .u64 (wd x 3 : Int)) ∧ w.cell? ⟨b2, 0, none⟩ = some (.int .u64 (wd y 0 : Int)) ∧ w.cell? ⟨b2, 1, none⟩ = some (.int .u64 (wd y 1 : Int)) ∧ w.cell? ⟨b2, 2, none⟩ = some (.int .u64 (wd y 2 : Int)) ∧ w.cell? ⟨b2, 3, none⟩ = some (.int .u64 (wd y 3 : Int)) ∧ w.cell? ⟨b3, 0, none⟩ = some (.int .u64 (wd z 0 : Int)) ∧ w.cell? ⟨b3, 1, none⟩ = some (.int .u64 (wd z 1 : Int)) ∧ w.cell? ⟨b3, 2, none⟩ = some (.int .u64 (wd z 2 : Int)) ∧ w.cell? ⟨b3, 3, none⟩ = some (.int .u64 (wd z 3 : Int)) := by
  obtain ⟨⟨p0, p1, p2, p3⟩, _⟩ := fourV h1
  obtain ⟨⟨q0, q1, q2, q3⟩, _⟩ := fourV h2
  obtain ⟨⟨r0, r1, r2, r3⟩, _⟩ := fourV h3
  exact ⟨p0, p1, p2, p3, q0, q1, q2, q3, r0, r1, r2, r3⟩
theorem IsA.grown {w w' : World} {b n : Nat} {t : TypeId} {o : Option Nat} (r : IsA w b n t) (h : w.grownBy w' o) (hne : some b ≠ o) : IsA w' b n t := (h.block b (lt_blk r) hne).trans r
theorem cat_dg (a b k : Nat) (ha : a < 65536 ^ 16) : dg (a + b * 65536 ^ 16) k = if k < 16 then dg a k else dg b (k - 16) := by
  unfold dg
  split
  · rename_i h
    obtain ⟨d, hd⟩ : ∃ d, 16 = d + 1 + k := ⟨16 - k - 1, by omega⟩
    rw [show b * 65536 ^ 16 = b * 65536 ^ d * 65536 * 65536 ^ k by rw [hd, Nat.pow_add, Nat.pow_succ]; simp only [Nat.mul_assoc], Nat.add_mul_div_right _ _ (p16_pos k), Nat.add_mul_mod_self_right]
  · rename_i h
    obtain ⟨d, rfl⟩ : ∃ d, k = 16 + d := ⟨k - 16, by omega⟩
    rw [Nat.pow_add, ← Nat.div_div_eq_div_mul, Nat.add_mul_div_right _ _ (p16_pos 16), Nat.div_eq_of_lt ha, Nat.zero_add, show 16 + d - 16 = d by omega]
theorem cat_lt (a b : Nat) (ha : a < 65536 ^ 16) (hb : b < 65536 ^ 16) : a + b * 65536 ^ 16 < 65536 ^ 32 := by
  have h1 : (b + 1) * 65536 ^ 16 ≤ 65536 ^ 16 * 65536 ^ 16 := Nat.mul_le_mul_right _ hb
  rw [Nat.add_mul, Nat.one_mul, ← Nat.pow_add] at h1
  omega
theorem own_of {w : World} {g n base : Nat} (h : OwnN w g 16 n) (hb : base ≤ g) : w.ownsRow base 23 1 (.slice (some ⟨g, 0, none⟩) 16 16) 16 (rowH (dg n) 16) :=
  ⟨by rw [rowH_len], .inr ⟨g, 16, _, rfl, hb, h.1, by omega, by unfold maxLen; omega, by simp [rowH_len], by rw [List.take_of_length_le (by simp [rowH_len])]⟩⟩
theorem own_isN {w : World} {base a b : Nat} {v : Value} (h : w.ownsRow base 23 1 v (16 + 16) (rowH (dg a) 16 ++ rowH (dg b) 16)) (ha : a < 65536 ^ 16) (hb : b < 65536 ^ 16) :
    ∃ g cap, v = .slice (some ⟨g, 0, none⟩) 32 cap ∧ base ≤ g ∧ IsN w (some ⟨g, 0, none⟩) 32 cap (a + b * 65536 ^ 16) := by
  obtain ⟨_, ⟨_, h0⟩ | ⟨g, cap, cur, rfl, h1, h2, h3, h4, h5, h6⟩⟩ := h
  · omega
  · refine ⟨g, cap, rfl, h1, cat_lt a b ha hb, by omega, .inr ⟨g, rfl, h3, lt_blk h2, fun i hi => ?_⟩⟩
    have hx : (cur.toList.take (16 + 16))[i]? = (rowH (dg a) 16 ++ rowH (dg b) 16)[i]? := by
      have := congrArg (fun l : List Value => l[i]?) h6
      simpa using this
    rw [List.getElem?_take, if_pos (by omega)] at hx
    have hc : w.cell? ⟨g, i, none⟩ = cur.toList[i]? := by simp [World.cell?, h2]
    rw [hc, hx, cat_dg a b i ha]
    by_cases hlt : i < 16
    · rw [List.getElem?_append_left (by rw [rowH_len]; exact hlt), rowH_get _ 16 i hlt, if_pos hlt]
    · rw [List.getElem?_append_right (by rw [rowH_len]; omega), rowH_len, rowH_get _ 16 _ (by omega), if_neg hlt]
theorem IsA.far {w : World} {b c n : Nat} {t : TypeId} {v0 v1 v2 v3 : Value} (r : IsA w b n t) (h : b ≠ c) : IsA ((((w.setCell ⟨c, 0, none⟩ v0).setCell ⟨c, 1, none⟩ v1).setCell ⟨c, 2, none⟩ v2).setCell ⟨c, 3, none⟩ v3) b n t := (set4_far h).trans r
theorem isA_a1 (w : World) (n : Nat) (t : TypeId) (z : Obj) : IsA ((w.alloc (.cells #[.int .u64 (wd n 0 : Int), .int .u64 (wd n 1 : Int), .int .u64 (wd n 2 : Int), .int .u64 (wd n 3 : Int)] t)).alloc z) w.heap.size n t := alloc_keep (alloc_new w _) z
theorem isA_a2 (w : World) (n : Nat) (t : TypeId) (z : Obj) : IsA ((w.alloc z).alloc (.cells #[.int .u64 (wd n 0 : Int), .int .u64 (wd n 1 : Int), .int .u64 (wd n 2 : Int), .int .u64 (wd n 3 : Int)] t)) (w.heap.size + 1) n t := alloc_new1 w z _
theorem isA_set {w : World} {c n : Nat} {t : TypeId} {u0 u1 u2 u3 : Value} (h : w.heap[c]? = some (.cells #[u0, u1, u2, u3] t (0, 0))) : IsA ((((w.setCell ⟨c, 0, none⟩ (.int .u64 (wd n 0 : Int))).setCell ⟨c, 1, none⟩ (.int .u64 (wd n 1 : Int))).setCell ⟨c, 2, none⟩ (.int .u64 (wd n 2 : Int))).setCell ⟨c, 3, none⟩ (.int .u64 (wd n 3 : Int))) c n t := set4_row h
theorem isA_a4 (w : World) (c : Nat) {v0 v1 v2 v3 : Value} (n : Nat) (t : TypeId) : IsA (((((w.setCell ⟨c, 0, none⟩ v0).setCell ⟨c, 1, none⟩ v1).setCell ⟨c, 2, none⟩ v2).setCell ⟨c, 3, none⟩ v3).alloc (.cells #[.int .u64 (wd n 0 : Int), .int .u64 (wd n 1 : Int), .int .u64 (wd n 2 : Int), .int .u64 (wd n 3 : Int)] t)) w.heap.size n t := by
  have sz : ∀ (W : World) (a : Addr) (v : Value), (W.setCell a v).heap.size = W.heap.size := fun W a v => by show (W.heap.modify _ _).size = _; rw [Array.size_modify]
  have h := alloc_new ((((w.setCell ⟨c, 0, none⟩ v0).setCell ⟨c, 1, none⟩ v1).setCell ⟨c, 2, none⟩ v2).setCell ⟨c, 3, none⟩ v3) (.cells #[.int .u64 (wd n 0 : Int), .int .u64 (wd n 1 : Int), .int .u64 (wd n 2 : Int), .int .u64 (wd n 3 : Int)] t)
  rw [sz, sz, sz, sz] at h
  exact h
theorem set_size (W : World) (a : Addr) (v : Value) : (W.setCell a v).heap.size = W.heap.size := by show (W.heap.modify _ _).size = _; rw [Array.size_modify]
theorem row_news {w : World} {g N : Nat} {p : Nat → Nat} {t : TypeId} (h : w.heap[g]? = some (.cells (rowH p N).toArray t (0, 0))) : ∀ j u, (rowH p N)[j]? = some u → w.cell? ((⟨g, 0, none⟩ : Addr).add j) = some u := fun j u hu => by
  have hadd : (⟨g, 0, none⟩ : Addr).add j = ⟨g, j, none⟩ := by unfold Addr.add; split <;> simp_all
  rw [hadd]
  exact (arr_get h hu).1
theorem row_one (p : Nat → Nat) (N : Nat) : ∀ u ∈ rowH p N, u.oneCell' = true := fun u hu => by
  unfold rowH at hu
  obtain ⟨k, _, rfl⟩ := List.mem_map.1 hu
  rfl
end Go.Proofs.Ytigfoophimjgdaa
