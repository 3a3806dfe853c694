/- The law of rests, layer 13. -/
import Derived.Test.YtlclhialkpppeaaWidP
import Derived.Test.YtlclhialkpppeaaWidVc
import Derived.Deep.Light
namespace Go.Proofs.Ytlclhialkpppeaa
open Go.RowKit
theorem alloc_new2 (w : World) (y z o : Obj) : (((w.alloc y).alloc z).alloc o).heap[w.heap.size + 1 + 1]? = some o := by
  have := alloc_new ((w.alloc y).alloc z) o
  rw [alloc_size1, alloc_size1] at this
  exact this
theorem IsA.drew {w : World} {b n : Nat} {t : TypeId} (r : IsA w b n t) : IsA w.drew b n t := r
theorem cells12 {w : World} {b1 b2 b3 x y z : Nat} {t1 t2 t3 : TypeId} (h1 : IsA w b1 x t1) (h2 : IsA w b2 y t2) (h3 : IsA w b3 z t3) :
    w.cell? ⟨b1, 0, none⟩ = some (.int .u64 (wd x 0 : Int)) ∧ w.cell? ⟨b1, 1, none⟩ = some (.int .u64 (wd x 1 : Int)) ∧ w.cell? ⟨b1, 2, none⟩ = some (.int .u64 (wd x 2 : Int)) ∧ w.cell? ⟨b1, 3, none⟩ = some (.int .u64 (wd x 3 : Int)) ∧ w.cell? ⟨b2, 0, none⟩ = some (.int .u64 (wd y 0 : Int)) ∧ w.cell? ⟨b2, 1, none⟩ = some (.int .u64 (wd y 1 : Int)) ∧ w.cell? ⟨b2, 2, none⟩ = some (.int .u64 (wd y 2 : Int)) ∧ w.cell? ⟨b2, 3, none⟩ = some (.int .u64 (wd y 3 : Int)) ∧ w.cell? ⟨b3, 0, none⟩ = some (.int .u64 (wd z 0 : Int)) ∧ w.cell? ⟨b3, 1, none⟩ = some (.int .u64 (wd z 1 : Int)) ∧ w.cell? ⟨b3, 2, none⟩ = some (.int .u64 (wd z 2 : Int)) ∧ w.cell? ⟨b3, 3, none⟩ = some (.int .u64 (wd z 3 : Int)) := by
  obtain ⟨⟨p0, p1, p2, p3⟩, _⟩ := fourV h1
  obtain ⟨⟨q0, q1, q2, q3⟩, _⟩ := fourV h2
  obtain ⟨⟨r0, r1, r2, r3⟩, _⟩ := fourV h3
  exact ⟨p0, p1, p2, p3, q0, q1, q2, q3, r0, r1, r2, r3⟩
theorem IsA.grown {w w' : World} {b n : Nat} {t : TypeId} {o : Option Nat} (r : IsA w b n t) (h : w.grownBy w' o) (hne : some b ≠ o) : IsA w' b n t := (h.block b (lt_blk r) hne).trans r
theorem cat_dg (a b k : Nat) (ha : a < 65536 ^ 16) : dg (a + b * 65536 ^ 16) k = if k < 16 then dg a k else dg b (k - 16) := by
  unfold dg
  split
  · rename_i h
    obtain ⟨d, hd⟩ : ∃ d, 16 = d + 1 + k := ⟨16 - k - 1, by omega⟩
    rw [show b * 65536 ^ 16 = b * 65536 ^ d * 65536 * 65536 ^ k by rw [hd, Nat.pow_add, Nat.pow_succ]; simp only [Nat.mul_assoc], Nat.add_mul_div_right _ _ (p16_pos k), Nat.add_mul_mod_self_right]
  · rename_i h
    obtain ⟨d, rfl⟩ : ∃ d, k = 16 + d := ⟨k - 16, by omega⟩
    rw [Nat.pow_add, ← Nat.div_div_eq_div_mul, Nat.add_mul_div_right _ _ (p16_pos 16), Nat.div_eq_of_lt ha, Nat.zero_add, show 16 + d - 16 = d by omega]
theorem cat_lt (a b : Nat) (ha : a < 65536 ^ 16) (hb : b < 65536 ^ 16) : a + b * 65536 ^ 16 < 65536 ^ 32 := by
  have h1 : (b + 1) * 65536 ^ 16 ≤ 65536 ^ 16 * 65536 ^ 16 := Nat.mul_le_mul_right _ hb
  rw [Nat.add_mul, Nat.one_mul, ← Nat.pow_add] at h1
  omega
theorem own_of {w : World} {g n base : Nat} (h : OwnN w g 16 n) (hb : base ≤ g) : w.ownsRow base 22 1 (.slice (some ⟨g, 0, none⟩) 16 16) 16 (rowH (dg n) 16) :=
  ⟨by rw [rowH_len], .inr ⟨g, 16, _, rfl, hb, h.1, by omega, by unfold maxLen; omega, by simp [rowH_len], by rw [List.take_of_length_le (by simp [rowH_len])]⟩⟩
theorem own_isN {w : World} {base a b : Nat} {v : Value} (h : w.ownsRow base 22 1 v (16 + 16) (rowH (dg a) 16 ++ rowH (dg b) 16)) (ha : a < 65536 ^ 16) (hb : b < 65536 ^ 16) :
    ∃ g cap, v = .slice (some ⟨g, 0, none⟩) 32 cap ∧ base ≤ g ∧ IsN w (some ⟨g, 0, none⟩) 32 cap (a + b * 65536 ^ 16) := by
  obtain ⟨_, ⟨_, h0⟩ | ⟨g, cap, cur, rfl, h1, h2, h3, h4, h5, h6⟩⟩ := h
  · omega
  · refine ⟨g, cap, rfl, h1, cat_lt a b ha hb, by omega, .inr ⟨g, rfl, h3, lt_blk h2, fun i hi => ?_⟩⟩
    have hx : (cur.toList.take (16 + 16))[i]? = (rowH (dg a) 16 ++ rowH (dg b) 16)[i]? := by
      have := congrArg (fun l : List Value => l[i]?) h6
      simpa using this
    rw [List.getElem?_take, if_pos (by omega)] at hx
    have hc : w.cell? ⟨g, i, none⟩ = cur.toList[i]? := by simp [World.cell?, h2]
    rw [hc, hx, cat_dg a b i ha]
    by_cases hlt : i < 16
    · rw [List.getElem?_append_left (by rw [rowH_len]; exact hlt), rowH_get _ 16 i hlt, if_pos hlt]
    · rw [List.getElem?_append_right (by rw [rowH_len]; omega), rowH_len, rowH_get _ 16 _ (by omega), if_neg hlt]
theorem IsA.far {w : World} {b c n : Nat} {t : TypeId} {v0 v1 v2 v3 : Value} (r : IsA w b n t) (h : b ≠ c) : IsA ((((w.setCell ⟨c, 0, none⟩ v0).setCell ⟨c, 1, none⟩ v1).setCell ⟨c, 2, none⟩ v2).setCell ⟨c, 3, none⟩ v3) b n t := (set4_far h).trans r
theorem isA_a1 (w : World) (n : Nat) (t : TypeId) (z : Obj) : IsA ((w.alloc (.cells #[.int .u64 (wd n 0 : Int), .int .u64 (wd n 1 : Int), .int .u64 (wd n 2 : Int), .int .u64 (wd n 3 : Int)] t)).alloc z) w.heap.size n t := alloc_keep (alloc_new w _) z
theorem isA_a2 (w : World) (n : Nat) (t : TypeId) (z : Obj) : IsA ((w.alloc z).alloc (.cells #[.int .u64 (wd n 0 : Int), .int .u64 (wd n 1 : Int), .int .u64 (wd n 2 : Int), .int .u64 (wd n 3 : Int)] t)) (w.heap.size + 1) n t := alloc_new1 w z _
theorem isA_set {w : World} {c n : Nat} {t : TypeId} {u0 u1 u2 u3 : Value} (h : w.heap[c]? = some (.cells #[u0, u1, u2, u3] t (0, 0))) : IsA ((((w.setCell ⟨c, 0, none⟩ (.int .u64 (wd n 0 : Int))).setCell ⟨c, 1, none⟩ (.int .u64 (wd n 1 : Int))).setCell ⟨c, 2, none⟩ (.int .u64 (wd n 2 : Int))).setCell ⟨c, 3, none⟩ (.int .u64 (wd n 3 : Int))) c n t := set4_row h
theorem isA_a4 (w : World) (c : Nat) {v0 v1 v2 v3 : Value} (n : Nat) (t : TypeId) : IsA (((((w.setCell ⟨c, 0, none⟩ v0).setCell ⟨c, 1, none⟩ v1).setCell ⟨c, 2, none⟩ v2).setCell ⟨c, 3, none⟩ v3).alloc (.cells #[.int .u64 (wd n 0 : Int), .int .u64 (wd n 1 : Int), .int .u64 (wd n 2 : Int), .int .u64 (wd n 3 : Int)] t)) w.heap.size n t := by
  have sz : ∀ (W : World) (a : Addr) (v : Value), (W.setCell a v).heap.size = W.heap.size := fun W a v => by show (W.heap.modify _ _).size = _; rw [Array.size_modify]
  have h := alloc_new ((((w.setCell ⟨c, 0, none⟩ v0).setCell ⟨c, 1, none⟩ v1).setCell ⟨c, 2, none⟩ v2).setCell ⟨c, 3, none⟩ v3) (.cells #[.int .u64 (wd n 0 : Int), .int .u64 (wd n 1 : Int), .int .u64 (wd n 2 : Int), .int .u64 (wd n 3 : Int)] t)
  rw [sz, sz, sz, sz] at h
  exact h
theorem set_size (W : World) (a : Addr) (v : Value) : (W.setCell a v).heap.size = W.heap.size := by show (W.heap.modify _ _).size = _; rw [Array.size_modify]
theorem clo_A1 {w W : World} {N bl bz lo hi m x y : Nat} {t : TypeId} (L : IsA W bl lo t) (H : IsA W (bl + 1) hi t) (Z : IsA W bz m t) (B : Below N w W) (hN : N ≤ W.heap.size := by omega) :
    ∃ bp bq, Value.pointer (some ⟨W.heap.size, 0, none⟩) = Value.pointer (some ⟨bp, 0, none⟩) ∧ Value.pointer (some ⟨W.heap.size + 1, 0, none⟩) = Value.pointer (some ⟨bq, 0, none⟩) ∧ IsA ((W.alloc (.cells #[.int .u64 (wd x 0 : Int), .int .u64 (wd x 1 : Int), .int .u64 (wd x 2 : Int), .int .u64 (wd x 3 : Int)] t)).alloc (.cells #[.int .u64 (wd y 0 : Int), .int .u64 (wd y 1 : Int), .int .u64 (wd y 2 : Int), .int .u64 (wd y 3 : Int)] t)) bp x t ∧ IsA ((W.alloc (.cells #[.int .u64 (wd x 0 : Int), .int .u64 (wd x 1 : Int), .int .u64 (wd x 2 : Int), .int .u64 (wd x 3 : Int)] t)).alloc (.cells #[.int .u64 (wd y 0 : Int), .int .u64 (wd y 1 : Int), .int .u64 (wd y 2 : Int), .int .u64 (wd y 3 : Int)] t)) bq y t ∧ IsA ((W.alloc (.cells #[.int .u64 (wd x 0 : Int), .int .u64 (wd x 1 : Int), .int .u64 (wd x 2 : Int), .int .u64 (wd x 3 : Int)] t)).alloc (.cells #[.int .u64 (wd y 0 : Int), .int .u64 (wd y 1 : Int), .int .u64 (wd y 2 : Int), .int .u64 (wd y 3 : Int)] t)) bl lo t ∧ IsA ((W.alloc (.cells #[.int .u64 (wd x 0 : Int), .int .u64 (wd x 1 : Int), .int .u64 (wd x 2 : Int), .int .u64 (wd x 3 : Int)] t)).alloc (.cells #[.int .u64 (wd y 0 : Int), .int .u64 (wd y 1 : Int), .int .u64 (wd y 2 : Int), .int .u64 (wd y 3 : Int)] t)) (bl + 1) hi t ∧ IsA ((W.alloc (.cells #[.int .u64 (wd x 0 : Int), .int .u64 (wd x 1 : Int), .int .u64 (wd x 2 : Int), .int .u64 (wd x 3 : Int)] t)).alloc (.cells #[.int .u64 (wd y 0 : Int), .int .u64 (wd y 1 : Int), .int .u64 (wd y 2 : Int), .int .u64 (wd y 3 : Int)] t)) bz m t ∧ Below N w ((W.alloc (.cells #[.int .u64 (wd x 0 : Int), .int .u64 (wd x 1 : Int), .int .u64 (wd x 2 : Int), .int .u64 (wd x 3 : Int)] t)).alloc (.cells #[.int .u64 (wd y 0 : Int), .int .u64 (wd y 1 : Int), .int .u64 (wd y 2 : Int), .int .u64 (wd y 3 : Int)] t)) :=
  ⟨_, _, rfl, rfl, isA_a1 _ _ _ _, isA_a2 _ _ _ _, (L.alloc _).alloc _, (H.alloc _).alloc _, (Z.alloc _).alloc _, gr_allocB (gr_allocB B hN _) (by rw [alloc_size1]; omega) _⟩
theorem clo_A2 {w W : World} {N bl bz lo hi m x y : Nat} {t : TypeId} (L : IsA W bl lo t) (H : IsA W (bl + 1) hi t) (Z : IsA W bz m t) (B : Below N w W) (hN : N ≤ W.heap.size := by omega) :
    ∃ bp bq, Value.pointer (some ⟨W.heap.size + 1, 0, none⟩) = Value.pointer (some ⟨bp, 0, none⟩) ∧ Value.pointer (some ⟨W.heap.size, 0, none⟩) = Value.pointer (some ⟨bq, 0, none⟩) ∧ IsA ((W.alloc (.cells #[.int .u64 (wd y 0 : Int), .int .u64 (wd y 1 : Int), .int .u64 (wd y 2 : Int), .int .u64 (wd y 3 : Int)] t)).alloc (.cells #[.int .u64 (wd x 0 : Int), .int .u64 (wd x 1 : Int), .int .u64 (wd x 2 : Int), .int .u64 (wd x 3 : Int)] t)) bp x t ∧ IsA ((W.alloc (.cells #[.int .u64 (wd y 0 : Int), .int .u64 (wd y 1 : Int), .int .u64 (wd y 2 : Int), .int .u64 (wd y 3 : Int)] t)).alloc (.cells #[.int .u64 (wd x 0 : Int), .int .u64 (wd x 1 : Int), .int .u64 (wd x 2 : Int), .int .u64 (wd x 3 : Int)] t)) bq y t ∧ IsA ((W.alloc (.cells #[.int .u64 (wd y 0 : Int), .int .u64 (wd y 1 : Int), .int .u64 (wd y 2 : Int), .int .u64 (wd y 3 : Int)] t)).alloc (.cells #[.int .u64 (wd x 0 : Int), .int .u64 (wd x 1 : Int), .int .u64 (wd x 2 : Int), .int .u64 (wd x 3 : Int)] t)) bl lo t ∧ IsA ((W.alloc (.cells #[.int .u64 (wd y 0 : Int), .int .u64 (wd y 1 : Int), .int .u64 (wd y 2 : Int), .int .u64 (wd y 3 : Int)] t)).alloc (.cells #[.int .u64 (wd x 0 : Int), .int .u64 (wd x 1 : Int), .int .u64 (wd x 2 : Int), .int .u64 (wd x 3 : Int)] t)) (bl + 1) hi t ∧ IsA ((W.alloc (.cells #[.int .u64 (wd y 0 : Int), .int .u64 (wd y 1 : Int), .int .u64 (wd y 2 : Int), .int .u64 (wd y 3 : Int)] t)).alloc (.cells #[.int .u64 (wd x 0 : Int), .int .u64 (wd x 1 : Int), .int .u64 (wd x 2 : Int), .int .u64 (wd x 3 : Int)] t)) bz m t ∧ Below N w ((W.alloc (.cells #[.int .u64 (wd y 0 : Int), .int .u64 (wd y 1 : Int), .int .u64 (wd y 2 : Int), .int .u64 (wd y 3 : Int)] t)).alloc (.cells #[.int .u64 (wd x 0 : Int), .int .u64 (wd x 1 : Int), .int .u64 (wd x 2 : Int), .int .u64 (wd x 3 : Int)] t)) :=
  ⟨_, _, rfl, rfl, isA_a2 _ _ _ _, isA_a1 _ _ _ _, (L.alloc _).alloc _, (H.alloc _).alloc _, (Z.alloc _).alloc _, gr_allocB (gr_allocB B hN _) (by rw [alloc_size1]; omega) _⟩
theorem clo_B1 {w W : World} {N bl bz lo hi m x y c : Nat} {t : TypeId} (hc : W.heap[c]? = some (.cells #[.int .u64 0, .int .u64 0, .int .u64 0, .int .u64 0] t (0, 0))) (uc : bl + 1 < c) (vc : bz < c) (nc : N ≤ c) (L : IsA W bl lo t) (H : IsA W (bl + 1) hi t) (Z : IsA W bz m t) (B : Below N w W) (hN : N ≤ W.heap.size := by omega) :
    ∃ bp bq, Value.pointer (some ⟨c, 0, none⟩) = Value.pointer (some ⟨bp, 0, none⟩) ∧ Value.pointer (some ⟨W.heap.size, 0, none⟩) = Value.pointer (some ⟨bq, 0, none⟩) ∧ IsA (((((W.setCell ⟨c, 0, none⟩ (.int .u64 (wd x 0 : Int))).setCell ⟨c, 1, none⟩ (.int .u64 (wd x 1 : Int))).setCell ⟨c, 2, none⟩ (.int .u64 (wd x 2 : Int))).setCell ⟨c, 3, none⟩ (.int .u64 (wd x 3 : Int))).alloc (.cells #[.int .u64 (wd y 0 : Int), .int .u64 (wd y 1 : Int), .int .u64 (wd y 2 : Int), .int .u64 (wd y 3 : Int)] t)) bp x t ∧ IsA (((((W.setCell ⟨c, 0, none⟩ (.int .u64 (wd x 0 : Int))).setCell ⟨c, 1, none⟩ (.int .u64 (wd x 1 : Int))).setCell ⟨c, 2, none⟩ (.int .u64 (wd x 2 : Int))).setCell ⟨c, 3, none⟩ (.int .u64 (wd x 3 : Int))).alloc (.cells #[.int .u64 (wd y 0 : Int), .int .u64 (wd y 1 : Int), .int .u64 (wd y 2 : Int), .int .u64 (wd y 3 : Int)] t)) bq y t ∧ IsA (((((W.setCell ⟨c, 0, none⟩ (.int .u64 (wd x 0 : Int))).setCell ⟨c, 1, none⟩ (.int .u64 (wd x 1 : Int))).setCell ⟨c, 2, none⟩ (.int .u64 (wd x 2 : Int))).setCell ⟨c, 3, none⟩ (.int .u64 (wd x 3 : Int))).alloc (.cells #[.int .u64 (wd y 0 : Int), .int .u64 (wd y 1 : Int), .int .u64 (wd y 2 : Int), .int .u64 (wd y 3 : Int)] t)) bl lo t ∧ IsA (((((W.setCell ⟨c, 0, none⟩ (.int .u64 (wd x 0 : Int))).setCell ⟨c, 1, none⟩ (.int .u64 (wd x 1 : Int))).setCell ⟨c, 2, none⟩ (.int .u64 (wd x 2 : Int))).setCell ⟨c, 3, none⟩ (.int .u64 (wd x 3 : Int))).alloc (.cells #[.int .u64 (wd y 0 : Int), .int .u64 (wd y 1 : Int), .int .u64 (wd y 2 : Int), .int .u64 (wd y 3 : Int)] t)) (bl + 1) hi t ∧ IsA (((((W.setCell ⟨c, 0, none⟩ (.int .u64 (wd x 0 : Int))).setCell ⟨c, 1, none⟩ (.int .u64 (wd x 1 : Int))).setCell ⟨c, 2, none⟩ (.int .u64 (wd x 2 : Int))).setCell ⟨c, 3, none⟩ (.int .u64 (wd x 3 : Int))).alloc (.cells #[.int .u64 (wd y 0 : Int), .int .u64 (wd y 1 : Int), .int .u64 (wd y 2 : Int), .int .u64 (wd y 3 : Int)] t)) bz m t ∧ Below N w (((((W.setCell ⟨c, 0, none⟩ (.int .u64 (wd x 0 : Int))).setCell ⟨c, 1, none⟩ (.int .u64 (wd x 1 : Int))).setCell ⟨c, 2, none⟩ (.int .u64 (wd x 2 : Int))).setCell ⟨c, 3, none⟩ (.int .u64 (wd x 3 : Int))).alloc (.cells #[.int .u64 (wd y 0 : Int), .int .u64 (wd y 1 : Int), .int .u64 (wd y 2 : Int), .int .u64 (wd y 3 : Int)] t)) :=
  ⟨_, _, rfl, rfl, (isA_set hc).alloc _, isA_a4 _ _ _ _, (L.far (by omega)).alloc _, (H.far (by omega)).alloc _, (Z.far (by omega)).alloc _, gr_allocB (set4_below B nc) (by rw [set_size, set_size, set_size, set_size]; exact hN) _⟩
theorem clo_B2 {w W : World} {N bl bz lo hi m x y c : Nat} {t : TypeId} (hc : W.heap[c]? = some (.cells #[.int .u64 0, .int .u64 0, .int .u64 0, .int .u64 0] t (0, 0))) (uc : bl + 1 < c) (vc : bz < c) (nc : N ≤ c) (L : IsA W bl lo t) (H : IsA W (bl + 1) hi t) (Z : IsA W bz m t) (B : Below N w W) (hN : N ≤ W.heap.size := by omega) :
    ∃ bp bq, Value.pointer (some ⟨W.heap.size, 0, none⟩) = Value.pointer (some ⟨bp, 0, none⟩) ∧ Value.pointer (some ⟨c, 0, none⟩) = Value.pointer (some ⟨bq, 0, none⟩) ∧ IsA (((((W.setCell ⟨c, 0, none⟩ (.int .u64 (wd y 0 : Int))).setCell ⟨c, 1, none⟩ (.int .u64 (wd y 1 : Int))).setCell ⟨c, 2, none⟩ (.int .u64 (wd y 2 : Int))).setCell ⟨c, 3, none⟩ (.int .u64 (wd y 3 : Int))).alloc (.cells #[.int .u64 (wd x 0 : Int), .int .u64 (wd x 1 : Int), .int .u64 (wd x 2 : Int), .int .u64 (wd x 3 : Int)] t)) bp x t ∧ IsA (((((W.setCell ⟨c, 0, none⟩ (.int .u64 (wd y 0 : Int))).setCell ⟨c, 1, none⟩ (.int .u64 (wd y 1 : Int))).setCell ⟨c, 2, none⟩ (.int .u64 (wd y 2 : Int))).setCell ⟨c, 3, none⟩ (.int .u64 (wd y 3 : Int))).alloc (.cells #[.int .u64 (wd x 0 : Int), .int .u64 (wd x 1 : Int), .int .u64 (wd x 2 : Int), .int .u64 (wd x 3 : Int)] t)) bq y t ∧ IsA (((((W.setCell ⟨c, 0, none⟩ (.int .u64 (wd y 0 : Int))).setCell ⟨c, 1, none⟩ (.int .u64 (wd y 1 : Int))).setCell ⟨c, 2, none⟩ (.int .u64 (wd y 2 : Int))).setCell ⟨c, 3, none⟩ (.int .u64 (wd y 3 : Int))).alloc (.cells #[.int .u64 (wd x 0 : Int), .int .u64 (wd x 1 : Int), .int .u64 (wd x 2 : Int), .int .u64 (wd x 3 : Int)] t)) bl lo t ∧ IsA (((((W.setCell ⟨c, 0, none⟩ (.int .u64 (wd y 0 : Int))).setCell ⟨c, 1, none⟩ (.int .u64 (wd y 1 : Int))).setCell ⟨c, 2, none⟩ (.int .u64 (wd y 2 : Int))).setCell ⟨c, 3, none⟩ (.int .u64 (wd y 3 : Int))).alloc (.cells #[.int .u64 (wd x 0 : Int), .int .u64 (wd x 1 : Int), .int .u64 (wd x 2 : Int), .int .u64 (wd x 3 : Int)] t)) (bl + 1) hi t ∧ IsA (((((W.setCell ⟨c, 0, none⟩ (.int .u64 (wd y 0 : Int))).setCell ⟨c, 1, none⟩ (.int .u64 (wd y 1 : Int))).setCell ⟨c, 2, none⟩ (.int .u64 (wd y 2 : Int))).setCell ⟨c, 3, none⟩ (.int .u64 (wd y 3 : Int))).alloc (.cells #[.int .u64 (wd x 0 : Int), .int .u64 (wd x 1 : Int), .int .u64 (wd x 2 : Int), .int .u64 (wd x 3 : Int)] t)) bz m t ∧ Below N w (((((W.setCell ⟨c, 0, none⟩ (.int .u64 (wd y 0 : Int))).setCell ⟨c, 1, none⟩ (.int .u64 (wd y 1 : Int))).setCell ⟨c, 2, none⟩ (.int .u64 (wd y 2 : Int))).setCell ⟨c, 3, none⟩ (.int .u64 (wd y 3 : Int))).alloc (.cells #[.int .u64 (wd x 0 : Int), .int .u64 (wd x 1 : Int), .int .u64 (wd x 2 : Int), .int .u64 (wd x 3 : Int)] t)) :=
  ⟨_, _, rfl, rfl, isA_a4 _ _ _ _, (isA_set hc).alloc _, (L.far (by omega)).alloc _, (H.far (by omega)).alloc _, (Z.far (by omega)).alloc _, gr_allocB (set4_below B nc) (by rw [set_size, set_size, set_size, set_size]; exact hN) _⟩
theorem clo_C {w W : World} {N bl bz lo hi m x y c d : Nat} {t : TypeId} (hc : W.heap[c]? = some (.cells #[.int .u64 0, .int .u64 0, .int .u64 0, .int .u64 0] t (0, 0))) (hd : W.heap[d]? = some (.cells #[.int .u64 0, .int .u64 0, .int .u64 0, .int .u64 0] t (0, 0))) (hne : c ≠ d) (uc : bl + 1 < c) (vc : bz < c) (nc : N ≤ c) (ud : bl + 1 < d) (vd : bz < d) (nd : N ≤ d) (L : IsA W bl lo t) (H : IsA W (bl + 1) hi t) (Z : IsA W bz m t) (B : Below N w W) :
    ∃ bp bq, Value.pointer (some ⟨c, 0, none⟩) = Value.pointer (some ⟨bp, 0, none⟩) ∧ Value.pointer (some ⟨d, 0, none⟩) = Value.pointer (some ⟨bq, 0, none⟩) ∧ IsA ((((((((W.setCell ⟨c, 0, none⟩ (.int .u64 (wd x 0 : Int))).setCell ⟨c, 1, none⟩ (.int .u64 (wd x 1 : Int))).setCell ⟨c, 2, none⟩ (.int .u64 (wd x 2 : Int))).setCell ⟨c, 3, none⟩ (.int .u64 (wd x 3 : Int))).setCell ⟨d, 0, none⟩ (.int .u64 (wd y 0 : Int))).setCell ⟨d, 1, none⟩ (.int .u64 (wd y 1 : Int))).setCell ⟨d, 2, none⟩ (.int .u64 (wd y 2 : Int))).setCell ⟨d, 3, none⟩ (.int .u64 (wd y 3 : Int))) bp x t ∧ IsA ((((((((W.setCell ⟨c, 0, none⟩ (.int .u64 (wd x 0 : Int))).setCell ⟨c, 1, none⟩ (.int .u64 (wd x 1 : Int))).setCell ⟨c, 2, none⟩ (.int .u64 (wd x 2 : Int))).setCell ⟨c, 3, none⟩ (.int .u64 (wd x 3 : Int))).setCell ⟨d, 0, none⟩ (.int .u64 (wd y 0 : Int))).setCell ⟨d, 1, none⟩ (.int .u64 (wd y 1 : Int))).setCell ⟨d, 2, none⟩ (.int .u64 (wd y 2 : Int))).setCell ⟨d, 3, none⟩ (.int .u64 (wd y 3 : Int))) bq y t ∧ IsA ((((((((W.setCell ⟨c, 0, none⟩ (.int .u64 (wd x 0 : Int))).setCell ⟨c, 1, none⟩ (.int .u64 (wd x 1 : Int))).setCell ⟨c, 2, none⟩ (.int .u64 (wd x 2 : Int))).setCell ⟨c, 3, none⟩ (.int .u64 (wd x 3 : Int))).setCell ⟨d, 0, none⟩ (.int .u64 (wd y 0 : Int))).setCell ⟨d, 1, none⟩ (.int .u64 (wd y 1 : Int))).setCell ⟨d, 2, none⟩ (.int .u64 (wd y 2 : Int))).setCell ⟨d, 3, none⟩ (.int .u64 (wd y 3 : Int))) bl lo t ∧ IsA ((((((((W.setCell ⟨c, 0, none⟩ (.int .u64 (wd x 0 : Int))).setCell ⟨c, 1, none⟩ (.int .u64 (wd x 1 : Int))).setCell ⟨c, 2, none⟩ (.int .u64 (wd x 2 : Int))).setCell ⟨c, 3, none⟩ (.int .u64 (wd x 3 : Int))).setCell ⟨d, 0, none⟩ (.int .u64 (wd y 0 : Int))).setCell ⟨d, 1, none⟩ (.int .u64 (wd y 1 : Int))).setCell ⟨d, 2, none⟩ (.int .u64 (wd y 2 : Int))).setCell ⟨d, 3, none⟩ (.int .u64 (wd y 3 : Int))) (bl + 1) hi t ∧ IsA ((((((((W.setCell ⟨c, 0, none⟩ (.int .u64 (wd x 0 : Int))).setCell ⟨c, 1, none⟩ (.int .u64 (wd x 1 : Int))).setCell ⟨c, 2, none⟩ (.int .u64 (wd x 2 : Int))).setCell ⟨c, 3, none⟩ (.int .u64 (wd x 3 : Int))).setCell ⟨d, 0, none⟩ (.int .u64 (wd y 0 : Int))).setCell ⟨d, 1, none⟩ (.int .u64 (wd y 1 : Int))).setCell ⟨d, 2, none⟩ (.int .u64 (wd y 2 : Int))).setCell ⟨d, 3, none⟩ (.int .u64 (wd y 3 : Int))) bz m t ∧ Below N w ((((((((W.setCell ⟨c, 0, none⟩ (.int .u64 (wd x 0 : Int))).setCell ⟨c, 1, none⟩ (.int .u64 (wd x 1 : Int))).setCell ⟨c, 2, none⟩ (.int .u64 (wd x 2 : Int))).setCell ⟨c, 3, none⟩ (.int .u64 (wd x 3 : Int))).setCell ⟨d, 0, none⟩ (.int .u64 (wd y 0 : Int))).setCell ⟨d, 1, none⟩ (.int .u64 (wd y 1 : Int))).setCell ⟨d, 2, none⟩ (.int .u64 (wd y 2 : Int))).setCell ⟨d, 3, none⟩ (.int .u64 (wd y 3 : Int))) :=
  ⟨_, _, rfl, rfl, (isA_set hc).far hne, isA_set ((set4_far (by omega)).trans hd), (L.far (by omega)).far (by omega), (H.far (by omega)).far (by omega), (Z.far (by omega)).far (by omega), set4_below (set4_below B nc) nd⟩
theorem row_news {w : World} {g N : Nat} {p : Nat → Nat} {t : TypeId} (h : w.heap[g]? = some (.cells (rowH p N).toArray t (0, 0))) : ∀ j u, (rowH p N)[j]? = some u → w.cell? ((⟨g, 0, none⟩ : Addr).add j) = some u := fun j u hu => by
  have hadd : (⟨g, 0, none⟩ : Addr).add j = ⟨g, j, none⟩ := by unfold Addr.add; split <;> simp_all
  rw [hadd]
  exact (arr_get h hu).1
theorem row_one (p : Nat → Nat) (N : Nat) : ∀ u ∈ rowH p N, u.oneCell' = true := fun u hu => by
  unfold rowH at hu
  obtain ⟨k, _, rfl⟩ := List.mem_map.1 hu
  rfl
set_option maxRecDepth 20000 in
set_option maxHeartbeats 60000000 in
theorem wideRests_w (a b m : Nat) (w : World) (ha : a < B64 ^ 4) (hb : b < B64 ^ 4) (hc : m < B64 ^ 4) :
    Calls Try.prog 3 #[numV a, numV b, numV m] w fun e w' => e = .returned (.bool true) ∧ Below w.heap.size w w' := by
  have hm : Try.prog.follows .mixedOrders = true := by kernel_rfl
  rw [show numV a = .agg #[.int .u64 (wd a 0 : Int), .int .u64 (wd a 1 : Int), .int .u64 (wd a 2 : Int), .int .u64 (wd a 3 : Int)] from rfl, show numV b = .agg #[.int .u64 (wd b 0 : Int), .int .u64 (wd b 1 : Int), .int .u64 (wd b 2 : Int), .int .u64 (wd b 3 : Int)] from rfl, show numV m = .agg #[.int .u64 (wd m 0 : Int), .int .u64 (wd m 1 : Int), .int .u64 (wd m 2 : Int), .int .u64 (wd m 3 : Int)] from rfl]
  have xa : IsA (((w.alloc (.cells #[.int .u64 (wd a 0 : Int), .int .u64 (wd a 1 : Int), .int .u64 (wd a 2 : Int), .int .u64 (wd a 3 : Int)] 23)).alloc (.cells #[.int .u64 (wd b 0 : Int), .int .u64 (wd b 1 : Int), .int .u64 (wd b 2 : Int), .int .u64 (wd b 3 : Int)] 23)).alloc (.cells #[.int .u64 (wd m 0 : Int), .int .u64 (wd m 1 : Int), .int .u64 (wd m 2 : Int), .int .u64 (wd m 3 : Int)] 23)) w.heap.size a 23 := alloc_keep (alloc_keep (alloc_new w _) _) _
  have xb : IsA (((w.alloc (.cells #[.int .u64 (wd a 0 : Int), .int .u64 (wd a 1 : Int), .int .u64 (wd a 2 : Int), .int .u64 (wd a 3 : Int)] 23)).alloc (.cells #[.int .u64 (wd b 0 : Int), .int .u64 (wd b 1 : Int), .int .u64 (wd b 2 : Int), .int .u64 (wd b 3 : Int)] 23)).alloc (.cells #[.int .u64 (wd m 0 : Int), .int .u64 (wd m 1 : Int), .int .u64 (wd m 2 : Int), .int .u64 (wd m 3 : Int)] 23)) (w.heap.size + 1) b 23 := alloc_keep (alloc_new1 w _ _) _
  have xm : IsA (((w.alloc (.cells #[.int .u64 (wd a 0 : Int), .int .u64 (wd a 1 : Int), .int .u64 (wd a 2 : Int), .int .u64 (wd a 3 : Int)] 23)).alloc (.cells #[.int .u64 (wd b 0 : Int), .int .u64 (wd b 1 : Int), .int .u64 (wd b 2 : Int), .int .u64 (wd b 3 : Int)] 23)).alloc (.cells #[.int .u64 (wd m 0 : Int), .int .u64 (wd m 1 : Int), .int .u64 (wd m 2 : Int), .int .u64 (wd m 3 : Int)] 23)) (w.heap.size + 1 + 1) m 23 := alloc_new2 w _ _ _
  have xl : Below w.heap.size w (((w.alloc (.cells #[.int .u64 (wd a 0 : Int), .int .u64 (wd a 1 : Int), .int .u64 (wd a 2 : Int), .int .u64 (wd a 3 : Int)] 23)).alloc (.cells #[.int .u64 (wd b 0 : Int), .int .u64 (wd b 1 : Int), .int .u64 (wd b 2 : Int), .int .u64 (wd b 3 : Int)] 23)).alloc (.cells #[.int .u64 (wd m 0 : Int), .int .u64 (wd m 1 : Int), .int .u64 (wd m 2 : Int), .int .u64 (wd m 3 : Int)] 23)) := gr_alloc (gr_alloc (gr_alloc (Below.refl _ _) _) _) _
  have HA := Lib.hid ha
  have HB := Lib.hid hb
  have HM := Lib.hid hc
  clear ha hb hc
  go_enter Try.func3, Try.ntmps3
  go_wp2_with fail
  generalize ((w.alloc (.cells #[.int .u64 (wd a 0 : Int), .int .u64 (wd a 1 : Int), .int .u64 (wd a 2 : Int), .int .u64 (wd a 3 : Int)] 23)).alloc (.cells #[.int .u64 (wd b 0 : Int), .int .u64 (wd b 1 : Int), .int .u64 (wd b 2 : Int), .int .u64 (wd b 3 : Int)] 23)).alloc (.cells #[.int .u64 (wd m 0 : Int), .int .u64 (wd m 1 : Int), .int .u64 (wd m 2 : Int), .int .u64 (wd m 3 : Int)] 23) = X at *
  have XA := Lib.hid xa
  have XB := Lib.hid xb
  have XM := Lib.hid xm
  have XL := Lib.hid xl
  clear xa xb xm xl
  go_cut [7, 8, 9] (fun s7 s8 s9 wc => ∃ bx bY bz, s7 = .pointer (some ⟨bx, 0, none⟩) ∧ s8 = .pointer (some ⟨bY, 0, none⟩) ∧ s9 = .pointer (some ⟨bz, 0, none⟩) ∧ IsA wc w.heap.size a 23 ∧ IsA wc (w.heap.size + 1) b 23 ∧ IsA wc (w.heap.size + 1 + 1) m 23 ∧ IsA wc bx a 24 ∧ IsA wc bY b 24 ∧ IsA wc bz m 24 ∧ Below w.heap.size w wc)
  case rest =>
    clear XA XB XM XL
    obtain ⟨bx, bY, bz, rfl, rfl, rfl, ra, rb, rm, rx, ry, rz, be⟩ := hcut
    have KR : Hid (∀ w, Calls Try.prog 4 #[.agg #[.int .u64 (wd a 0 : Int), .int .u64 (wd a 1 : Int), .int .u64 (wd a 2 : Int), .int .u64 (wd a 3 : Int)], .agg #[.int .u64 (wd b 0 : Int), .int .u64 (wd b 1 : Int), .int .u64 (wd b 2 : Int), .int .u64 (wd b 3 : Int)], .agg #[.int .u64 (wd m 0 : Int), .int .u64 (wd m 1 : Int), .int .u64 (wd m 2 : Int), .int .u64 (wd m 3 : Int)]] w fun e w' => e = .returned (.agg #[.int .u64 (wd (remN a b m) 0 : Int), .int .u64 (wd (remN a b m) 1 : Int), .int .u64 (wd (remN a b m) 2 : Int), .int .u64 (wd (remN a b m) 3 : Int)]) ∧ Below w.heap.size w w') := fun w => rem_whole a b m w HA.out HB.out HM.out
    have lx := lt_blk rx
    have ly := lt_blk ry
    have lz := lt_blk rz
    obtain ⟨⟨x0, x1, x2, x3⟩, _⟩ := fourV rx
    obtain ⟨⟨y0, y1, y2, y3⟩, _⟩ := fourV ry
    obtain ⟨⟨z0, z1, z2, z3⟩, _⟩ := fourV rz
    have HH := Lib.hid (And.intro ra (And.intro rb (And.intro rm (And.intro rx (And.intro ry (And.intro rz be))))))
    clear ra rb rm rx ry rz be
    go_wp2_with fail
    refine (KR.out _).mono ?_
    rintro e w1 ⟨rfl, hb1⟩
    clear x0 x1 x2 x3 y0 y1 y2 y3 z0 z1 z2 z3 lx ly lz KR
    obtain ⟨ra, rb, rm, rx, ry, rz, be⟩ := HH.out
    clear HH
    have be1 := be.trans (hb1.mono be.size)
    have HH := Lib.hid (And.intro (ra.keep hb1) (And.intro (rb.keep hb1) (And.intro (rm.keep hb1) (And.intro (rx.keep hb1) (And.intro (ry.keep hb1) (And.intro (rz.keep hb1) be1))))))
    have rz1 := rz.keep hb1
    have lz := lt_blk rz1
    obtain ⟨⟨z0, z1, z2, z3⟩, _⟩ := fourV rz1
    clear ra rb rm rx ry rz be be1 hb1 rz1
    have KZ : Hid (∀ w, Calls Try.prog 5 #[.agg #[.int .u64 (wd m 0 : Int), .int .u64 (wd m 1 : Int), .int .u64 (wd m 2 : Int), .int .u64 (wd m 3 : Int)]] w fun e w' => e = .returned (.bool (decide (m = 0))) ∧ Below w.heap.size w w') := fun w => isZero_any m w HM.out
    go_wp2_with fail
    refine (KZ.out _).mono ?_
    rintro e w2 ⟨rfl, hb2⟩
    clear z0 z1 z2 z3 lz KZ
    obtain ⟨ra, rb, rm, rx, ry, rz, be⟩ := HH.out
    clear HH
    have rr := Lib.hid (keep (alloc_new w1 (.cells #[.int .u64 (wd (remN a b m) 0 : Int), .int .u64 (wd (remN a b m) 1 : Int), .int .u64 (wd (remN a b m) 2 : Int), .int .u64 (wd (remN a b m) 3 : Int)] 24)) hb2)
    have be2 := gr_step (gr_alloc be (.cells #[.int .u64 (wd (remN a b m) 0 : Int), .int .u64 (wd (remN a b m) 1 : Int), .int .u64 (wd (remN a b m) 2 : Int), .int .u64 (wd (remN a b m) 3 : Int)] 24)) hb2
    have HH := Lib.hid (And.intro ((ra.alloc _).keep hb2) (And.intro ((rb.alloc _).keep hb2) (And.intro ((rm.alloc _).keep hb2) (And.intro ((rx.alloc _).keep hb2) (And.intro ((ry.alloc _).keep hb2) (And.intro ((rz.alloc _).keep hb2) be2))))))
    clear ra rb rm rx ry rz be be2 hb2
    generalize w1.heap.size = br at *
    by_cases hm0 : m = 0
    · have KZR : Hid (∀ w, Calls Try.prog 5 #[.agg #[.int .u64 (wd (remN a b m) 0 : Int), .int .u64 (wd (remN a b m) 1 : Int), .int .u64 (wd (remN a b m) 2 : Int), .int .u64 (wd (remN a b m) 3 : Int)]] w fun e w' => e = .returned (.bool true) ∧ Below w.heap.size w w') := fun w => by
        have h0 : remN a b m = 0 := by unfold remN; rw [if_pos hm0]
        rw [h0]
        exact isz0.out w
      rw [decide_eq_true hm0]
      clear hm0
      obtain ⟨⟨r0, r1, r2, r3⟩, _⟩ := fourV rr.out
      go_wp2_with fail
      refine (KZR.out _).mono ?_
      rintro e w3 ⟨rfl, hb3⟩
      go_wp2_with fail
      refine (lives13 _).mono ?_
      rintro e w4 ⟨rfl, hb4⟩
      go_wp2_with fail
      go_ret
      exact ⟨rfl, gr_step (gr_step HH.out.2.2.2.2.2.2 hb3) hb4⟩
    · rw [decide_eq_false hm0]
      have HM0 := Lib.hid hm0
      clear hm0
      go_wp2_with fail
      go_cut [11] (fun s11 wd' => ∃ g cap, s11 = .slice (some ⟨g, 0, none⟩) 32 cap ∧ IsN wd' (some ⟨g, 0, none⟩) 32 cap (a + b * 65536 ^ 16) ∧ IsA wd' (w.heap.size + 1 + 1) m 23 ∧ IsA wd' bx a 24 ∧ IsA wd' bY b 24 ∧ IsA wd' bz m 24 ∧ IsA wd' br (remN a b m) 24 ∧ Below w.heap.size w wd')
      case rest =>
        clear HH rr
        obtain ⟨g, cap, rfl, hin, rm, rx, ry, rz, rr, be⟩ := hcut
        have hR : remN a b m < m := by
          unfold remN
          rw [if_neg HM0.out]
          exact Nat.mod_lt _ (Nat.pos_of_ne_zero HM0.out)
        have hRe : (a + b * 65536 ^ 16) % m = remN a b m := by
          unfold remN
          rw [if_neg HM0.out, Nat.add_comm]
          rfl
        have hTo : numV (remN a b m / 65536 ^ 0 % B64 ^ 4) = .agg #[.int .u64 (wd (remN a b m) 0 : Int), .int .u64 (wd (remN a b m) 1 : Int), .int .u64 (wd (remN a b m) 2 : Int), .int .u64 (wd (remN a b m) 3 : Int)] := by
          rw [Nat.pow_zero, Nat.div_one, Nat.mod_eq_of_lt (Nat.lt_trans hR HM.out)]
          rfl
        have KM : Hid (∀ w, Calls Try.prog 7 #[.agg #[.int .u64 (wd m 0 : Int), .int .u64 (wd m 1 : Int), .int .u64 (wd m 2 : Int), .int .u64 (wd m 3 : Int)]] w fun e w' => ∃ g, e = .returned (.slice (some ⟨g, 0, none⟩) 16 16) ∧ OwnN w' g 16 m ∧ w.heap.size ≤ g ∧ Below w.heap.size w w') := fun w => rof_any m w HM.out
        have KCmp : Hid (∀ w, Calls Try.prog 10 #[.agg #[.int .u64 (wd (remN a b m) 0 : Int), .int .u64 (wd (remN a b m) 1 : Int), .int .u64 (wd (remN a b m) 2 : Int), .int .u64 (wd (remN a b m) 3 : Int)], .agg #[.int .u64 (wd m 0 : Int), .int .u64 (wd m 1 : Int), .int .u64 (wd m 2 : Int), .int .u64 (wd m 3 : Int)]] w fun e w' => e = .returned (.int .i64 (-1)) ∧ Below w.heap.size w w') := fun w => by
          have h := cmp_any (remN a b m) m w (Nat.lt_trans hR HM.out) HM.out
          rw [show cmpI (remN a b m) m = -1 from if_pos hR] at h
          exact h
        have HRE := Lib.hid hRe
        have HTO := Lib.hid hTo
        have HIN := Lib.hid hin
        have ROWS := Lib.hid (And.intro rm (And.intro rx (And.intro ry (And.intro rz (And.intro rr be)))))
        clear hR hRe hTo hin rm rx ry rz rr be
        go_wp2_with fail
        go_cut [49] (fun s49 we => s49 = .bool false ∧ IsA we bx a 24 ∧ IsA we bY b 24 ∧ IsA we bz m 24 ∧ Below w.heap.size w we)
        case rest =>
          clear ROWS KM KCmp HIN HTO HRE
          obtain ⟨rfl, rx, ry, rz, be⟩ := hcut
          obtain ⟨lo, hlo⟩ : ∃ lo, a * b % B64 ^ 4 = lo := ⟨_, rfl⟩
          obtain ⟨hi, hhi⟩ : ∃ hi, a * b / B64 ^ 4 = hi := ⟨_, rfl⟩
          have KMul : Hid (∀ w, Calls Try.prog 11 #[.agg #[.int .u64 (wd a 0 : Int), .int .u64 (wd a 1 : Int), .int .u64 (wd a 2 : Int), .int .u64 (wd a 3 : Int)], .agg #[.int .u64 (wd b 0 : Int), .int .u64 (wd b 1 : Int), .int .u64 (wd b 2 : Int), .int .u64 (wd b 3 : Int)]] w fun e w' => e = .returned (.tuple #[.agg #[.int .u64 (wd lo 0 : Int), .int .u64 (wd lo 1 : Int), .int .u64 (wd lo 2 : Int), .int .u64 (wd lo 3 : Int)], .agg #[.int .u64 (wd hi 0 : Int), .int .u64 (wd hi 1 : Int), .int .u64 (wd hi 2 : Int), .int .u64 (wd hi 3 : Int)]]) ∧ Below w.heap.size w w') := fun w => by
            have h := mul_any a b w HA.out HB.out
            rw [hlo, hhi] at h
            exact h
          have HLO := Lib.hid hlo
          have HHI := Lib.hid hhi
          clear hlo hhi
          have lx := lt_blk rx
          have ly := lt_blk ry
          obtain ⟨⟨x0, x1, x2, x3⟩, _⟩ := fourV rx
          obtain ⟨⟨y0, y1, y2, y3⟩, _⟩ := fourV ry
          have ROWS := Lib.hid (And.intro rx (And.intro ry (And.intro rz be)))
          clear rx ry rz be
          go_wp2_with fail
          refine (KMul.out _).mono ?_
          rintro e w7 ⟨rfl, hb7⟩
          clear x0 x1 x2 x3 y0 y1 y2 y3 lx ly KMul
          obtain ⟨rx, ry, rz, be⟩ := ROWS.out
          clear ROWS
          have be7 := be.trans (hb7.mono be.size)
          have ROWS := Lib.hid (And.intro (((rx.keep hb7).alloc (.cells #[.int .u64 (wd lo 0 : Int), .int .u64 (wd lo 1 : Int), .int .u64 (wd lo 2 : Int), .int .u64 (wd lo 3 : Int)] 24)).alloc (.cells #[.int .u64 (wd hi 0 : Int), .int .u64 (wd hi 1 : Int), .int .u64 (wd hi 2 : Int), .int .u64 (wd hi 3 : Int)] 24)) (And.intro (((ry.keep hb7).alloc (.cells #[.int .u64 (wd lo 0 : Int), .int .u64 (wd lo 1 : Int), .int .u64 (wd lo 2 : Int), .int .u64 (wd lo 3 : Int)] 24)).alloc (.cells #[.int .u64 (wd hi 0 : Int), .int .u64 (wd hi 1 : Int), .int .u64 (wd hi 2 : Int), .int .u64 (wd hi 3 : Int)] 24)) (And.intro (((rz.keep hb7).alloc (.cells #[.int .u64 (wd lo 0 : Int), .int .u64 (wd lo 1 : Int), .int .u64 (wd lo 2 : Int), .int .u64 (wd lo 3 : Int)] 24)).alloc (.cells #[.int .u64 (wd hi 0 : Int), .int .u64 (wd hi 1 : Int), .int .u64 (wd hi 2 : Int), .int .u64 (wd hi 3 : Int)] 24)) (And.intro (show IsA ((w7.alloc (.cells #[.int .u64 (wd lo 0 : Int), .int .u64 (wd lo 1 : Int), .int .u64 (wd lo 2 : Int), .int .u64 (wd lo 3 : Int)] 24)).alloc (.cells #[.int .u64 (wd hi 0 : Int), .int .u64 (wd hi 1 : Int), .int .u64 (wd hi 2 : Int), .int .u64 (wd hi 3 : Int)] 24)) w7.heap.size lo 24 from alloc_keep (alloc_new w7 _) _) (And.intro (show IsA ((w7.alloc (.cells #[.int .u64 (wd lo 0 : Int), .int .u64 (wd lo 1 : Int), .int .u64 (wd lo 2 : Int), .int .u64 (wd lo 3 : Int)] 24)).alloc (.cells #[.int .u64 (wd hi 0 : Int), .int .u64 (wd hi 1 : Int), .int .u64 (wd hi 2 : Int), .int .u64 (wd hi 3 : Int)] 24)) (w7.heap.size + 1) hi 24 from alloc_new1 w7 _ _) (gr_alloc (gr_alloc be7 (.cells #[.int .u64 (wd lo 0 : Int), .int .u64 (wd lo 1 : Int), .int .u64 (wd lo 2 : Int), .int .u64 (wd lo 3 : Int)] 24)) (.cells #[.int .u64 (wd hi 0 : Int), .int .u64 (wd hi 1 : Int), .int .u64 (wd hi 2 : Int), .int .u64 (wd hi 3 : Int)] 24)))))))
          clear rx ry rz be be7 hb7
          go_wp2_with fail
          generalize (w7.alloc (.cells #[.int .u64 (wd lo 0 : Int), .int .u64 (wd lo 1 : Int), .int .u64 (wd lo 2 : Int), .int .u64 (wd lo 3 : Int)] 24)).alloc (.cells #[.int .u64 (wd hi 0 : Int), .int .u64 (wd hi 1 : Int), .int .u64 (wd hi 2 : Int), .int .u64 (wd hi 3 : Int)] 24) = V at *
          generalize w7.heap.size = bl at *
          go_cut [14, 15] (fun s14 s15 wf => ∃ bp bq, s14 = .pointer (some ⟨bp, 0, none⟩) ∧ s15 = .pointer (some ⟨bq, 0, none⟩) ∧ IsA wf bp (remN a 0 m) 24 ∧ IsA wf bq (remN b 0 m) 24 ∧ IsA wf bl lo 24 ∧ IsA wf (bl + 1) hi 24 ∧ IsA wf bz m 24 ∧ Below w.heap.size w wf)
          case rest =>
            clear ROWS
            obtain ⟨bp, bq, rfl, rfl, rp, rq, rl, rh, rz, be⟩ := hcut
            have hP : remN a 0 m = a % m := by unfold remN; rw [if_neg HM0.out, Nat.zero_mul, Nat.zero_add]
            have hQ : remN b 0 m = b % m := by unfold remN; rw [if_neg HM0.out, Nat.zero_mul, Nat.zero_add]
            have hPl : remN a 0 m < B64 ^ 4 := by rw [hP]; exact Nat.lt_trans (Nat.mod_lt _ (Nat.pos_of_ne_zero HM0.out)) HM.out
            have hQl : remN b 0 m < B64 ^ 4 := by rw [hQ]; exact Nat.lt_trans (Nat.mod_lt _ (Nat.pos_of_ne_zero HM0.out)) HM.out
            have hB4 : ∀ x y : Nat, x < B64 ^ 4 → y < B64 ^ 4 → x * y % B64 ^ 4 < B64 ^ 4 ∧ x * y / B64 ^ 4 < B64 ^ 4 ∧ remN (x * y % B64 ^ 4) (x * y / B64 ^ 4) m = x * y % m := fun x y hx hy => by
              refine ⟨Nat.mod_lt _ (Nat.pow_pos B64_pos), ?_, ?_⟩
              · rw [Nat.div_lt_iff_lt_mul (Nat.pow_pos B64_pos)]
                exact Nat.mul_lt_mul'' hx hy
              · unfold remN
                rw [if_neg HM0.out, Nat.mul_comm (x * y / B64 ^ 4), Nat.div_add_mod]
            obtain ⟨sn, hsn⟩ : ∃ sn, remN a 0 m * remN b 0 m % B64 ^ 4 = sn := ⟨_, rfl⟩
            obtain ⟨tn, htn⟩ : ∃ tn, remN a 0 m * remN b 0 m / B64 ^ 4 = tn := ⟨_, rfl⟩
            obtain ⟨ab, hab⟩ : ∃ ab, a * b % m = ab := ⟨_, rfl⟩
            have KMul2 : Hid (∀ w, Calls Try.prog 11 #[.agg #[.int .u64 (wd (remN a 0 m) 0 : Int), .int .u64 (wd (remN a 0 m) 1 : Int), .int .u64 (wd (remN a 0 m) 2 : Int), .int .u64 (wd (remN a 0 m) 3 : Int)], .agg #[.int .u64 (wd (remN b 0 m) 0 : Int), .int .u64 (wd (remN b 0 m) 1 : Int), .int .u64 (wd (remN b 0 m) 2 : Int), .int .u64 (wd (remN b 0 m) 3 : Int)]] w fun e w' => e = .returned (.tuple #[.agg #[.int .u64 (wd sn 0 : Int), .int .u64 (wd sn 1 : Int), .int .u64 (wd sn 2 : Int), .int .u64 (wd sn 3 : Int)], .agg #[.int .u64 (wd tn 0 : Int), .int .u64 (wd tn 1 : Int), .int .u64 (wd tn 2 : Int), .int .u64 (wd tn 3 : Int)]]) ∧ Below w.heap.size w w') := fun w => by
              have h := mul_any _ _ w hPl hQl
              rw [hsn, htn] at h
              exact h
            have KR1 : Hid (∀ w, Calls Try.prog 4 #[.agg #[.int .u64 (wd lo 0 : Int), .int .u64 (wd lo 1 : Int), .int .u64 (wd lo 2 : Int), .int .u64 (wd lo 3 : Int)], .agg #[.int .u64 (wd hi 0 : Int), .int .u64 (wd hi 1 : Int), .int .u64 (wd hi 2 : Int), .int .u64 (wd hi 3 : Int)], .agg #[.int .u64 (wd m 0 : Int), .int .u64 (wd m 1 : Int), .int .u64 (wd m 2 : Int), .int .u64 (wd m 3 : Int)]] w fun e w' => e = .returned (.agg #[.int .u64 (wd ab 0 : Int), .int .u64 (wd ab 1 : Int), .int .u64 (wd ab 2 : Int), .int .u64 (wd ab 3 : Int)]) ∧ Below w.heap.size w w') := fun w => by
              obtain ⟨h1, h2, h3⟩ := hB4 a b HA.out HB.out
              have h := rem_whole _ _ m w h1 h2 HM.out
              rw [h3, HLO.out, HHI.out, hab] at h
              exact h
            have KR2 : Hid (∀ w, Calls Try.prog 4 #[.agg #[.int .u64 (wd sn 0 : Int), .int .u64 (wd sn 1 : Int), .int .u64 (wd sn 2 : Int), .int .u64 (wd sn 3 : Int)], .agg #[.int .u64 (wd tn 0 : Int), .int .u64 (wd tn 1 : Int), .int .u64 (wd tn 2 : Int), .int .u64 (wd tn 3 : Int)], .agg #[.int .u64 (wd m 0 : Int), .int .u64 (wd m 1 : Int), .int .u64 (wd m 2 : Int), .int .u64 (wd m 3 : Int)]] w fun e w' => e = .returned (.agg #[.int .u64 (wd ab 0 : Int), .int .u64 (wd ab 1 : Int), .int .u64 (wd ab 2 : Int), .int .u64 (wd ab 3 : Int)]) ∧ Below w.heap.size w w') := fun w => by
              obtain ⟨h1, h2, h3⟩ := hB4 _ _ hPl hQl
              have h := rem_whole _ _ m w h1 h2 HM.out
              rw [h3, hsn, htn, hP, hQ, ← Nat.mul_mod, hab] at h
              exact h
            have HSN := Lib.hid hsn
            have HTN := Lib.hid htn
            have HAB := Lib.hid hab
            have lp := lt_blk rp
            have lq := lt_blk rq
            obtain ⟨⟨p0, p1, p2, p3⟩, _⟩ := fourV rp
            obtain ⟨⟨q0, q1, q2, q3⟩, _⟩ := fourV rq
            have ROWS := Lib.hid (And.intro rl (And.intro rh (And.intro rz be)))
            clear rp rq rl rh rz be hP hQ hPl hQl hB4 hsn htn hab
            go_wp2_with fail
            refine (KMul2.out _).mono ?_
            rintro e w10 ⟨rfl, hb10⟩
            clear p0 p1 p2 p3 q0 q1 q2 q3 lp lq KMul2
            obtain ⟨rl, rh, rz, be⟩ := ROWS.out
            clear ROWS
            have be10 := be.trans (hb10.mono be.size)
            have rl := ((rl.keep hb10).alloc (.cells #[.int .u64 (wd sn 0 : Int), .int .u64 (wd sn 1 : Int), .int .u64 (wd sn 2 : Int), .int .u64 (wd sn 3 : Int)] 24)).alloc (.cells #[.int .u64 (wd tn 0 : Int), .int .u64 (wd tn 1 : Int), .int .u64 (wd tn 2 : Int), .int .u64 (wd tn 3 : Int)] 24)
            have rh := ((rh.keep hb10).alloc (.cells #[.int .u64 (wd sn 0 : Int), .int .u64 (wd sn 1 : Int), .int .u64 (wd sn 2 : Int), .int .u64 (wd sn 3 : Int)] 24)).alloc (.cells #[.int .u64 (wd tn 0 : Int), .int .u64 (wd tn 1 : Int), .int .u64 (wd tn 2 : Int), .int .u64 (wd tn 3 : Int)] 24)
            have rz := ((rz.keep hb10).alloc (.cells #[.int .u64 (wd sn 0 : Int), .int .u64 (wd sn 1 : Int), .int .u64 (wd sn 2 : Int), .int .u64 (wd sn 3 : Int)] 24)).alloc (.cells #[.int .u64 (wd tn 0 : Int), .int .u64 (wd tn 1 : Int), .int .u64 (wd tn 2 : Int), .int .u64 (wd tn 3 : Int)] 24)
            have rs : IsA ((w10.alloc (.cells #[.int .u64 (wd sn 0 : Int), .int .u64 (wd sn 1 : Int), .int .u64 (wd sn 2 : Int), .int .u64 (wd sn 3 : Int)] 24)).alloc (.cells #[.int .u64 (wd tn 0 : Int), .int .u64 (wd tn 1 : Int), .int .u64 (wd tn 2 : Int), .int .u64 (wd tn 3 : Int)] 24)) w10.heap.size sn 24 := alloc_keep (alloc_new w10 _) _
            have rt : IsA ((w10.alloc (.cells #[.int .u64 (wd sn 0 : Int), .int .u64 (wd sn 1 : Int), .int .u64 (wd sn 2 : Int), .int .u64 (wd sn 3 : Int)] 24)).alloc (.cells #[.int .u64 (wd tn 0 : Int), .int .u64 (wd tn 1 : Int), .int .u64 (wd tn 2 : Int), .int .u64 (wd tn 3 : Int)] 24)) (w10.heap.size + 1) tn 24 := alloc_new1 w10 _ _
            have BE := Lib.hid (gr_alloc (gr_alloc be10 (.cells #[.int .u64 (wd sn 0 : Int), .int .u64 (wd sn 1 : Int), .int .u64 (wd sn 2 : Int), .int .u64 (wd sn 3 : Int)] 24)) (.cells #[.int .u64 (wd tn 0 : Int), .int .u64 (wd tn 1 : Int), .int .u64 (wd tn 2 : Int), .int .u64 (wd tn 3 : Int)] 24))
            clear be be10 hb10
            go_wp2_with fail
            generalize (w10.alloc (.cells #[.int .u64 (wd sn 0 : Int), .int .u64 (wd sn 1 : Int), .int .u64 (wd sn 2 : Int), .int .u64 (wd sn 3 : Int)] 24)).alloc (.cells #[.int .u64 (wd tn 0 : Int), .int .u64 (wd tn 1 : Int), .int .u64 (wd tn 2 : Int), .int .u64 (wd tn 3 : Int)] 24) = W at *
            generalize w10.heap.size = bs at *
            obtain ⟨⟨l0, l1, l2, l3⟩, _⟩ := fourV rl
            obtain ⟨⟨h0, h1, h2, h3⟩, _⟩ := fourV rh
            obtain ⟨⟨z0, z1, z2, z3⟩, _⟩ := fourV rz
            obtain ⟨⟨s0, s1, s2, s3⟩, _⟩ := fourV rs
            obtain ⟨⟨t0, t1, t2, t3⟩, _⟩ := fourV rt
            have L0 := fun d os => cell_regrown l0 d os
            have L1 := fun d os => cell_regrown l1 d os
            have L2 := fun d os => cell_regrown l2 d os
            have L3 := fun d os => cell_regrown l3 d os
            have H0 := fun d os => cell_regrown h0 d os
            have H1 := fun d os => cell_regrown h1 d os
            have H2 := fun d os => cell_regrown h2 d os
            have H3 := fun d os => cell_regrown h3 d os
            have Z0 := fun d os => cell_regrown z0 d os
            have Z1 := fun d os => cell_regrown z1 d os
            have Z2 := fun d os => cell_regrown z2 d os
            have Z3 := fun d os => cell_regrown z3 d os
            have S0 := fun d os => cell_regrown s0 d os
            have S1 := fun d os => cell_regrown s1 d os
            have S2 := fun d os => cell_regrown s2 d os
            have S3 := fun d os => cell_regrown s3 d os
            have T0 := fun d os => cell_regrown t0 d os
            have T1 := fun d os => cell_regrown t1 d os
            have T2 := fun d os => cell_regrown t2 d os
            have T3 := fun d os => cell_regrown t3 d os
            have kq := fun w => eql_num w (wd ab 0) (wd ab 1) (wd ab 2) (wd ab 3) (wd ab 0) (wd ab 1) (wd ab 2) (wd ab 3)
            clear l0 l1 l2 l3 h0 h1 h2 h3 z0 z1 z2 z3 s0 s1 s2 s3 t0 t1 t2 t3 rl rh rz rs rt
            refine wp_region_quiet_below (by assumption) (by kernel_rfl) ?_
            repeat (quiet_step (first
              | (go_at_call_of 4 (Value.agg #[.int .u64 (wd lo 0 : Int), .int .u64 (wd lo 1 : Int), .int .u64 (wd lo 2 : Int), .int .u64 (wd lo 3 : Int)]); exact Calls.regrown_of (KR1.out _))
              | (go_at_call_of 4 (Value.agg #[.int .u64 (wd sn 0 : Int), .int .u64 (wd sn 1 : Int), .int .u64 (wd sn 2 : Int), .int .u64 (wd sn 3 : Int)]); exact Calls.regrown_of (KR2.out _))
              | (go_at_call 6; exact Calls.regrown_of (lives13 _))))
            refine wpQuiet_nil ?_
            intro _ hw'
            obtain ⟨⟨nq, osq⟩, hw''⟩ := hw'
            subst hw''
            go_wp2_with fail
            go_ret
            exact ⟨rfl, BE.out.trans ((below_regrown W _ _).mono BE.out.size)⟩
          case first =>
            obtain ⟨rx, ry, rz, rl, rh, be⟩ := ROWS.out
            have KP : Hid (∀ w, Calls Try.prog 4 #[.agg #[.int .u64 (wd a 0 : Int), .int .u64 (wd a 1 : Int), .int .u64 (wd a 2 : Int), .int .u64 (wd a 3 : Int)], .agg #[.int .u64 0, .int .u64 0, .int .u64 0, .int .u64 0], .agg #[.int .u64 (wd m 0 : Int), .int .u64 (wd m 1 : Int), .int .u64 (wd m 2 : Int), .int .u64 (wd m 3 : Int)]] w fun e w' => e = .returned (.agg #[.int .u64 (wd (remN a 0 m) 0 : Int), .int .u64 (wd (remN a 0 m) 1 : Int), .int .u64 (wd (remN a 0 m) 2 : Int), .int .u64 (wd (remN a 0 m) 3 : Int)]) ∧ Below w.heap.size w w') := fun w => by
              have h := rem_whole a 0 m w HA.out (by decide +kernel) HM.out
              rw [num_0] at h
              exact h
            have KQ : Hid (∀ w, Calls Try.prog 4 #[.agg #[.int .u64 (wd b 0 : Int), .int .u64 (wd b 1 : Int), .int .u64 (wd b 2 : Int), .int .u64 (wd b 3 : Int)], .agg #[.int .u64 0, .int .u64 0, .int .u64 0, .int .u64 0], .agg #[.int .u64 (wd m 0 : Int), .int .u64 (wd m 1 : Int), .int .u64 (wd m 2 : Int), .int .u64 (wd m 3 : Int)]] w fun e w' => e = .returned (.agg #[.int .u64 (wd (remN b 0 m) 0 : Int), .int .u64 (wd (remN b 0 m) 1 : Int), .int .u64 (wd (remN b 0 m) 2 : Int), .int .u64 (wd (remN b 0 m) 3 : Int)]) ∧ Below w.heap.size w w') := fun w => by
              have h := rem_whole b 0 m w HB.out (by decide +kernel) HM.out
              rw [num_0] at h
              exact h
            have X0 := rx.drew
            have Y0 := ry.drew
            have Z0 := rz.drew
            have L0 := rl.drew
            have H0 := rh.drew
            have B0 := be.drew
            have lx : bx < V.heap.size := lt_blk rx
            have ly : bY < V.heap.size := lt_blk ry
            have lz : bz < V.heap.size := lt_blk rz
            have ll : bl < V.heap.size := lt_blk rl
            have lh : bl + 1 < V.heap.size := lt_blk rh
            have S0 : w.heap.size ≤ V.heap.size := B0.size
            go_region_held3 (fun w' => w'.cell? ⟨bx, 0, none⟩ = some (.int .u64 (wd a 0 : Int)) ∧ w'.cell? ⟨bx, 1, none⟩ = some (.int .u64 (wd a 1 : Int)) ∧ w'.cell? ⟨bx, 2, none⟩ = some (.int .u64 (wd a 2 : Int)) ∧ w'.cell? ⟨bx, 3, none⟩ = some (.int .u64 (wd a 3 : Int)) ∧ w'.cell? ⟨bY, 0, none⟩ = some (.int .u64 (wd b 0 : Int)) ∧ w'.cell? ⟨bY, 1, none⟩ = some (.int .u64 (wd b 1 : Int)) ∧ w'.cell? ⟨bY, 2, none⟩ = some (.int .u64 (wd b 2 : Int)) ∧ w'.cell? ⟨bY, 3, none⟩ = some (.int .u64 (wd b 3 : Int)) ∧ w'.cell? ⟨bz, 0, none⟩ = some (.int .u64 (wd m 0 : Int)) ∧ w'.cell? ⟨bz, 1, none⟩ = some (.int .u64 (wd m 1 : Int)) ∧ w'.cell? ⟨bz, 2, none⟩ = some (.int .u64 (wd m 2 : Int)) ∧ w'.cell? ⟨bz, 3, none⟩ = some (.int .u64 (wd m 3 : Int))) ((refine cells12 (t1 := 24) (t2 := 24) (t3 := 24) ?_ ?_ ?_) <;> (repeat (first | (with_reducible assumption) | (with_reducible refine IsA.drew ?_) | (with_reducible refine IsA.alloc ?_ _) | (with_reducible refine IsA.far ?_ ?_; rotate_left; omega)))) (first
              | (go_at_call_of 4 (Value.agg #[.int .u64 (wd a 0 : Int), .int .u64 (wd a 1 : Int), .int .u64 (wd a 2 : Int), .int .u64 (wd a 3 : Int)]); go_must (refine (KP.out _).mono ?_); rintro e w8 ⟨rfl, hb8⟩
                 first
                   | (have X8 := X0.keep hb8
                      have Y8 := Y0.keep hb8
                      have Z8 := Z0.keep hb8
                      have L8 := L0.keep hb8
                      have H8 := H0.keep hb8
                      have B8 := B0.trans (hb8.mono S0)
                      have s8 : V.heap.size ≤ w8.heap.size := hb8.size)
                   | (have X8 := (show IsA (V.alloc (.cells #[.int .u64 0, .int .u64 0, .int .u64 0, .int .u64 0] 24)).drew _ _ _ from rx.alloc _).keep hb8
                      have Y8 := (show IsA (V.alloc (.cells #[.int .u64 0, .int .u64 0, .int .u64 0, .int .u64 0] 24)).drew _ _ _ from ry.alloc _).keep hb8
                      have Z8 := (show IsA (V.alloc (.cells #[.int .u64 0, .int .u64 0, .int .u64 0, .int .u64 0] 24)).drew _ _ _ from rz.alloc _).keep hb8
                      have L8 := (show IsA (V.alloc (.cells #[.int .u64 0, .int .u64 0, .int .u64 0, .int .u64 0] 24)).drew _ _ _ from rl.alloc _).keep hb8
                      have H8 := (show IsA (V.alloc (.cells #[.int .u64 0, .int .u64 0, .int .u64 0, .int .u64 0] 24)).drew _ _ _ from rh.alloc _).keep hb8
                      have s8' : V.heap.size + 1 ≤ w8.heap.size := by have h := hb8.size; have e : (V.alloc (.cells #[.int .u64 0, .int .u64 0, .int .u64 0, .int .u64 0] 24)).drew.heap.size = V.heap.size + 1 := alloc_size1 V _; omega
                      have s8 : V.heap.size ≤ w8.heap.size := by omega
                      have B8 := ((gr_allocB (w1 := V) be S0 (.cells #[.int .u64 0, .int .u64 0, .int .u64 0, .int .u64 0] 24)).drew).trans (hb8.mono (by show w.heap.size ≤ (V.alloc (.cells #[.int .u64 0, .int .u64 0, .int .u64 0, .int .u64 0] 24)).heap.size; rw [alloc_size1]; omega))
                      have N8 : w8.heap[V.heap.size]? = some (.cells #[.int .u64 0, .int .u64 0, .int .u64 0, .int .u64 0] 24 (0, 0)) := (hb8.block _ (by show V.heap.size < (V.alloc (.cells #[.int .u64 0, .int .u64 0, .int .u64 0, .int .u64 0] 24)).heap.size; rw [alloc_size1]; omega)).trans (alloc_new V _)
                      obtain ⟨⟨c0, c1, c2, c3⟩, f0, f1, f2, f3⟩ := fourV N8)
                   | (have X8 := (show IsA ((V.alloc (.cells #[.int .u64 0, .int .u64 0, .int .u64 0, .int .u64 0] 24)).alloc (.cells #[.int .u64 0, .int .u64 0, .int .u64 0, .int .u64 0] 24)).drew _ _ _ from (rx.alloc _).alloc _).keep hb8
                      have Y8 := (show IsA ((V.alloc (.cells #[.int .u64 0, .int .u64 0, .int .u64 0, .int .u64 0] 24)).alloc (.cells #[.int .u64 0, .int .u64 0, .int .u64 0, .int .u64 0] 24)).drew _ _ _ from (ry.alloc _).alloc _).keep hb8
                      have Z8 := (show IsA ((V.alloc (.cells #[.int .u64 0, .int .u64 0, .int .u64 0, .int .u64 0] 24)).alloc (.cells #[.int .u64 0, .int .u64 0, .int .u64 0, .int .u64 0] 24)).drew _ _ _ from (rz.alloc _).alloc _).keep hb8
                      have L8 := (show IsA ((V.alloc (.cells #[.int .u64 0, .int .u64 0, .int .u64 0, .int .u64 0] 24)).alloc (.cells #[.int .u64 0, .int .u64 0, .int .u64 0, .int .u64 0] 24)).drew _ _ _ from (rl.alloc _).alloc _).keep hb8
                      have H8 := (show IsA ((V.alloc (.cells #[.int .u64 0, .int .u64 0, .int .u64 0, .int .u64 0] 24)).alloc (.cells #[.int .u64 0, .int .u64 0, .int .u64 0, .int .u64 0] 24)).drew _ _ _ from (rh.alloc _).alloc _).keep hb8
                      have e2 : ((V.alloc (.cells #[.int .u64 0, .int .u64 0, .int .u64 0, .int .u64 0] 24)).alloc (.cells #[.int .u64 0, .int .u64 0, .int .u64 0, .int .u64 0] 24)).drew.heap.size = V.heap.size + 1 + 1 := by show ((V.alloc (.cells #[.int .u64 0, .int .u64 0, .int .u64 0, .int .u64 0] 24)).alloc (.cells #[.int .u64 0, .int .u64 0, .int .u64 0, .int .u64 0] 24)).heap.size = _; rw [alloc_size1, alloc_size1]
                      have s8' : V.heap.size + 1 + 1 ≤ w8.heap.size := by have h := hb8.size; omega
                      have s8 : V.heap.size ≤ w8.heap.size := by omega
                      have B8 := ((gr_allocB (gr_allocB (w1 := V) be S0 (.cells #[.int .u64 0, .int .u64 0, .int .u64 0, .int .u64 0] 24)) (by rw [alloc_size1]; omega) (.cells #[.int .u64 0, .int .u64 0, .int .u64 0, .int .u64 0] 24)).drew).trans (hb8.mono (by omega))
                      have N8 : w8.heap[V.heap.size]? = some (.cells #[.int .u64 0, .int .u64 0, .int .u64 0, .int .u64 0] 24 (0, 0)) := (hb8.block _ (by omega)).trans (alloc_keep (alloc_new V _) _)
                      have M8 : w8.heap[V.heap.size + 1]? = some (.cells #[.int .u64 0, .int .u64 0, .int .u64 0, .int .u64 0] 24 (0, 0)) := (hb8.block _ (by omega)).trans (alloc_new1 V _ _)
                      obtain ⟨⟨c0, c1, c2, c3⟩, f0, f1, f2, f3⟩ := fourV N8
                      obtain ⟨⟨d0, d1, d2, d3⟩, g0, g1, g2, g3⟩ := fourV M8))
              | (go_at_call_of 4 (Value.agg #[.int .u64 (wd b 0 : Int), .int .u64 (wd b 1 : Int), .int .u64 (wd b 2 : Int), .int .u64 (wd b 3 : Int)]); go_must (refine (KQ.out _).mono ?_); rintro e w9 ⟨rfl, hb9⟩
                 first
                   | (have X9 := X8.keep hb9
                      have Y9 := Y8.keep hb9
                      have Z9 := Z8.keep hb9
                      have L9 := L8.keep hb9
                      have H9 := H8.keep hb9
                      have B9 := B8.trans (hb9.mono B8.size)
                      have s9 : w8.heap.size ≤ w9.heap.size := hb9.size
                      try (have e1 : V.heap.size < w9.heap.size := by omega
                           have e2 : V.heap.size ≠ w9.heap.size := by omega
                           have e3 : w9.heap.size ≠ V.heap.size := by omega)
                      try (have N9 := keep N8 hb9
                           obtain ⟨⟨c0, c1, c2, c3⟩, f0, f1, f2, f3⟩ := fourV N9)
                      try (have M9 := keep M8 hb9
                           obtain ⟨⟨d0, d1, d2, d3⟩, g0, g1, g2, g3⟩ := fourV M9))
                   | (have X9 := (X8.alloc (.cells #[.int .u64 0, .int .u64 0, .int .u64 0, .int .u64 0] 24)).keep hb9
                      have Y9 := (Y8.alloc (.cells #[.int .u64 0, .int .u64 0, .int .u64 0, .int .u64 0] 24)).keep hb9
                      have Z9 := (Z8.alloc (.cells #[.int .u64 0, .int .u64 0, .int .u64 0, .int .u64 0] 24)).keep hb9
                      have L9 := (L8.alloc (.cells #[.int .u64 0, .int .u64 0, .int .u64 0, .int .u64 0] 24)).keep hb9
                      have H9 := (H8.alloc (.cells #[.int .u64 0, .int .u64 0, .int .u64 0, .int .u64 0] 24)).keep hb9
                      have s9' : w8.heap.size + 1 ≤ w9.heap.size := by have h := hb9.size; rw [alloc_size1] at h; exact h
                      have s9 : w8.heap.size ≤ w9.heap.size := by omega
                      have e4 : w8.heap.size < w9.heap.size := by omega
                      have e5 : w8.heap.size ≠ w9.heap.size := by omega
                      have e6 : w9.heap.size ≠ w8.heap.size := by omega
                      try (have e1 : V.heap.size < w8.heap.size := by omega
                           have e2 : V.heap.size ≠ w8.heap.size := by omega
                           have e3 : w8.heap.size ≠ V.heap.size := by omega)
                      have B9 := (gr_allocB B8 B8.size (.cells #[.int .u64 0, .int .u64 0, .int .u64 0, .int .u64 0] 24)).trans (hb9.mono (by rw [alloc_size1]; have := B8.size; omega))
                      have O9 := keep (alloc_new w8 (.cells #[.int .u64 0, .int .u64 0, .int .u64 0, .int .u64 0] 24)) hb9
                      obtain ⟨⟨p0, p1, p2, p3⟩, q0, q1, q2, q3⟩ := fourV O9
                      try (have N9 := keep (alloc_keep N8 (.cells #[.int .u64 0, .int .u64 0, .int .u64 0, .int .u64 0] 24)) hb9
                           obtain ⟨⟨c0, c1, c2, c3⟩, f0, f1, f2, f3⟩ := fourV N9))
                   | (have X9 := ((X8.alloc (.cells #[.int .u64 0, .int .u64 0, .int .u64 0, .int .u64 0] 24)).alloc (.cells #[.int .u64 0, .int .u64 0, .int .u64 0, .int .u64 0] 24)).keep hb9
                      have Y9 := ((Y8.alloc (.cells #[.int .u64 0, .int .u64 0, .int .u64 0, .int .u64 0] 24)).alloc (.cells #[.int .u64 0, .int .u64 0, .int .u64 0, .int .u64 0] 24)).keep hb9
                      have Z9 := ((Z8.alloc (.cells #[.int .u64 0, .int .u64 0, .int .u64 0, .int .u64 0] 24)).alloc (.cells #[.int .u64 0, .int .u64 0, .int .u64 0, .int .u64 0] 24)).keep hb9
                      have L9 := ((L8.alloc (.cells #[.int .u64 0, .int .u64 0, .int .u64 0, .int .u64 0] 24)).alloc (.cells #[.int .u64 0, .int .u64 0, .int .u64 0, .int .u64 0] 24)).keep hb9
                      have H9 := ((H8.alloc (.cells #[.int .u64 0, .int .u64 0, .int .u64 0, .int .u64 0] 24)).alloc (.cells #[.int .u64 0, .int .u64 0, .int .u64 0, .int .u64 0] 24)).keep hb9
                      have s9' : w8.heap.size + 1 + 1 ≤ w9.heap.size := by have h := hb9.size; rw [alloc_size1, alloc_size1] at h; exact h
                      have s9 : w8.heap.size ≤ w9.heap.size := by omega
                      have e4 : w8.heap.size < w9.heap.size := by omega
                      have e5 : w8.heap.size ≠ w9.heap.size := by omega
                      have e6 : w9.heap.size ≠ w8.heap.size := by omega
                      try (have e1 : V.heap.size < w8.heap.size := by omega
                           have e2 : V.heap.size ≠ w8.heap.size := by omega
                           have e3 : w8.heap.size ≠ V.heap.size := by omega)
                      have B9 := (gr_allocB (gr_allocB B8 B8.size (.cells #[.int .u64 0, .int .u64 0, .int .u64 0, .int .u64 0] 24)) (by rw [alloc_size1]; have := B8.size; omega) (.cells #[.int .u64 0, .int .u64 0, .int .u64 0, .int .u64 0] 24)).trans (hb9.mono (by rw [alloc_size1, alloc_size1]; have := B8.size; omega))
                      have O9 := keep (alloc_keep (alloc_new w8 (.cells #[.int .u64 0, .int .u64 0, .int .u64 0, .int .u64 0] 24)) (.cells #[.int .u64 0, .int .u64 0, .int .u64 0, .int .u64 0] 24)) hb9
                      have P9 := keep (alloc_new1 w8 (.cells #[.int .u64 0, .int .u64 0, .int .u64 0, .int .u64 0] 24) (.cells #[.int .u64 0, .int .u64 0, .int .u64 0, .int .u64 0] 24)) hb9
                      obtain ⟨⟨p0, p1, p2, p3⟩, q0, q1, q2, q3⟩ := fourV O9
                      obtain ⟨⟨r0, r1, r2, r3⟩, t0, t1, t2, t3⟩ := fourV P9)))
            all_goals
              rename_i hH
              clear hH
              clear KP KQ
              go_wp2_with fail
              go_meet
              case rel =>
                go_light
                first
                  | with_reducible exact clo_A1 L9 H9 Z9 B9
                  | with_reducible exact clo_A2 L9 H9 Z9 B9
                  | with_reducible exact clo_B1 (by assumption) (by omega) (by omega) (by omega) L9 H9 Z9 B9
                  | with_reducible exact clo_B2 (by assumption) (by omega) (by omega) (by omega) L9 H9 Z9 B9
                  | with_reducible exact clo_C (by assumption) (by assumption) (by omega) (by omega) (by omega) (by omega) (by omega) (by omega) (by omega) L9 H9 Z9 B9
        case first =>
          obtain ⟨rm, rx, ry, rz, rr, be⟩ := ROWS.out
          have cR := rr.drew
          have cM := rm.drew
          have cZ := rz.drew
          have RX := Lib.hid (rx.drew)
          have RY := Lib.hid (ry.drew)
          have BE := Lib.hid be.drew
          have kq := fun w => eql_num w (wd (remN a b m) 0) (wd (remN a b m) 1) (wd (remN a b m) 2) (wd (remN a b m) 3) (wd (remN a b m) 0) (wd (remN a b m) 1) (wd (remN a b m) 2) (wd (remN a b m) 3)
          have hm0 : 0 < m := Nat.pos_of_ne_zero HM0.out
          clear rm rx ry rz rr be
          go_region_held3 (fun w' => w'.cell? ⟨br, 0, none⟩ = some (.int .u64 (wd (remN a b m) 0 : Int)) ∧ w'.cell? ⟨br, 1, none⟩ = some (.int .u64 (wd (remN a b m) 1 : Int)) ∧ w'.cell? ⟨br, 2, none⟩ = some (.int .u64 (wd (remN a b m) 2 : Int)) ∧ w'.cell? ⟨br, 3, none⟩ = some (.int .u64 (wd (remN a b m) 3 : Int)) ∧ w'.cell? ⟨w.heap.size + 1 + 1, 0, none⟩ = some (.int .u64 (wd m 0 : Int)) ∧ w'.cell? ⟨w.heap.size + 1 + 1, 1, none⟩ = some (.int .u64 (wd m 1 : Int)) ∧ w'.cell? ⟨w.heap.size + 1 + 1, 2, none⟩ = some (.int .u64 (wd m 2 : Int)) ∧ w'.cell? ⟨w.heap.size + 1 + 1, 3, none⟩ = some (.int .u64 (wd m 3 : Int)) ∧ w'.cell? ⟨bz, 0, none⟩ = some (.int .u64 (wd m 0 : Int)) ∧ w'.cell? ⟨bz, 1, none⟩ = some (.int .u64 (wd m 1 : Int)) ∧ w'.cell? ⟨bz, 2, none⟩ = some (.int .u64 (wd m 2 : Int)) ∧ w'.cell? ⟨bz, 3, none⟩ = some (.int .u64 (wd m 3 : Int))) (first | (with_reducible exact cells12 cR cM cZ) | (with_reducible exact cells12 cR3 cM3 cZ3) | (with_reducible exact cells12 cR4 cM4 cZ4) | (with_reducible exact cells12 cR5 cM5 cZ5) | (with_reducible exact cells12 cR6 cM6 cZ6)) (first
            | (go_at_call 7; go_must (refine (KM.out _).mono ?_); rintro e w3 ⟨gm, rfl, hom, _, hb3⟩
               have cR3 := cR.keep hb3
               have cM3 := cM.keep hb3
               have cZ3 := cZ.keep hb3
               have hin3 := IsN_below (show IsN wc.drew _ _ _ _ from HIN.out) hb3)
            | (go_at_call 9; go_must (refine (rrem_any (some ⟨g, 0, none⟩) (some ⟨gm, 0, none⟩) 32 cap 16 16 (a + b * 65536 ^ 16) m _ hin3 (hom.is 16 (Nat.le_refl _)) hm0 (by omega) (by omega)).mono ?_); rintro e w4 ⟨gq, capq, lenq, rfl, hq, hlq, hb4⟩
               rw [HRE.out] at hq
               have cR4 := cR3.keep hb4
               have cM4 := cM3.keep hb4
               have cZ4 := cZ3.keep hb4
               have kt := rto_any gq lenq capq (remN a b m) 0 w4 hq (by omega)
               rw [HTO.out] at kt
               have KT := Lib.hid kt
               clear kt)
            | (go_at_call 8; go_must (refine KT.out.mono ?_); rintro e w5 ⟨rfl, hb5⟩
               have cR5 := cR4.keep hb5
               have cM5 := cM4.keep hb5
               have cZ5 := cZ4.keep hb5
               have hb345 := gr_step (gr_step hb3 hb4) hb5)
            | (go_at_call 10; go_must (refine (KCmp.out _).mono ?_); rintro e w6 ⟨rfl, hb6⟩
               have cR6 := cR5.keep hb6
               have cM6 := cM5.keep hb6
               have cZ6 := cZ5.keep hb6
               have hb3456 := gr_step hb345 hb6))
          all_goals
            go_wp2_with fail
            go_meet
            case rel => exact ⟨rfl, RX.out.keep hb3456, RY.out.keep hb3456, cZ6, BE.out.trans (hb3456.mono BE.out.size)⟩
      case first =>
        obtain ⟨ra, rb, rm, rx, ry, rz, be⟩ := HH.out
        have szw : w.heap.size + 1 + 1 < w2.heap.size := lt_blk rm
        have KA : Hid (∀ w, Calls Try.prog 7 #[.agg #[.int .u64 (wd a 0 : Int), .int .u64 (wd a 1 : Int), .int .u64 (wd a 2 : Int), .int .u64 (wd a 3 : Int)]] w fun e w' => ∃ g, e = .returned (.slice (some ⟨g, 0, none⟩) 16 16) ∧ OwnN w' g 16 a ∧ w.heap.size ≤ g ∧ Below w.heap.size w w') := fun w => rof_any a w HA.out
        have KB : Hid (∀ w, Calls Try.prog 7 #[.agg #[.int .u64 (wd b 0 : Int), .int .u64 (wd b 1 : Int), .int .u64 (wd b 2 : Int), .int .u64 (wd b 3 : Int)]] w fun e w' => ∃ g, e = .returned (.slice (some ⟨g, 0, none⟩) 16 16) ∧ OwnN w' g 16 b ∧ w.heap.size ≤ g ∧ Below w.heap.size w w') := fun w => rof_any b w HB.out
        obtain ⟨i0, hi, hz0, hz1, hz2⟩ := info_parts Try.info_u64
        obtain ⟨⟨p0, p1, p2, p3⟩, _⟩ := fourV ra
        obtain ⟨⟨q0, q1, q2, q3⟩, _⟩ := fourV rb
        have RA := Lib.hid ra
        have RB := Lib.hid rb
        clear ra rb rm rx ry rz be
        go_region_held3 (fun w' => w'.cell? ⟨w.heap.size, 0, none⟩ = some (.int .u64 (wd a 0 : Int)) ∧ w'.cell? ⟨w.heap.size, 1, none⟩ = some (.int .u64 (wd a 1 : Int)) ∧ w'.cell? ⟨w.heap.size, 2, none⟩ = some (.int .u64 (wd a 2 : Int)) ∧ w'.cell? ⟨w.heap.size, 3, none⟩ = some (.int .u64 (wd a 3 : Int)) ∧ w'.cell? ⟨w.heap.size + 1, 0, none⟩ = some (.int .u64 (wd b 0 : Int)) ∧ w'.cell? ⟨w.heap.size + 1, 1, none⟩ = some (.int .u64 (wd b 1 : Int)) ∧ w'.cell? ⟨w.heap.size + 1, 2, none⟩ = some (.int .u64 (wd b 2 : Int)) ∧ w'.cell? ⟨w.heap.size + 1, 3, none⟩ = some (.int .u64 (wd b 3 : Int))) (first | (with_reducible exact ⟨p0, p1, p2, p3, q0, q1, q2, q3⟩) | (with_reducible exact ⟨k0, k1, k2, k3, l0, l1, l2, l3⟩) | (with_reducible exact ⟨m0, m1, m2, m3, n0, n1, n2, n3⟩) | (with_reducible exact ⟨u0, u1, u2, u3, v0, v1, v2', v3⟩) | go_keep) (first
          | (go_at_call_of 7 (Value.agg #[.int .u64 (wd a 0 : Int), .int .u64 (wd a 1 : Int), .int .u64 (wd a 2 : Int), .int .u64 (wd a 3 : Int)]); go_must (refine (KA.out _).mono ?_); rintro e w3 ⟨g1, rfl, ho1, hg1, hb3⟩
             have ra3 := (show IsA w2.drew _ _ _ from RA.out).keep hb3
             have rb3 := (show IsA w2.drew _ _ _ from RB.out).keep hb3
             have hg1' : w2.heap.size ≤ g1 := hg1
             obtain ⟨⟨k0, k1, k2, k3⟩, _⟩ := fourV ra3
             obtain ⟨⟨l0, l1, l2, l3⟩, _⟩ := fourV rb3)
          | (go_at_call_of 7 (Value.agg #[.int .u64 (wd b 0 : Int), .int .u64 (wd b 1 : Int), .int .u64 (wd b 2 : Int), .int .u64 (wd b 3 : Int)]); go_must (refine (KB.out _).mono ?_); rintro e w4 ⟨g2, rfl, ho2, hg2, hb4⟩
             have ra4 := ra3.keep hb4
             have rb4 := rb3.keep hb4
             have own1 := own_of (base := w.heap.size) (ho1.below hb4) (by omega)
             obtain ⟨⟨m0, m1, m2, m3⟩, _⟩ := fourV ra4
             obtain ⟨⟨n0, n1, n2, n3⟩, _⟩ := fourV rb4)
          | (refine step_append_own rfl (.tmp 33) (.tmp 35) 27 rfl w.heap.size 22 i0 (.int .u64 0) 1 8 Try.underlying27 hi hz0 hz1 hz2 rfl (by decide) (.slice (some ⟨g1, 0, none⟩) 16 16) 16 (rowH (dg a) 16) (by simp [Act.eval]) (by exact own1) ⟨g2, 0, none⟩ 16 16 (rowH (dg b) 16) (by simp [Act.eval]) (by rw [rowH_len]) (by exact row_news ho2.1) (row_one _ _) (by unfold maxLen; omega) (by omega) (by have h1 := lt_blk ra4; omega) ?_
             intro vv w5 hown5 hgrow5
             have ra5 := ra4.grown hgrow5 (by simp [Value.ownBlock]; omega)
             have rb5 := rb4.grown hgrow5 (by simp [Value.ownBlock]; omega)
             obtain ⟨⟨u0, u1, u2, u3⟩, _⟩ := fourV ra5
             obtain ⟨⟨v0, v1, v2', v3⟩, _⟩ := fourV rb5))
        go_wp2_with fail
        go_meet
        case rel =>
          have pa : a < 65536 ^ 16 := by rw [show (65536 : Nat) ^ 16 = B64 ^ 4 by decide]; exact HA.out
          have pb : b < 65536 ^ 16 := by rw [show (65536 : Nat) ^ 16 = B64 ^ 4 by decide]; exact HB.out
          obtain ⟨g, cap, rfl, hgb, hIs⟩ := own_isN hown5 pa pb
          obtain ⟨ra, rb, rm, rx, ry, rz, be⟩ := HH.out
          have mv : ∀ {q n : Nat} {t : TypeId}, IsA w2 q n t → IsA w5 q n t := fun {q n t} h => (((show IsA w2.drew q n t from h).keep hb3).keep hb4).grown hgrow5 (by have := lt_blk h; simp [Value.ownBlock]; omega)
          have b3 := be.drew.trans (hb3.mono be.size)
          have b4 := b3.trans (hb4.mono b3.size)
          exact ⟨g, cap, rfl, hIs, mv rm, mv rx, mv ry, mv rz, mv rr.out, b4.grown hgrow5 b4.size (fun j hj => by simp [Value.ownBlock] at hj; omega)⟩
  case first =>
    obtain ⟨⟨p0, p1, p2, p3⟩, _⟩ := fourV XA.out
    obtain ⟨⟨q0, q1, q2, q3⟩, _⟩ := fourV XB.out
    obtain ⟨⟨r0, r1, r2, r3⟩, _⟩ := fourV XM.out
    have ep0 := World.new_ne X _ p0
    have eq0 := World.new_ne X _ q0
    have er0 := World.new_ne X _ r0
    have sX : w.heap.size ≤ X.heap.size := XL.out.size
    go_region_held3 (fun w' => w'.cell? ⟨w.heap.size, 0, none⟩ = some (.int .u64 (wd a 0 : Int)) ∧ w'.cell? ⟨w.heap.size, 1, none⟩ = some (.int .u64 (wd a 1 : Int)) ∧ w'.cell? ⟨w.heap.size, 2, none⟩ = some (.int .u64 (wd a 2 : Int)) ∧ w'.cell? ⟨w.heap.size, 3, none⟩ = some (.int .u64 (wd a 3 : Int)) ∧ w'.cell? ⟨w.heap.size + 1, 0, none⟩ = some (.int .u64 (wd b 0 : Int)) ∧ w'.cell? ⟨w.heap.size + 1, 1, none⟩ = some (.int .u64 (wd b 1 : Int)) ∧ w'.cell? ⟨w.heap.size + 1, 2, none⟩ = some (.int .u64 (wd b 2 : Int)) ∧ w'.cell? ⟨w.heap.size + 1, 3, none⟩ = some (.int .u64 (wd b 3 : Int)) ∧ w'.cell? ⟨w.heap.size + 1 + 1, 0, none⟩ = some (.int .u64 (wd m 0 : Int)) ∧ w'.cell? ⟨w.heap.size + 1 + 1, 1, none⟩ = some (.int .u64 (wd m 1 : Int)) ∧ w'.cell? ⟨w.heap.size + 1 + 1, 2, none⟩ = some (.int .u64 (wd m 2 : Int)) ∧ w'.cell? ⟨w.heap.size + 1 + 1, 3, none⟩ = some (.int .u64 (wd m 3 : Int))) (first | (with_reducible exact cells12 (IsA.drew (IsA.alloc (IsA.alloc (IsA.alloc XA.out _) _) _)) (IsA.drew (IsA.alloc (IsA.alloc (IsA.alloc XB.out _) _) _)) (IsA.drew (IsA.alloc (IsA.alloc (IsA.alloc XM.out _) _) _))) | go_keep) (fail)
    all_goals
      rename_i hH
      clear hH ep0 eq0 er0 p0 p1 p2 p3 q0 q1 q2 q3 r0 r1 r2 r3
      go_wp2_with fail
      go_meet
      case rel =>
        refine ⟨_, _, _, rfl, rfl, rfl, ((XA.out.alloc _).alloc _).alloc _, ((XB.out.alloc _).alloc _).alloc _, ((XM.out.alloc _).alloc _).alloc _, ?_, ?_, ?_, ?_⟩
        · first
            | exact alloc_keep (alloc_keep (alloc_new X _) _) _
            | exact alloc_keep (alloc_new1 X _ _) _
            | exact alloc_new2 X _ _ _
        · first
            | exact alloc_keep (alloc_keep (alloc_new X _) _) _
            | exact alloc_keep (alloc_new1 X _ _) _
            | exact alloc_new2 X _ _ _
        · first
            | exact alloc_keep (alloc_keep (alloc_new X _) _) _
            | exact alloc_keep (alloc_new1 X _ _) _
            | exact alloc_new2 X _ _ _
        · exact (gr_allocB (gr_allocB (gr_allocB XL.out sX _) (by rw [alloc_size1]; omega) _) (by rw [alloc_size1, alloc_size1]; omega) _).drew
end Go.Proofs.Ytlclhialkpppeaa
