/- The law ScalarReckons (layer 22): it returns true. -/
import Derived.Test.YthalmomheecpcaaScaI
import Derived.Test.YthalmomheecpcaaScaR
import Derived.BigQuiet
namespace Go.Proofs.Ythalmomheecpcaa
open Go.RowKit
def numsL (ns : List Nat) : List Value := ns.flatMap numL
theorem numsL_snoc (ns : List Nat) (n : Nat) : numsL (ns ++ [n]) = numsL ns ++ numL n := by simp [numsL]
theorem numsL_len (ns : List Nat) : (numsL ns).length = ns.length * 4 := by
  induction ns with
  | nil => rfl
  | cons n t ih =>
    show (numL n ++ numsL t).length = _
    rw [List.length_append, ih, List.length_cons]
    simp [numL]
    omega
theorem numsL_get : ∀ (ns : List Nat) (i k : Nat), i < ns.length → k < 4 → (numsL ns)[i * 4 + k]? = some (.int .u64 (wd (ns.getD i 0) k : Int))
  | [], i, k, h, _ => absurd h (by simp)
  | n :: t, 0, k, _, hk => by
    show (numL n ++ numsL t)[0 * 4 + k]? = _
    rw [List.getElem?_append_left (by simp [numL]; omega), Nat.zero_mul, Nat.zero_add]
    exact numL_get n k hk
  | n :: t, i + 1, k, h, hk => by
    show (numL n ++ numsL t)[(i + 1) * 4 + k]? = _
    rw [List.getElem?_append_right (by simp [numL]; omega)]
    have e : (i + 1) * 4 + k - (numL n).length = i * 4 + k := by simp [numL]; omega
    rw [e, numsL_get t i k (by simpa using h) hk]
    rfl
theorem own_nums {w : World} {base k : Nat} {v : Value} {ns : List Nat} (h : w.ownsRow base 25 4 v k (numsL ns)) (hk : ns.length = k) (hn : ∀ n ∈ ns, n < B64 ^ 4) : ∃ a cap, v = .slice a k cap ∧ IsNums w a k ns := by
  obtain ⟨_, ⟨rfl, h0⟩ | ⟨g, cap, cur, rfl, h1, h2, h3, h4, h5, h6⟩⟩ := h
  · subst h0
    exact ⟨none, 0, rfl, hk, hn, fun h => absurd h (by omega)⟩
  · refine ⟨_, cap, rfl, hk, hn, fun _ => ⟨g, rfl, lt_blk h2, fun i j hi hj => ?_⟩⟩
    have hx : (cur.toList.take (k * 4))[i * 4 + j]? = (numsL ns)[i * 4 + j]? := congrArg (fun l : List Value => l[i * 4 + j]?) h6
    rw [List.getElem?_take, if_pos (by omega), numsL_get ns i j (by omega) hj] at hx
    have hc : w.cell? ⟨g, i * 4 + j, none⟩ = cur.toList[i * 4 + j]? := by simp [World.cell?, h2]
    rw [hc, hx]
theorem Try.info_num : (Try.prog.info? 25).map (fun i => (i.zero, i.size, i.bytes)) = some (some (.agg #[.int .u64 0, .int .u64 0, .int .u64 0, .int .u64 0]), 4, 32) := by kernel_rfl
def sumF (l : List Nat) : Nat := l.foldl (fun a b => (a + b) % LN) 0
def prodF (l : List Nat) : Nat := l.foldl (fun a b => a * b % LN) 1
theorem sumF_lt (l : List Nat) : sumF l < B64 ^ 4 := by
  rcases l.eq_nil_or_concat with rfl | ⟨t, x, rfl⟩
  · decide
  · unfold sumF
    rw [List.concat_eq_append, List.foldl_append]
    exact mod_LN_lt _
theorem prodF_lt (l : List Nat) : prodF l < B64 ^ 4 := by
  rcases l.eq_nil_or_concat with rfl | ⟨t, x, rfl⟩
  · decide
  · unfold prodF
    rw [List.concat_eq_append, List.foldl_append]
    exact mod_LN_lt _
theorem sumF_snoc (l : List Nat) (x : Nat) : sumF (l ++ [x]) = (sumF l + x) % LN := by simp [sumF]
theorem prodF_snoc (l : List Nat) (x : Nat) : prodF (l ++ [x]) = prodF l * x % LN := by simp [prodF]
theorem news4 (w : World) (n : Nat) (t : TypeId) : ∀ j u, (numL n)[j]? = some u → (w.alloc (.cells #[.int .u64 (wd n 0 : Int), .int .u64 (wd n 1 : Int), .int .u64 (wd n 2 : Int), .int .u64 (wd n 3 : Int)] t)).cell? ((⟨w.heap.size, 0, none⟩ : Addr).add j) = some u := fun j u h => news_new w #[.int .u64 (wd n 0 : Int), .int .u64 (wd n 1 : Int), .int .u64 (wd n 2 : Int), .int .u64 (wd n 3 : Int)] t j u h
theorem own_far4 {w : World} {base c : Nat} {e : TypeId} {sz n : Nat} {v v0 v1 v2 v3 : Value} {xs : List Value} (h : w.ownsRow base e sz v n xs) (hc : c < base) : ((((w.setCell ⟨c, 0, none⟩ v0).setCell ⟨c, 1, none⟩ v1).setCell ⟨c, 2, none⟩ v2).setCell ⟨c, 3, none⟩ v3).ownsRow base e sz v n xs := by
  obtain ⟨hl, h0 | ⟨g, cap, cur, rfl, hg, hh, r⟩⟩ := h
  · exact ⟨hl, .inl h0⟩
  · exact ⟨hl, .inr ⟨g, cap, cur, rfl, hg, (set4_far (show g ≠ c by omega)).trans hh, r⟩⟩
theorem drew_keep {w : World} {b : Nat} {o : Obj} (h : w.heap[b]? = some o) : w.drew.heap[b]? = some o := h
theorem b_call {N : Nat} {w W W' : World} (hN : N = w.heap.size) (B : Below N w W) (hb : Below W.heap.size W W') : Below N w W' := B.trans (hb.mono (by subst hN; exact B.size))
theorem two_of {W : World} {b p q : Nat} (h : W.heap[b]? = some (.cells #[.int .u64 (wd p 0 : Int), .int .u64 (wd p 1 : Int), .int .u64 (wd p 2 : Int), .int .u64 (wd p 3 : Int), .int .u64 (wd q 0 : Int), .int .u64 (wd q 1 : Int), .int .u64 (wd q 2 : Int), .int .u64 (wd q 3 : Int)] 25 (0, 0))) (hp : p < B64 ^ 4) (hq : q < B64 ^ 4) : IsNums W (some ⟨b, 0, none⟩) 2 [p, q] := by
  refine ⟨rfl, fun n hn => ?_, fun _ => ⟨b, rfl, lt_blk h, fun i k hi hk => ?_⟩⟩
  · simp at hn
    rcases hn with rfl | rfl <;> assumption
  · have hi2 : i = 0 ∨ i = 1 := by omega
    have hk4 : k = 0 ∨ k = 1 ∨ k = 2 ∨ k = 3 := by omega
    rcases hi2 with rfl | rfl <;> rcases hk4 with rfl | rfl | rfl | rfl <;> simp [World.cell?, h]
theorem sum_two (p q : Nat) (hp : p < B64 ^ 4) (hq : q < B64 ^ 4) (b : Nat) (W : World) (h : W.heap[b]? = some (.cells #[.int .u64 (wd p 0 : Int), .int .u64 (wd p 1 : Int), .int .u64 (wd p 2 : Int), .int .u64 (wd p 3 : Int), .int .u64 (wd q 0 : Int), .int .u64 (wd q 1 : Int), .int .u64 (wd q 2 : Int), .int .u64 (wd q 3 : Int)] 25 (0, 0))) :
    Calls Try.prog 17 #[.slice (some ⟨b, 0, none⟩) 2 2] W fun e w' => e = .returned (numV ((p + q) % LN)) ∧ Below W.heap.size W w' := by
  have h2 := scasum_any (some ⟨b, 0, none⟩) 2 2 [p, q] W (by omega) (two_of h hp hq)
  have e : List.foldl (fun a b => (a + b) % LN) 0 [p, q] = (p + q) % LN := by simp [Nat.add_mod]
  rw [e] at h2
  exact h2
theorem prod_two (p q : Nat) (hp : p < B64 ^ 4) (hq : q < B64 ^ 4) (b : Nat) (W : World) (h : W.heap[b]? = some (.cells #[.int .u64 (wd p 0 : Int), .int .u64 (wd p 1 : Int), .int .u64 (wd p 2 : Int), .int .u64 (wd p 3 : Int), .int .u64 (wd q 0 : Int), .int .u64 (wd q 1 : Int), .int .u64 (wd q 2 : Int), .int .u64 (wd q 3 : Int)] 25 (0, 0))) :
    Calls Try.prog 18 #[.slice (some ⟨b, 0, none⟩) 2 2] W fun e w' => e = .returned (numV (p * q % LN)) ∧ Below W.heap.size W w' := by
  have h2 := scaprod_any (some ⟨b, 0, none⟩) 2 2 [p, q] W (by omega) (two_of h hp hq)
  have e : List.foldl (fun a b => a * b % LN) 1 [p, q] = p * q % LN := by
    show 1 * p % LN * q % LN = _
    rw [Nat.one_mul, Nat.mul_mod (p % LN) q, Nat.mod_mod, ← Nat.mul_mod]
  rw [e] at h2
  exact h2
theorem spread (x y z : Nat) : (x * y % LN + x * z % LN) % LN = x * ((y + z) % LN) % LN := by
  rw [← Nat.add_mod, ← Nat.mul_add, Nat.mul_mod x ((y + z) % LN), Nat.mod_mod, ← Nat.mul_mod]
def G12 (w : World) (g x y z : Nat) : Prop := w.cell? ⟨g, 0, none⟩ = some (.int .u64 (wd x 0 : Int)) ∧ w.cell? ⟨g, 1, none⟩ = some (.int .u64 (wd x 1 : Int)) ∧ w.cell? ⟨g, 2, none⟩ = some (.int .u64 (wd x 2 : Int)) ∧ w.cell? ⟨g, 3, none⟩ = some (.int .u64 (wd x 3 : Int)) ∧ w.cell? ⟨g, 4, none⟩ = some (.int .u64 (wd y 0 : Int)) ∧ w.cell? ⟨g, 5, none⟩ = some (.int .u64 (wd y 1 : Int)) ∧ w.cell? ⟨g, 6, none⟩ = some (.int .u64 (wd y 2 : Int)) ∧ w.cell? ⟨g, 7, none⟩ = some (.int .u64 (wd y 3 : Int)) ∧ w.cell? ⟨g, 8, none⟩ = some (.int .u64 (wd z 0 : Int)) ∧ w.cell? ⟨g, 9, none⟩ = some (.int .u64 (wd z 1 : Int)) ∧ w.cell? ⟨g, 10, none⟩ = some (.int .u64 (wd z 2 : Int)) ∧ w.cell? ⟨g, 11, none⟩ = some (.int .u64 (wd z 3 : Int))
theorem G12.map {w w' : World} {g x y z : Nat} (h : G12 w g x y z) (f : ∀ {j : Nat} {v : Value}, w.cell? ⟨g, j, none⟩ = some v → w'.cell? ⟨g, j, none⟩ = some v) : G12 w' g x y z := ⟨f h.1, f h.2.1, f h.2.2.1, f h.2.2.2.1, f h.2.2.2.2.1, f h.2.2.2.2.2.1, f h.2.2.2.2.2.2.1, f h.2.2.2.2.2.2.2.1, f h.2.2.2.2.2.2.2.2.1, f h.2.2.2.2.2.2.2.2.2.1, f h.2.2.2.2.2.2.2.2.2.2.1, f h.2.2.2.2.2.2.2.2.2.2.2⟩
theorem cell_alloc2 {w : World} {p : Addr} {v : Value} (o : Obj) (h : w.cell? p = some v) : (w.alloc o).cell? p = some v := by
  rw [World.cell?_alloc_some w p o (by rw [h]; rfl)]
  exact h
theorem G12.alloc {w : World} {g x y z : Nat} (h : G12 w g x y z) (o : Obj) : G12 (w.alloc o) g x y z := h.map fun h => cell_alloc2 o h
theorem G12.drew {w : World} {g x y z : Nat} (h : G12 w g x y z) : G12 w.drew g x y z := h.map fun h => h
set_option linter.unusedSimpArgs false in
set_option maxRecDepth 20000 in
set_option maxHeartbeats 16000000 in
theorem scalarReckons_w (a : Option Addr) (len cap : Nat) (ns : List Nat) (w : World) (hrow : IsNumRow w a len ns) : Calls Try.prog 4 #[.slice a len cap] w fun e w' => e = .returned (.bool true) ∧ Below w.heap.size w w' := by
  by_cases h1 : 10 < len
  · have p1 : (10 : Int) < (len : Int) := by omega
    go_enter Try.func4, Try.ntmps4
    go_wp2_with fail
    refine (lives22 _).mono ?_
    rintro e w1 ⟨rfl, hb⟩
    go_wp2_with fail
    go_ret
    exact ⟨rfl, hb⟩
  · have p1 : ¬ (10 : Int) < (len : Int) := by omega
    obtain ⟨hlen, _, hns, hat⟩ := hrow
    have HAT := Lib.hid hat
    have HNS := Lib.hid hns
    clear hat hns
    have KLv := Lib.hid lives22
    obtain ⟨i0, hi, hz0, hz1, hz2⟩ := info_parts Try.info_num
    have xa : IsA ((w.alloc (.cells #[.int .u64 0, .int .u64 0, .int .u64 0, .int .u64 0] 24)).alloc (.cells #[.int .u64 1, .int .u64 0, .int .u64 0, .int .u64 0] 24)) w.heap.size 0 24 := isA_zero (alloc_keep (alloc_new w _) _)
    have xb : IsA ((w.alloc (.cells #[.int .u64 0, .int .u64 0, .int .u64 0, .int .u64 0] 24)).alloc (.cells #[.int .u64 1, .int .u64 0, .int .u64 0, .int .u64 0] 24)) (w.heap.size + 1) 1 24 := by
      unfold IsA
      rw [show wd 1 0 = 1 by decide +kernel, show wd 1 1 = 0 by decide +kernel, show wd 1 2 = 0 by decide +kernel, show wd 1 3 = 0 by decide +kernel]
      exact alloc_new1 w _ _
    have xB : Below w.heap.size w ((w.alloc (.cells #[.int .u64 0, .int .u64 0, .int .u64 0, .int .u64 0] 24)).alloc (.cells #[.int .u64 1, .int .u64 0, .int .u64 0, .int .u64 0] 24)) := gr_alloc (gr_alloc (Below.refl _ _) _) _
    go_enter Try.func4, Try.ntmps4
    go_wp2_with fail
    generalize (w.alloc (.cells #[.int .u64 0, .int .u64 0, .int .u64 0, .int .u64 0] 24)).alloc (.cells #[.int .u64 1, .int .u64 0, .int .u64 0, .int .u64 0] 24) = X at xa xb xB ⊢
    go_loopw [5, 19] (fun v i wr => ∃ k : Nat, k ≤ len ∧ i = .int .i64 (k : Int) ∧ IsA wr w.heap.size (sumF (ns.take k)) 24 ∧ IsA wr (w.heap.size + 1) (prodF (ns.take k)) 24 ∧ wr.ownsRow (w.heap.size + 2) 25 4 v k (numsL (ns.take k)) ∧ Below w.heap.size w wr) (fun _ i _ => len - (Go.RowKit.intOf i).toNat)
    case atStart => exact ⟨0, by omega, rfl, xa, xb, World.ownsRow_nil _ _ _ _, xB⟩
    case round =>
      clear xa xb xB
      obtain ⟨k, hk, rfl, ra, rb, hown, hbe⟩ := hrel
      have hzr : w.heap.size + 2 ≤ wr.heap.size := by have := lt_blk rb; omega
      by_cases hlt : k < len
      · have p2 : (k : Int) < (len : Int) := by omega
        obtain ⟨b, off, rfl, hb, hc⟩ := HAT.out (by omega)
        have c0 : wr.cell? ⟨b, off + k * 4, none⟩ = _ := (hbe.cell (p := ⟨b, off + k * 4, none⟩) hb).trans (hc k 0 hlt (by omega))
        have c1 := (hbe.cell (p := ⟨b, off + k * 4 + 1, none⟩) hb).trans (hc k 1 hlt (by omega))
        have c2 := (hbe.cell (p := ⟨b, off + k * 4 + 2, none⟩) hb).trans (hc k 2 hlt (by omega))
        have c3 := (hbe.cell (p := ⟨b, off + k * 4 + 3, none⟩) hb).trans (hc k 3 hlt (by omega))
        have hkn : k < ns.length := by omega
        have hx : ns.getD k 0 < B64 ^ 4 := by
          rw [List.getD_eq_getElem?_getD, List.getElem?_eq_getElem hkn]
          exact HNS.out _ (List.getElem_mem hkn)
        have htk : ns.take (k + 1) = ns.take k ++ [ns.getD k 0] := by
          rw [List.take_succ_eq_append_getElem hkn, List.getD_eq_getElem?_getD, List.getElem?_eq_getElem hkn]
          rfl
        have hs1 := sumF_snoc (ns.take k) (ns.getD k 0)
        have hs2 := prodF_snoc (ns.take k) (ns.getD k 0)
        rw [← htk] at hs1 hs2
        have KS := Lib.hid (fun w => rsum_any (sumF (ns.take k)) (ns.getD k 0) w (sumF_lt _) hx)
        have KP := Lib.hid (fun w => rproduct_any (prodF (ns.take k)) (ns.getD k 0) w (prodF_lt _) hx)
        rw [← hs1] at KS
        rw [← hs2] at KP
        have HTK := Lib.hid htk
        obtain ⟨A, hA⟩ : ∃ A, sumF (ns.take k) = A := ⟨_, rfl⟩
        obtain ⟨B, hB⟩ : ∃ B, prodF (ns.take k) = B := ⟨_, rfl⟩
        obtain ⟨A2, hA2⟩ : ∃ A2, sumF (ns.take (k + 1)) = A2 := ⟨_, rfl⟩
        obtain ⟨B2, hB2⟩ : ∃ B2, prodF (ns.take (k + 1)) = B2 := ⟨_, rfl⟩
        obtain ⟨Y, hY⟩ : ∃ Y, ns.getD k 0 = Y := ⟨_, rfl⟩
        rw [hA, hA2, hY] at KS
        rw [hB, hB2, hY] at KP
        rw [hA] at ra
        rw [hB] at rb
        rw [hY] at c0 c1 c2 c3 HTK
        have HA2 := Lib.hid hA2
        have HB2 := Lib.hid hB2
        simp only [numV_agg] at KS KP
        have ra1 := Lib.hid (ra.alloc (.cells #[.int .u64 (wd Y 0 : Int), .int .u64 (wd Y 1 : Int), .int .u64 (wd Y 2 : Int), .int .u64 (wd Y 3 : Int)] 24))
        have rb1 := Lib.hid (rb.alloc (.cells #[.int .u64 (wd Y 0 : Int), .int .u64 (wd Y 1 : Int), .int .u64 (wd Y 2 : Int), .int .u64 (wd Y 3 : Int)] 24))
        have ry1 : Hid (IsA (wr.alloc (.cells #[.int .u64 (wd Y 0 : Int), .int .u64 (wd Y 1 : Int), .int .u64 (wd Y 2 : Int), .int .u64 (wd Y 3 : Int)] 24)) wr.heap.size Y 24) := (alloc_new wr _ :)
        have ow1 := Lib.hid (hown.alloc (.cells #[.int .u64 (wd Y 0 : Int), .int .u64 (wd Y 1 : Int), .int .u64 (wd Y 2 : Int), .int .u64 (wd Y 3 : Int)] 24))
        have hb1 := Lib.hid (gr_alloc hbe (.cells #[.int .u64 (wd Y 0 : Int), .int .u64 (wd Y 1 : Int), .int .u64 (wd Y 2 : Int), .int .u64 (wd Y 3 : Int)] 24))
        clear hc hx htk hs1 hs2 hA hB hA2 hB2 hY hkn ra rb hown hbe
        go_wp2_with fail
        generalize wr.alloc (.cells #[.int .u64 (wd Y 0 : Int), .int .u64 (wd Y 1 : Int), .int .u64 (wd Y 2 : Int), .int .u64 (wd Y 3 : Int)] 24) = V at ra1 rb1 ry1 ow1 hb1 ⊢
        obtain ⟨⟨p0, p1', p2', p3⟩, _⟩ := fourV ra1.out
        obtain ⟨⟨q0, q1, q2, q3⟩, _⟩ := fourV rb1.out
        obtain ⟨⟨y0, y1, y2, y3⟩, _⟩ := fourV ry1.out
        have hneA : wr.heap.size ≠ w.heap.size := by omega
        have hneB : wr.heap.size ≠ w.heap.size + 1 := by omega
        refine wp_region_held_drew (S := fun w' => w'.cell? ⟨wr.heap.size, 0, none⟩ = some (.int .u64 (wd Y 0 : Int)) ∧ w'.cell? ⟨wr.heap.size, 1, none⟩ = some (.int .u64 (wd Y 1 : Int)) ∧ w'.cell? ⟨wr.heap.size, 2, none⟩ = some (.int .u64 (wd Y 2 : Int)) ∧ w'.cell? ⟨wr.heap.size, 3, none⟩ = some (.int .u64 (wd Y 3 : Int))) (by kernel_rfl) ⟨y0, y1, y2, y3⟩ (fun hHeld => ?_)
        refine wpAnyH_take (i := 1) (v := .agg #[.int .u64 (wd Y 0 : Int), .int .u64 (wd Y 1 : Int), .int .u64 (wd Y 2 : Int), .int .u64 (wd Y 3 : Int)]) rfl (by kernel_rfl) (by kernel_rfl) (by kernel_rfl) (fun _ _ _ h => h) (Or.inl ⟨by rfl, ?_⟩) (by assumption) ?_
        · intro w hSw
          (try dsimp only at hSw)
          go_simp
        try simp only [Act.put, List.setIfInBounds_toArray, List.set_cons_zero, List.set_cons_succ]
        refine wpAnyH_take (i := 4) (v := .agg #[.int .u64 (wd Y 0 : Int), .int .u64 (wd Y 1 : Int), .int .u64 (wd Y 2 : Int), .int .u64 (wd Y 3 : Int)]) rfl (by kernel_rfl) (by kernel_rfl) (by kernel_rfl) (fun _ _ _ h => h) (Or.inl ⟨by rfl, ?_⟩) (by assumption) ?_
        · intro w hSw
          (try dsimp only at hSw)
          go_simp
        try simp only [Act.put, List.setIfInBounds_toArray, List.set_cons_zero, List.set_cons_succ]
        iterate 6
          all_goals
            (first | (refine wpAnyH_ready (rs := [0, 3]) (by decide +kernel) (by simp) ?_; refine AllReadyH.cons rfl (fun K hK => ?_) (AllReadyH.cons rfl (fun K hK => ?_) AllReadyH.nil)) | (refine wpAnyH_ready (rs := [2, 3]) (by decide +kernel) (by simp) ?_; refine AllReadyH.cons rfl (fun K hK => ?_) (AllReadyH.cons rfl (fun K hK => ?_) AllReadyH.nil)) | (refine wpAnyH_ready (rs := [0]) (by decide +kernel) (by simp) ?_; refine AllReadyH.cons rfl (fun K hK => ?_) AllReadyH.nil) | (refine wpAnyH_ready (rs := [2]) (by decide +kernel) (by simp) ?_; refine AllReadyH.cons rfl (fun K hK => ?_) AllReadyH.nil) | (refine wpAnyH_ready (rs := [3]) (by decide +kernel) (by simp) ?_; refine AllReadyH.cons rfl (fun K hK => ?_) AllReadyH.nil) | (refine wpAnyH_ready (rs := [5]) (by decide +kernel) (by simp) ?_; refine AllReadyH.cons rfl (fun K hK => ?_) AllReadyH.nil) | (refine wpAnyH_ready (rs := [6]) (by decide +kernel) (by simp) ?_; refine AllReadyH.cons rfl (fun K hK => ?_) AllReadyH.nil) | (refine wpAnyH_ready (rs := [7]) (by decide +kernel) (by simp) ?_; refine AllReadyH.cons rfl (fun K hK => ?_) AllReadyH.nil))
          all_goals
            go_simp
            (first
              | (go_at_call 15; go_must (refine (KS.out _).mono ?_); rintro e w3 ⟨rfl, hb3⟩
                 have ra3 := (show IsA V.drew _ _ _ from ra1.out).keep hb3
                 have rb3 := (show IsA V.drew _ _ _ from rb1.out).keep hb3
                 have ry3 := (show IsA V.drew _ _ _ from ry1.out).keep hb3
                 have ow3 := owns_below (show V.drew.ownsRow _ _ _ _ _ _ from ow1.out) hb3
                 have B3 := hb1.out.drew.trans (hb3.mono hb1.out.size)
                 obtain ⟨⟨m0, m1, m2, m3⟩, _⟩ := fourV rb3
                 go_wp2_with fail)
              | (go_at_call 16; go_must (refine (KP.out _).mono ?_); rintro e w4 ⟨rfl, hb4⟩
                 have ra4 := ra3.keep hb4
                 have rb4 := rb3.keep hb4
                 have ry4 := ry3.keep hb4
                 have ow4 := owns_below ow3 hb4
                 have B4 := B3.trans (hb4.mono B3.size)
                 obtain ⟨⟨d0, d1, d2, d3⟩, e0, e1, e2, e3⟩ := fourV ra4
                 obtain ⟨⟨f0, f1, f2, f3⟩, g0, g1, g2, g3⟩ := fourV rb4
                 go_wp2_with fail)
              | skip)
            refine hK.out _ _ ?_ (fun hHeld => ?_)
            · (try dsimp only)
              (first | (with_reducible exact hHeld) | (with_reducible exact cells4 ry3) | (with_reducible exact cells4 ry4) | (with_reducible exact cells4 (ry4.far hneA)) | (with_reducible exact cells4 ((ry4.far hneA).far hneB)) | (exact ⟨y0, y1, y2, y3⟩))
            clear hK K
            try simp only [Act.put, List.setIfInBounds_toArray, List.set_cons_zero, List.set_cons_succ]
        all_goals
          refine wpAnyH_done (by kernel_rfl) ?_ _
        all_goals
          have ra5 := (isA_set (n := A2) ra4).far (c := w.heap.size + 1) (v0 := .int .u64 (wd B2 0 : Int)) (v1 := .int .u64 (wd B2 1 : Int)) (v2 := .int .u64 (wd B2 2 : Int)) (v3 := .int .u64 (wd B2 3 : Int)) (by omega)
          have rb5 := isA_set (n := B2) (rb4.far (c := w.heap.size) (v0 := .int .u64 (wd A2 0 : Int)) (v1 := .int .u64 (wd A2 1 : Int)) (v2 := .int .u64 (wd A2 2 : Int)) (v3 := .int .u64 (wd A2 3 : Int)) (by omega))
          have ry5 := (ry4.far (c := w.heap.size) (v0 := .int .u64 (wd A2 0 : Int)) (v1 := .int .u64 (wd A2 1 : Int)) (v2 := .int .u64 (wd A2 2 : Int)) (v3 := .int .u64 (wd A2 3 : Int)) hneA).far (c := w.heap.size + 1) (v0 := .int .u64 (wd B2 0 : Int)) (v1 := .int .u64 (wd B2 1 : Int)) (v2 := .int .u64 (wd B2 2 : Int)) (v3 := .int .u64 (wd B2 3 : Int)) hneB
          have ow5 := own_far4 (c := w.heap.size + 1) (v0 := .int .u64 (wd B2 0 : Int)) (v1 := .int .u64 (wd B2 1 : Int)) (v2 := .int .u64 (wd B2 2 : Int)) (v3 := .int .u64 (wd B2 3 : Int)) (own_far4 (c := w.heap.size) (v0 := .int .u64 (wd A2 0 : Int)) (v1 := .int .u64 (wd A2 1 : Int)) (v2 := .int .u64 (wd A2 2 : Int)) (v3 := .int .u64 (wd A2 3 : Int)) ow4 (by omega)) (by omega)
          have B5 := set4_below (b := w.heap.size + 1) (v0 := .int .u64 (wd B2 0 : Int)) (v1 := .int .u64 (wd B2 1 : Int)) (v2 := .int .u64 (wd B2 2 : Int)) (v3 := .int .u64 (wd B2 3 : Int)) (set4_below (b := w.heap.size) (v0 := .int .u64 (wd A2 0 : Int)) (v1 := .int .u64 (wd A2 1 : Int)) (v2 := .int .u64 (wd A2 2 : Int)) (v3 := .int .u64 (wd A2 3 : Int)) B4 (Nat.le_refl _)) (by omega)
          clear ra3 rb3 ry3 ow3 B3 ra4 rb4 ry4 ow4 B4 hb3 hb4 d0 d1 d2 d3 e0 e1 e2 e3 f0 f1 f2 f3 g0 g1 g2 g3 m0 m1 m2 m3 p0 p1' p2' p3 q0 q1 q2 q3 y0 y1 y2 y3
          generalize (((((((w4.setCell ⟨w.heap.size, 0, none⟩ (.int .u64 (wd A2 0 : Int))).setCell ⟨w.heap.size, 1, none⟩ (.int .u64 (wd A2 1 : Int))).setCell ⟨w.heap.size, 2, none⟩ (.int .u64 (wd A2 2 : Int))).setCell ⟨w.heap.size, 3, none⟩ (.int .u64 (wd A2 3 : Int))).setCell ⟨w.heap.size + 1, 0, none⟩ (.int .u64 (wd B2 0 : Int))).setCell ⟨w.heap.size + 1, 1, none⟩ (.int .u64 (wd B2 1 : Int))).setCell ⟨w.heap.size + 1, 2, none⟩ (.int .u64 (wd B2 2 : Int))).setCell ⟨w.heap.size + 1, 3, none⟩ (.int .u64 (wd B2 3 : Int)) = U at ra5 rb5 ry5 ow5 B5 ⊢
          obtain ⟨⟨y0, y1, y2, y3⟩, _⟩ := fourV ry5
          have hzU : w.heap.size + 2 ≤ U.heap.size := by have := lt_blk rb5; omega
          have RA5 := Lib.hid ra5
          have RB5 := Lib.hid rb5
          have OW5 := Lib.hid ow5
          have BB5 := Lib.hid B5
          clear ra5 rb5 ry5 ow5 B5 ra1 rb1 ry1 ow1 hb1 hneA hneB
          go_wp2_with (at_builtin; refine wpList_append_own _ (by rfl) (.tmp 29) (.tmp 31) 37 (by rfl) (w.heap.size + 2) 25 i0 (.agg #[.int .u64 0, .int .u64 0, .int .u64 0, .int .u64 0]) 4 32 Try.underlying37 hi hz0 hz1 hz2 rfl (by decide) _ k _ (by simp [Act.eval]; rfl) (by exact OW5.out.alloc _) ⟨U.heap.size, 0, none⟩ 1 1 (numL Y) (by simp [Act.eval]) rfl (by exact news4 U Y _) (by simp [Value.oneCell', numL]) (by unfold maxLen; omega) (by omega) (by simp; omega) ?_; intro v3 w6 hown6 hgrow6 _)
          go_roundw
          case rel =>
            have hA : IsA w6 w.heap.size A2 24 := (RA5.out.alloc _).grown hgrow6 (fun e => by have := (OW5.out.lt _ e.symm).1; omega)
            have hB : IsA w6 (w.heap.size + 1) B2 24 := (RB5.out.alloc _).grown hgrow6 (fun e => by have := (OW5.out.lt _ e.symm).1; omega)
            refine ⟨k + 1, by omega, congrArg (Value.int .i64) (by omega), by rw [HA2.out]; exact hA, by rw [HB2.out]; exact hB, by rw [HTK.out, numsL_snoc]; exact hown6, (gr_alloc BB5.out _).grown hgrow6 (by rw [alloc_size1]; omega) (fun j hj => by have := (OW5.out.lt j hj).1; omega)⟩
          case measure =>
            simp [Go.RowKit.intOf]
            omega
      · obtain rfl : k = len := by omega
        have p2 : ¬ (k : Int) < (k : Int) := by omega
        have hall : ns.take k = ns := List.take_of_length_le (by omega)
        rw [hall] at ra rb hown
        obtain ⟨a1, c1, rfl, hn1⟩ := own_nums hown hlen HNS.out
        have HMIX := Lib.hid (show Try.prog.follows .mixedOrders = true by kernel_rfl)
        have KS := Lib.hid (fun d os => scasum_any a1 k c1 ns (Sort.grow (redrawn wr d) os) (by omega) (hn1.below (below_regrown wr d os)))
        have KP := Lib.hid (fun d os => scaprod_any a1 k c1 ns (Sort.grow (redrawn wr d) os) (by omega) (hn1.below (below_regrown wr d os)))
        rw [show List.foldl (fun a b => (a + b) % LN) 0 ns = sumF ns from rfl] at KS
        rw [show List.foldl (fun a b => a * b % LN) 1 ns = prodF ns from rfl] at KP
        obtain ⟨A, hA⟩ : ∃ A, sumF ns = A := ⟨_, rfl⟩
        obtain ⟨B, hB⟩ : ∃ B, prodF ns = B := ⟨_, rfl⟩
        rw [hA] at ra KS
        rw [hB] at rb KP
        have kq1 := eql_same A
        have kq2 := eql_same B
        simp only [numV_agg] at KS KP
        have CA := fun k (hk : k < 4) d os => cell_regrown (w := wr) (a := ⟨w.heap.size, k, none⟩) (show wr.cell? _ = some (.int .u64 (wd A k : Int)) by
          obtain ⟨⟨p0, p1, p2, p3⟩, _⟩ := fourV ra
          have : k = 0 ∨ k = 1 ∨ k = 2 ∨ k = 3 := by omega
          rcases this with rfl | rfl | rfl | rfl <;> assumption) d os
        have CB := fun k (hk : k < 4) d os => cell_regrown (w := wr) (a := ⟨w.heap.size + 1, k, none⟩) (show wr.cell? _ = some (.int .u64 (wd B k : Int)) by
          obtain ⟨⟨p0, p1, p2, p3⟩, _⟩ := fourV rb
          have : k = 0 ∨ k = 1 ∨ k = 2 ∨ k = 3 := by omega
          rcases this with rfl | rfl | rfl | rfl <;> assumption) d os
        have A0 := CA 0 (by omega)
        have A1 := CA 1 (by omega)
        have A2 := CA 2 (by omega)
        have A3 := CA 3 (by omega)
        have B0 := CB 0 (by omega)
        have B1 := CB 1 (by omega)
        have B2 := CB 2 (by omega)
        have B3 := CB 3 (by omega)
        have HN1 := Lib.hid hn1
        have HBE := Lib.hid hbe
        have hk10 : (k : Int) ≤ 10 := by omega
        clear CA CB ra rb hown hbe hn1 hall hA hB hi hz0 hz1 hz2 HAT
        go_wp2_with fail
        refine wp_region_quiet_below HMIX.out (by kernel_rfl) ?_
        repeat (go_big_quiet_step (first
          | (go_at_call 17; exact Calls.regrown_of (KS.out _ _))
          | (go_at_call 18; exact Calls.regrown_of (KP.out _ _))))
        refine wpQuiet_nil ?_
        intro _ hw'
        obtain ⟨⟨nq, osq⟩, hw''⟩ := hw'
        subst hw''
        have HB6 := Lib.hid (HBE.out.trans ((below_regrown wr nq osq).mono HBE.out.size))
        have HN6 := Lib.hid (HN1.out.below (below_regrown wr nq osq))
        clear KS KP A0 A1 A2 A3 B0 B1 B2 B3 kq1 kq2 HBE HN1
        generalize Sort.grow (redrawn wr nq) osq = W6 at HB6 HN6 ⊢
        by_cases h3 : k < 3
        · have q3 : (k : Int) < 3 := by omega
          go_wp2_with fail
          refine (KLv.out _).mono ?_
          rintro e w7 ⟨rfl, hb7⟩
          have BZ := Lib.hid (HB6.out.trans (hb7.mono HB6.out.size))
          clear hb7
          go_wp2_with fail
          go_ret
          exact ⟨rfl, BZ.out⟩
        · have q3 : ¬ (k : Int) < 3 := by omega
          have q0 : (0 : Int) < (k : Int) := by omega
          have q0n : 0 < k := by omega
          have q1 : (1 : Int) < (k : Int) := by omega
          have q2 : (2 : Int) < (k : Int) := by omega
          have l0 : 0 < ns.length := by omega
          have l1 : 1 < ns.length := by omega
          have l2 : 2 < ns.length := by omega
          obtain ⟨x, hx⟩ : ∃ x, ns.getD 0 0 = x := ⟨_, rfl⟩
          obtain ⟨y, hy⟩ : ∃ y, ns.getD 1 0 = y := ⟨_, rfl⟩
          obtain ⟨z, hz⟩ : ∃ z, ns.getD 2 0 = z := ⟨_, rfl⟩
          have HX : Hid (x < B64 ^ 4) := by show _ < _; rw [← hx, List.getD_eq_getElem?_getD, List.getElem?_eq_getElem l0]; exact HNS.out _ (List.getElem_mem l0)
          have HY : Hid (y < B64 ^ 4) := by show _ < _; rw [← hy, List.getD_eq_getElem?_getD, List.getElem?_eq_getElem l1]; exact HNS.out _ (List.getElem_mem l1)
          have HZ : Hid (z < B64 ^ 4) := by show _ < _; rw [← hz, List.getD_eq_getElem?_getD, List.getElem?_eq_getElem l2]; exact HNS.out _ (List.getElem_mem l2)
          obtain ⟨g, rfl, hg, hc⟩ := HN6.out.at_ (by omega)
          have cx := fun j hj => hc 0 j (by omega) hj
          have cy := fun j hj => hc 1 j (by omega) hj
          have cz := fun j hj => hc 2 j (by omega) hj
          rw [hx] at cx
          rw [hy] at cy
          rw [hz] at cz
          have x0 : W6.cell? ⟨g, 0, none⟩ = _ := cx 0 (by omega)
          have x1 : W6.cell? ⟨g, 1, none⟩ = _ := cx 1 (by omega)
          have x2 : W6.cell? ⟨g, 2, none⟩ = _ := cx 2 (by omega)
          have x3 : W6.cell? ⟨g, 3, none⟩ = _ := cx 3 (by omega)
          have y0 : W6.cell? ⟨g, 4, none⟩ = _ := cy 0 (by omega)
          have y1 : W6.cell? ⟨g, 5, none⟩ = _ := cy 1 (by omega)
          have y2 : W6.cell? ⟨g, 6, none⟩ = _ := cy 2 (by omega)
          have y3 : W6.cell? ⟨g, 7, none⟩ = _ := cy 3 (by omega)
          have z0 : W6.cell? ⟨g, 8, none⟩ = _ := cz 0 (by omega)
          have z1 : W6.cell? ⟨g, 9, none⟩ = _ := cz 1 (by omega)
          have z2 : W6.cell? ⟨g, 10, none⟩ = _ := cz 2 (by omega)
          have z3 : W6.cell? ⟨g, 11, none⟩ = _ := cz 3 (by omega)
          clear cx cy cz hc hx hy hz l0 l1 l2 HN6
          go_wp2_with fail
          go_cut [8, 9, 10] (fun s8 s9 s10 wc => ∃ bx bY bz, s8 = .pointer (some ⟨bx, 0, none⟩) ∧ s9 = .pointer (some ⟨bY, 0, none⟩) ∧ s10 = .pointer (some ⟨bz, 0, none⟩) ∧ IsA wc bx x 25 ∧ IsA wc bY y 25 ∧ IsA wc bz z 25 ∧ Below w.heap.size w wc)
          case rest =>
            obtain ⟨bx, bY, bz, rfl, rfl, rfl, rx, ry, rz, hbc⟩ := hcut
            have KS1 := Lib.hid (sum_two y z HY.out HZ.out)
            have KP1 := Lib.hid (prod_two x ((y + z) % LN) HX.out (mod_LN_lt _))
            have KP2 := Lib.hid (prod_two x y HX.out HY.out)
            have KP3 := Lib.hid (prod_two x z HX.out HZ.out)
            have KS2 := Lib.hid (sum_two (x * y % LN) (x * z % LN) (mod_LN_lt _) (mod_LN_lt _))
            rw [spread x y z] at KS2
            obtain ⟨s1, hs1⟩ : ∃ s1, (y + z) % LN = s1 := ⟨_, rfl⟩
            rw [hs1] at KS1 KP1 KS2
            obtain ⟨V, hV⟩ : ∃ V, x * s1 % LN = V := ⟨_, rfl⟩
            rw [hV] at KP1 KS2
            obtain ⟨m1, hm1⟩ : ∃ m1, x * y % LN = m1 := ⟨_, rfl⟩
            rw [hm1] at KP2 KS2
            obtain ⟨m2, hm2⟩ : ∃ m2, x * z % LN = m2 := ⟨_, rfl⟩
            rw [hm2] at KP3 KS2
            have kq := eql_same V
            simp only [numV_agg] at KS1 KP1 KP2 KP3 KS2
            clear hs1 hV hm1 hm2 x0 x1 x2 x3 y0 y1 y2 y3 z0 z1 z2 z3 hg HB6 HX HY HZ HNS HMIX q0 q1 q2 q3 hk10 h1 h3 p1 p2 hlen hlt i0
            have hc0 := cells12 rx ry rz
            go_wp2_with fail
            rename_i aa KK bb
            have HBB := Lib.hid bb
            clear aa bb
            go_region_held3 (fun w' => w'.cell? ⟨bx, 0, none⟩ = some (.int .u64 (wd x 0 : Int)) ∧ w'.cell? ⟨bx, 1, none⟩ = some (.int .u64 (wd x 1 : Int)) ∧ w'.cell? ⟨bx, 2, none⟩ = some (.int .u64 (wd x 2 : Int)) ∧ w'.cell? ⟨bx, 3, none⟩ = some (.int .u64 (wd x 3 : Int)) ∧ w'.cell? ⟨bY, 0, none⟩ = some (.int .u64 (wd y 0 : Int)) ∧ w'.cell? ⟨bY, 1, none⟩ = some (.int .u64 (wd y 1 : Int)) ∧ w'.cell? ⟨bY, 2, none⟩ = some (.int .u64 (wd y 2 : Int)) ∧ w'.cell? ⟨bY, 3, none⟩ = some (.int .u64 (wd y 3 : Int)) ∧ w'.cell? ⟨bz, 0, none⟩ = some (.int .u64 (wd z 0 : Int)) ∧ w'.cell? ⟨bz, 1, none⟩ = some (.int .u64 (wd z 1 : Int)) ∧ w'.cell? ⟨bz, 2, none⟩ = some (.int .u64 (wd z 2 : Int)) ∧ w'.cell? ⟨bz, 3, none⟩ = some (.int .u64 (wd z 3 : Int))) (first | (with_reducible exact hc0) | (refine cells12 (t1 := 25) (t2 := 25) (t3 := 25) ?_ ?_ ?_ <;> (with_reducible (repeat (first | assumption | refine IsA.drew ?_ | refine IsA.alloc ?_ _ | refine IsA.keep ?_ hb3 | refine IsA.keep ?_ hb4 | refine IsA.keep ?_ hb5 | refine IsA.keep ?_ hb6 | refine IsA.keep ?_ hb7 | refine IsA.keep ?_ hb8)))) | go_keep) (first
              | (go_at_call 17; refine (KS1.out _ _ ?_).mono ?_; (focus ((with_reducible (repeat (first | exact alloc_new _ _ | exact alloc_new1 _ _ _ | exact alloc_new2 _ _ _ _ | refine drew_keep ?_ | refine alloc_keep ?_ _ | refine keep ?_ hb3 | refine keep ?_ hb4 | refine keep ?_ hb5 | refine keep ?_ hb6 | refine keep ?_ hb7 | refine keep ?_ hb8))); done)); rintro e w3 ⟨rfl, hb3⟩
                 have B3 := b_call (w := w) rfl (by (with_reducible (repeat (first | assumption | refine Below.drew ?_ | refine gr_alloc ?_ _)))) hb3)
              | (go_at_call 17; refine (KS2.out _ _ ?_).mono ?_; (focus ((with_reducible (repeat (first | exact alloc_new _ _ | exact alloc_new1 _ _ _ | exact alloc_new2 _ _ _ _ | refine drew_keep ?_ | refine alloc_keep ?_ _ | refine keep ?_ hb3 | refine keep ?_ hb4 | refine keep ?_ hb5 | refine keep ?_ hb6 | refine keep ?_ hb7 | refine keep ?_ hb8))); done)); rintro e w7 ⟨rfl, hb7⟩
                 have B7 := b_call (w := w) rfl (by (with_reducible (repeat (first | assumption | refine Below.drew ?_ | refine gr_alloc ?_ _)))) hb7)
              | (go_at_call 18; refine (KP1.out _ _ ?_).mono ?_; (focus ((with_reducible (repeat (first | exact alloc_new _ _ | exact alloc_new1 _ _ _ | exact alloc_new2 _ _ _ _ | refine drew_keep ?_ | refine alloc_keep ?_ _ | refine keep ?_ hb3 | refine keep ?_ hb4 | refine keep ?_ hb5 | refine keep ?_ hb6 | refine keep ?_ hb7 | refine keep ?_ hb8))); done)); rintro e w4 ⟨rfl, hb4⟩
                 have B4 := b_call (w := w) rfl (by (with_reducible (repeat (first | assumption | refine Below.drew ?_ | refine gr_alloc ?_ _)))) hb4)
              | (go_at_call 18; refine (KP2.out _ _ ?_).mono ?_; (focus ((with_reducible (repeat (first | exact alloc_new _ _ | exact alloc_new1 _ _ _ | exact alloc_new2 _ _ _ _ | refine drew_keep ?_ | refine alloc_keep ?_ _ | refine keep ?_ hb3 | refine keep ?_ hb4 | refine keep ?_ hb5 | refine keep ?_ hb6 | refine keep ?_ hb7 | refine keep ?_ hb8))); done)); rintro e w5 ⟨rfl, hb5⟩
                 have B5 := b_call (w := w) rfl (by (with_reducible (repeat (first | assumption | refine Below.drew ?_ | refine gr_alloc ?_ _)))) hb5)
              | (go_at_call 18; refine (KP3.out _ _ ?_).mono ?_; (focus ((with_reducible (repeat (first | exact alloc_new _ _ | exact alloc_new1 _ _ _ | exact alloc_new2 _ _ _ _ | refine drew_keep ?_ | refine alloc_keep ?_ _ | refine keep ?_ hb3 | refine keep ?_ hb4 | refine keep ?_ hb5 | refine keep ?_ hb6 | refine keep ?_ hb7 | refine keep ?_ hb8))); done)); rintro e w6 ⟨rfl, hb6⟩
                 have B6 := b_call (w := w) rfl (by (with_reducible (repeat (first | assumption | refine Below.drew ?_ | refine gr_alloc ?_ _)))) hb6)
              | (go_at_call 5; refine (KLv.out _).mono ?_; rintro e w8 ⟨rfl, hb8⟩
                 have B8 := b_call (w := w) rfl (by (with_reducible (repeat (first | assumption | refine Below.drew ?_ | refine gr_alloc ?_ _)))) hb8))

            all_goals
              rename_i hH
              have bb := HBB.out
              clear hH HBB
              go_wp2_with fail
              go_ret
              exact ⟨rfl, by assumption⟩
          case first =>
            have ng := World.new_ne W6 _ x0
            have hG : G12 W6 g x y z := ⟨x0, x1, x2, x3, y0, y1, y2, y3, z0, z1, z2, z3⟩
            have HG := Lib.hid hG
            clear hG
            rename_i a3 KK a2 JJ KJ a1 a0
            clear a3 a2 KLv HX HY HZ HNS HMIX hg h1 h3 p1 p2 q3 hlen hlt hk10
            have hs6 : w.heap.size ≤ W6.heap.size := HB6.out.size
            go_region_held3 (fun w' => w'.cell? ⟨g, 0, none⟩ = some (.int .u64 (wd x 0 : Int)) ∧ w'.cell? ⟨g, 1, none⟩ = some (.int .u64 (wd x 1 : Int)) ∧ w'.cell? ⟨g, 2, none⟩ = some (.int .u64 (wd x 2 : Int)) ∧ w'.cell? ⟨g, 3, none⟩ = some (.int .u64 (wd x 3 : Int)) ∧ w'.cell? ⟨g, 4, none⟩ = some (.int .u64 (wd y 0 : Int)) ∧ w'.cell? ⟨g, 5, none⟩ = some (.int .u64 (wd y 1 : Int)) ∧ w'.cell? ⟨g, 6, none⟩ = some (.int .u64 (wd y 2 : Int)) ∧ w'.cell? ⟨g, 7, none⟩ = some (.int .u64 (wd y 3 : Int)) ∧ w'.cell? ⟨g, 8, none⟩ = some (.int .u64 (wd z 0 : Int)) ∧ w'.cell? ⟨g, 9, none⟩ = some (.int .u64 (wd z 1 : Int)) ∧ w'.cell? ⟨g, 10, none⟩ = some (.int .u64 (wd z 2 : Int)) ∧ w'.cell? ⟨g, 11, none⟩ = some (.int .u64 (wd z 3 : Int))) (first | (with_reducible exact ⟨x0, x1, x2, x3, y0, y1, y2, y3, z0, z1, z2, z3⟩) | (exact (HG.out.alloc _).drew) | (exact ((HG.out.alloc _).alloc _).drew) | (exact (((HG.out.alloc _).alloc _).alloc _).drew) | go_keep) (fail)
            all_goals
              rename_i hH
              clear hH
              go_wp2_with fail
              go_meet
              case rel =>
                refine ⟨_, _, _, rfl, rfl, rfl, ?_, ?_, ?_, ?_⟩
                · first
                    | exact alloc_keep (alloc_keep (alloc_new W6 _) _) _
                    | exact alloc_keep (alloc_new1 W6 _ _) _
                    | exact alloc_new2 W6 _ _ _
                · first
                    | exact alloc_keep (alloc_keep (alloc_new W6 _) _) _
                    | exact alloc_keep (alloc_new1 W6 _ _) _
                    | exact alloc_new2 W6 _ _ _
                · first
                    | exact alloc_keep (alloc_keep (alloc_new W6 _) _) _
                    | exact alloc_keep (alloc_new1 W6 _ _) _
                    | exact alloc_new2 W6 _ _ _
                · exact (gr_allocB (gr_allocB (gr_allocB HB6.out hs6 _) (by rw [alloc_size1]; omega) _) (by rw [alloc_size1, alloc_size1]; omega) _).drew
end Go.Proofs.Ythalmomheecpcaa
