/- (*sha5.come).take (layer 18): a full block, in the sums. -/
import Derived.Test.YtmjbhmpogpagjaaS5I
import Derived.Test.YtmjbhmpogpagjaaBlkR
namespace Go.Proofs.Ytmjbhmpogpagjaa
set_option maxRecDepth 20000
set_option linter.unusedSimpArgs false
set_option linter.unusedVariables false
open Go.RowKit
/-- A hash: where what is left over lies, the sums, the keys. -/
def hrow (g : Nat) (hs ks : List Nat) : List Value := .pointer (some ⟨g, 0, none⟩) :: (rowV hs ++ rowV ks)
theorem hrow_sum (g : Nat) (hs ks : List Nat) (i : Nat) (h : i < hs.length) : (hrow g hs ks)[1 + i]? = some (.int .u64 (hs.getD i 0 : Int)) := by
  unfold hrow
  rw [Nat.add_comm, List.getElem?_cons_succ, List.getElem?_append_left (by rw [rowV_len]; exact h), rowV_get _ _ h]
theorem hrow_key (g : Nat) (hs ks : List Nat) (i : Nat) (h8 : hs.length = 8) (h : i < ks.length) : (hrow g hs ks)[9 + i]? = some (.int .u64 (ks.getD i 0 : Int)) := by
  unfold hrow
  rw [show 9 + i = (8 + i) + 1 by omega, List.getElem?_cons_succ, List.getElem?_append_right (by rw [rowV_len]; omega), rowV_len, show 8 + i - hs.length = i by omega, rowV_get _ _ h]
theorem hrow_set (g : Nat) (hs ks : List Nat) (i x : Nat) (h : i < hs.length) : (hrow g hs ks).set (1 + i) (.int .u64 (x : Int)) = hrow g (hs.set i x) ks := by
  unfold hrow rowV
  rw [Nat.add_comm, List.set_cons_succ, List.set_append_left _ _ (by rw [List.length_map]; exact h), List.map_set]
theorem below_grown {w w' : World} (h : Below w.heap.size w w') (o : Option Nat) : w.grownBy w' o := ⟨h.os, h.tape, h.output, h.size, fun i hi _ => h.block i hi⟩
/-- Eight words in a block of their own. -/
def row8 (l : List Nat) : List Value := [.int .u64 (l.getD 0 0 : Int), .int .u64 (l.getD 1 0 : Int), .int .u64 (l.getD 2 0 : Int), .int .u64 (l.getD 3 0 : Int), .int .u64 (l.getD 4 0 : Int), .int .u64 (l.getD 5 0 : Int), .int .u64 (l.getD 6 0 : Int), .int .u64 (l.getD 7 0 : Int)]
theorem row8_row {l : List Nat} (h : l.length = 8) : rowV l = row8 l := by
  match l, h with
  | [a, b, c, d, e, f, g, i], _ => rfl
/-- The first i sums are made. -/
def addN (hs vs : List Nat) (i : Nat) : List Nat := (List.range 8).map fun j => if j < i then (hs.getD j 0 + vs.getD j 0) % M64 else hs.getD j 0
theorem addN_len (hs vs : List Nat) (i : Nat) : (addN hs vs i).length = 8 := by simp [addN]
theorem addN_zero (hs vs : List Nat) (h : hs.length = 8) : addN hs vs 0 = hs := by
  match hs, h with
  | [a, b, c, d, e, f, g, i], _ => rfl
theorem addN_all (hs vs : List Nat) : addN hs vs 8 = (List.range 8).map fun j => (hs.getD j 0 + vs.getD j 0) % M64 := rfl
theorem addN_get (hs vs : List Nat) (i : Nat) (h : i < 8) : (addN hs vs i).getD i 0 = hs.getD i 0 := by
  match i, h with
  | 0, _ => rfl
  | 1, _ => rfl
  | 2, _ => rfl
  | 3, _ => rfl
  | 4, _ => rfl
  | 5, _ => rfl
  | 6, _ => rfl
  | 7, _ => rfl
theorem addN_set (hs vs : List Nat) (i : Nat) (h : i < 8) : (addN hs vs i).set i ((hs.getD i 0 + vs.getD i 0) % M64) = addN hs vs (i + 1) := by
  match i, h with
  | 0, _ => rfl
  | 1, _ => rfl
  | 2, _ => rfl
  | 3, _ => rfl
  | 4, _ => rfl
  | 5, _ => rfl
  | 6, _ => rfl
  | 7, _ => rfl
theorem grown_same {w A B : World} {o : Option Nat} (h : w.grownBy A o) (k : A.grownBy B o) : w.grownBy B o :=
  ⟨k.os.trans h.os, k.tape.trans h.tape, k.output.trans h.output, Nat.le_trans h.size k.size, fun i hi hr => (k.block i (Nat.lt_of_lt_of_le hi h.size) hr).trans (h.block i hi hr)⟩
theorem rowV_one (l : List Nat) : (rowV l).toArray.all (·.oneCell') = true := Array.all_eq_true_iff_forall_mem.2 (fun v hv => by
  have hv : v ∈ rowV l := by simpa using hv
  unfold rowV at hv
  obtain ⟨x, _, rfl⟩ := List.mem_map.1 hv
  rfl)
set_option maxRecDepth 20000 in
set_option maxHeartbeats 8000000 in
theorem take_any (h g : Nat) (hs ks : List Nat) (s : ByteArray) (w : World) (hh : w.heap[h]? = some (.cells (hrow g hs ks).toArray 42 (0, 0))) (h8 : hs.length = 8) (k64 : ks.length = 80)
    (hhs : ∀ x ∈ hs, x < M64) (hks : ∀ x ∈ ks, x < M64) (hs64 : s.size = 128) :
    Calls Try.prog 18 #[.pointer (some ⟨h, 0, none⟩), .string s] w fun e w' => e = .returned (.tuple #[]) ∧ w'.heap[h]? = some (.cells (hrow g (stepN hs ks (blockM s 16)) ks).toArray 42 (0, 0)) ∧ w.grownBy w' (some h) := by
  have KSp := Lib.hid (fun w => spread_any s w hs64)
  unfold stepN
  obtain ⟨Ws, hWs⟩ : ∃ Ws, wsN (blockM s 16) 64 = Ws := ⟨_, rfl⟩
  have hWl : Ws.length = 80 := by rw [← hWs, wsN_len, blockM_len]
  have hWlt : ∀ x ∈ Ws, x < M64 := by
    rw [← hWs]
    refine wsN_lt _ (fun x hx => ?_) 64
    unfold blockM at hx
    obtain ⟨t, ht, rfl⟩ := List.mem_map.1 hx
    have := List.mem_range.1 ht
    exact blockW_lt s t (by omega)
  rw [hWs] at KSp ⊢
  have HW := Lib.hid (And.intro hWl hWlt)
  have HK := Lib.hid (And.intro k64 hks)
  have HS := Lib.hid (And.intro h8 hhs)
  have H0 := Lib.hid hh
  have hlt : h < w.heap.size := (Array.getElem?_eq_some_iff.1 hh).1
  clear hWs hWl hWlt k64 hks h8 hhs hh hs64
  go_enter Try.func18, Try.ntmps18
  go_wp2_with fail
  refine (KSp.out _).mono ?_
  rintro e w1 ⟨rfl, hb1⟩
  have H1 := Lib.hid (keepI H0.out hb1)
  have G1 := Lib.hid (below_grown hb1 (some h))
  have hlt1 : h < w1.heap.size := Nat.lt_of_lt_of_le hlt hb1.size
  have LT1 := Lib.hid (And.intro hlt (And.intro hlt1 hb1.size))
  clear hb1 H0 KSp hlt hlt1
  dsimp only
  iterate 5 go_step
  change Oper.wp _ _ _ (w1.alloc zobj) _ _
  refine wp_store_row 38 (.tmp 4) (.tmp 12) rfl w1.heap.size (rowV Ws).toArray (by simp [Act.eval]) (by simp [Act.eval]) 38 _ (mk_at w1 zobj).1 (by rw [List.size_toArray, rowV_len, HW.out.1]; kernel_rfl) (by rw [show (rowV Ws).toArray.size = 80 by rw [List.size_toArray, rowV_len, HW.out.1]]; kernel_rfl) (Array.all_eq_true_iff_forall_mem.2 (fun v hv => by
    have hv : v ∈ rowV Ws := by simpa using hv
    unfold rowV at hv
    obtain ⟨x, _, rfl⟩ := List.mem_map.1 hv
    rfl)) ?_
  simp only [Act.put, List.setIfInBounds_toArray, List.set_cons_zero, List.set_cons_succ]
  have e4 := setRow_heap (w1.alloc zobj) w1.heap.size _ (rowV Ws).toArray _ _ (mk_at w1 zobj).1
  have eh := (setRow_other (w1.alloc zobj) w1.heap.size h (rowV Ws).toArray (Nat.ne_of_lt LT1.out.2.1)).trans (keepI H1.out (mk_at w1 zobj).2)
  have eB := below_setRow (mk_at w1 zobj).2 (Nat.le_refl _) (rowV Ws).toArray
  have eg := grown_own G1.out (below_grown eB (some w1.heap.size)) (fun x hx => by cases hx; exact LT1.out.2.2)
  have es : ((w1.alloc zobj).setRow w1.heap.size (rowV Ws).toArray).heap.size = w1.heap.size + 1 := by
    rw [show ((w1.alloc zobj).setRow w1.heap.size (rowV Ws).toArray).heap.size = (w1.alloc zobj).heap.size by simp [World.setRow]]
    exact Array.size_push ..
  generalize (w1.alloc zobj).setRow w1.heap.size (rowV Ws).toArray = W2 at *
  have E4 := Lib.hid e4
  have EG := Lib.hid eg
  have ES := Lib.hid es
  have c0 := (arr_get eh (hrow_sum g hs ks 0 (by rw [HS.out.1]; decide))).1
  have c1 := (arr_get eh (hrow_sum g hs ks 1 (by rw [HS.out.1]; decide))).1
  have c2 := (arr_get eh (hrow_sum g hs ks 2 (by rw [HS.out.1]; decide))).1
  have c3 := (arr_get eh (hrow_sum g hs ks 3 (by rw [HS.out.1]; decide))).1
  have c4 := (arr_get eh (hrow_sum g hs ks 4 (by rw [HS.out.1]; decide))).1
  have c5 := (arr_get eh (hrow_sum g hs ks 5 (by rw [HS.out.1]; decide))).1
  have c6 := (arr_get eh (hrow_sum g hs ks 6 (by rw [HS.out.1]; decide))).1
  have c7 := (arr_get eh (hrow_sum g hs ks 7 (by rw [HS.out.1]; decide))).1
  have EH := Lib.hid eh
  clear e4 eh eB eg es H1 G1
  simp only [Nat.reduceAdd] at c0 c1 c2 c3 c4 c5 c6 c7
  go_wp2_with fail
  change Code.wp _ _ _ _ (W2.alloc (.cells (row8 hs).toArray 37))
  have f5 := (mk_at W2 (.cells (row8 hs).toArray 37)).1
  have fB := (mk_at W2 (.cells (row8 hs).toArray 37)).2
  have f4 := keepI E4.out fB
  have fh := keepI EH.out fB
  have fg := grown_own EG.out (below_grown fB none) (fun x hx => by cases hx)
  have l5 : w.heap.size ≤ W2.heap.size := by have := ES.out; have := LT1.out.2.2; omega
  have n4 : w1.heap.size ≠ W2.heap.size := by have := ES.out; omega
  have nh : h ≠ W2.heap.size := by have := ES.out; have := LT1.out.2.1; omega
  generalize W2.alloc (.cells (row8 hs).toArray 37) = W3 at f5 fB f4 fh fg ⊢
  generalize W2.heap.size = b5 at *
  generalize w1.heap.size = b4 at *
  have F5 := Lib.hid f5
  have F4 := Lib.hid f4
  have FH := Lib.hid fh
  have FG := Lib.hid fg
  have HNE := Lib.hid (And.intro l5 (And.intro n4 nh))
  clear f5 fB f4 fh fg l5 n4 nh c0 c1 c2 c3 c4 c5 c6 c7 E4 EG ES EH LT1
  have HMIX := Lib.hid (show Try.prog.follows .mixedOrders = true by kernel_rfl)
  go_loopw [17] (fun v W => ∃ k : Nat, k ≤ 80 ∧ v = .int .i64 (k : Int) ∧ W.heap[b5]? = some (.cells (rowV (rnds hs ks Ws k)).toArray 37 (0, 0)) ∧ W.heap[b4]? = some (.cells (rowV Ws).toArray 38 (0, 0)) ∧ W.heap[h]? = some (.cells (hrow g hs ks).toArray 42 (0, 0)) ∧ w.grownBy W (some h)) (fun v _ => 80 - (intOf v).toNat)
  case atStart => exact ⟨0, by omega, rfl, by rw [show rnds hs ks Ws 0 = hs from rfl, row8_row HS.out.1]; exact F5.out, F4.out, FH.out, FG.out⟩
  case round =>
    clear F5 F4 FH FG
    obtain ⟨k, hk, rfl, r5, r4, rh, rg⟩ := hrel
    have hAl := rnds_len hs ks Ws HS.out.1 k
    have hAlt := rnds_lt hs ks Ws HS.out.2 k
    by_cases hlt : k < 80
    · have hA1 : rnds hs ks Ws (k + 1) = rnd (rnds hs ks Ws k) (ks.getD k 0) (Ws.getD k 0) := rfl
      have ck := (arr_get rh (hrow_key g hs ks k HS.out.1 (by rw [HK.out.1]; exact hlt))).1
      have cw := (arr_get r4 (rowV_get Ws k (by rw [HW.out.1]; exact hlt))).1
      have hq : ∀ i, i < 8 → wr.cell? ⟨b5, i, none⟩ = some (.int .u64 ((rnds hs ks Ws k).getD i 0 : Int)) := fun i hi => (arr_get r5 (rowV_get _ i (by omega))).1
      have q0 := hq 0 (by omega)
      have q1 := hq 1 (by omega)
      have q2 := hq 2 (by omega)
      have q3 := hq 3 (by omega)
      have q4 := hq 4 (by omega)
      have q5 := hq 5 (by omega)
      have q6 := hq 6 (by omega)
      have q7 := hq 7 (by omega)
      have l0 := getD_lt hAlt 0
      have l1 := getD_lt hAlt 1
      have l2 := getD_lt hAlt 2
      have l4 := getD_lt hAlt 4
      have l5 := getD_lt hAlt 5
      have l6 := getD_lt hAlt 6
      have l7 := getD_lt hAlt 7
      have lk := getD_lt HK.out.2 k
      have lw := getD_lt HW.out.2 k
      have hR : rnds hs ks Ws (k + 1) = [((((rnds hs ks Ws k).getD 7 0 + big1 ((rnds hs ks Ws k).getD 4 0) + chooseN64 ((rnds hs ks Ws k).getD 4 0) ((rnds hs ks Ws k).getD 5 0) ((rnds hs ks Ws k).getD 6 0) + ks.getD k 0 + Ws.getD k 0) % M64) + ((big0 ((rnds hs ks Ws k).getD 0 0) + mostN64 ((rnds hs ks Ws k).getD 0 0) ((rnds hs ks Ws k).getD 1 0) ((rnds hs ks Ws k).getD 2 0)) % M64)) % M64, (rnds hs ks Ws k).getD 0 0, (rnds hs ks Ws k).getD 1 0, (rnds hs ks Ws k).getD 2 0, ((rnds hs ks Ws k).getD 3 0 + (((rnds hs ks Ws k).getD 7 0 + big1 ((rnds hs ks Ws k).getD 4 0) + chooseN64 ((rnds hs ks Ws k).getD 4 0) ((rnds hs ks Ws k).getD 5 0) ((rnds hs ks Ws k).getD 6 0) + ks.getD k 0 + Ws.getD k 0) % M64)) % M64, (rnds hs ks Ws k).getD 4 0, (rnds hs ks Ws k).getD 5 0, (rnds hs ks Ws k).getD 6 0] := by rw [hA1]; rfl
      have hz5 : (rowV (rnds hs ks Ws k)).toArray.size = 8 := by rw [List.size_toArray, rowV_len, hAl]
      clear hq hAl hAlt hA1
      generalize (rnds hs ks Ws k).getD 0 0 = v0 at *
      generalize (rnds hs ks Ws k).getD 1 0 = v1 at *
      generalize (rnds hs ks Ws k).getD 2 0 = v2 at *
      generalize (rnds hs ks Ws k).getD 3 0 = v3 at *
      generalize (rnds hs ks Ws k).getD 4 0 = v4 at *
      generalize (rnds hs ks Ws k).getD 5 0 = v5 at *
      generalize (rnds hs ks Ws k).getD 6 0 = v6 at *
      generalize (rnds hs ks Ws k).getD 7 0 = v7 at *
      generalize ks.getD k 0 = kt at *
      generalize Ws.getD k 0 = wt at *
      have KT1 : Hid (∀ (b : Nat) (W : World), W.heap[b]? = some (.cells #[.int .i64 ((14 : Nat) : Int), .int .i64 ((18 : Nat) : Int), .int .i64 ((41 : Nat) : Int)] 3 (0, 0)) → Calls Try.prog 38 #[.int .u64 (v4 : Int), .slice (some ⟨b, 0, none⟩) 3 3] W fun e w' => e = .returned (.int .u64 (big1 v4 : Int)) ∧ Below W.heap.size W w') := turns_three v4 14 18 41 l4 (by decide) (by decide) (by decide)
      have KT0 : Hid (∀ (b : Nat) (W : World), W.heap[b]? = some (.cells #[.int .i64 ((28 : Nat) : Int), .int .i64 ((34 : Nat) : Int), .int .i64 ((39 : Nat) : Int)] 3 (0, 0)) → Calls Try.prog 38 #[.int .u64 (v0 : Int), .slice (some ⟨b, 0, none⟩) 3 3] W fun e w' => e = .returned (.int .u64 (big0 v0 : Int)) ∧ Below W.heap.size W w') := turns_three v0 28 34 39 l0 (by decide) (by decide) (by decide)
      have KC := Lib.hid (choose_at v4 v5 v6 l4 l5 l6)
      have KM := Lib.hid (most_at v0 v1 v2 l0 l1 l2)
      have KS5 := Lib.hid (sum_five v7 (big1 v4) (chooseN64 v4 v5 v6) kt wt l7)
      have KS2 := Lib.hid (sum_two (big0 v0) (mostN64 v0 v1 v2) (big0_lt v0 l0))
      generalize (v7 + big1 v4 + chooseN64 v4 v5 v6 + kt + wt) % M64 = X at *
      generalize (big0 v0 + mostN64 v0 v1 v2) % M64 = Y at *
      generalize big1 v4 = g1 at *
      generalize big0 v0 = g0 at *
      generalize chooseN64 v4 v5 v6 = ch at *
      generalize mostN64 v0 v1 v2 = mj at *
      have wZ : IntKind.u64.wrap ((X : Int) + (Y : Int)) = (((X + Y) % M64 : Nat) : Int) := by rw [← wrap_nat, Int.natCast_add]
      have wU : IntKind.u64.wrap ((v3 : Int) + (X : Int)) = (((v3 + X) % M64 : Nat) : Int) := by rw [← wrap_nat, Int.natCast_add]
      generalize (X + Y) % M64 = Z at *
      generalize (v3 + X) % M64 = U at *
      have R5 := Lib.hid r5
      have R4 := Lib.hid r4
      have RH := Lib.hid rh
      have RG := Lib.hid rg
      have HR := Lib.hid hR
      have HZ5 := Lib.hid hz5
      have HT := Lib.hid hlt
      have p1 : (k : Int) < 80 := by omega
      have wk : IntKind.i64.wrap ((k : Int) + 1) = (k : Int) + 1 := by rw [IntKind.wrap_i64]; omega
      have Q := Lib.hid (And.intro q0 (And.intro q1 (And.intro q2 (And.intro q3 (And.intro q4 (And.intro q5 q6))))))
      clear r5 r4 rh rg hR hz5 hlt l0 l1 l2 l4 l5 l6 l7 lk lw q0 q1 q2 q3
      go_wp2_with fail
      have d4 := fun d os => cell_regrown q4 d os
      have d5 := fun d os => cell_regrown q5 d os
      have d6 := fun d os => cell_regrown q6 d os
      have d7 := fun d os => cell_regrown q7 d os
      have dk := fun d os => cell_regrown ck d os
      have dw := fun d os => cell_regrown cw d os
      clear q4 q5 q6 q7 ck cw
      refine wp_region_inv HMIX.out (by kernel_rfl) ?_
      repeat (first
        | (refine inv_skip (by rfl) (by rfl) ?_; simp only [Act.put, List.setIfInBounds_toArray, List.set_cons_zero, List.set_cons_succ])
        | (refine inv_val (v := ?_) (by rfl) (by rfl) (fun d os => ?_) ?_; rotate_left; (focus (go_simp; (try with_reducible rfl); done)); simp only [Act.put, List.setIfInBounds_toArray, List.set_cons_zero, List.set_cons_succ]))
      refine inv_mk (fun b => .slice (some ⟨b, 0, none⟩) 3 3) (.cells #[.int .i64 ((14 : Nat) : Int), .int .i64 ((18 : Nat) : Int), .int .i64 ((41 : Nat) : Int)] 3 (0, 0)) (by rfl) (by rfl) (fun d os => ?_) ?_; (focus (go_simp; done)); simp only [List.nil_append, List.cons_append]
      repeat (first
        | (refine inv_skip (by rfl) (by rfl) ?_; simp only [Act.put, List.setIfInBounds_toArray, List.set_cons_zero, List.set_cons_succ])
        | (refine inv_val (v := ?_) (by rfl) (by rfl) (fun d os => ?_) ?_; rotate_left; (focus (go_simp; (try with_reducible rfl); done)); simp only [Act.put, List.setIfInBounds_toArray, List.set_cons_zero, List.set_cons_succ]))
      refine inv_callp (v := _) (f := 38) (args := fun b => #[.int .u64 (v4 : Int), .slice (some ⟨b, 0, none⟩) 3 3]) (by rfl) (by rfl) (fun b => by rfl) (fun b d os => by (simp only [Act.put, List.setIfInBounds_toArray, List.set_cons_zero, List.set_cons_succ]; go_simp; done)) KT1.out ?_; simp only [Act.put, List.setIfInBounds_toArray, List.set_cons_zero, List.set_cons_succ]
      repeat (first
        | (refine inv_skip (by rfl) (by rfl) ?_; simp only [Act.put, List.setIfInBounds_toArray, List.set_cons_zero, List.set_cons_succ])
        | (refine inv_val (v := ?_) (by rfl) (by rfl) (fun d os => ?_) ?_; rotate_left; (focus (go_simp; (try with_reducible rfl); done)); simp only [Act.put, List.setIfInBounds_toArray, List.set_cons_zero, List.set_cons_succ]))
      refine inv_call (args := ?_) (v := ?_) (f := 39) (by rfl) (by rfl) (fun d os => ?_) (fun d os => ?_) ?_; rotate_left 3; (focus (with_reducible exact KC.out _; done)); rotate_left; (focus (go_simp; done)); simp only [Act.put, List.setIfInBounds_toArray, List.set_cons_zero, List.set_cons_succ]
      repeat (first
        | (refine inv_skip (by rfl) (by rfl) ?_; simp only [Act.put, List.setIfInBounds_toArray, List.set_cons_zero, List.set_cons_succ])
        | (refine inv_val (v := ?_) (by rfl) (by rfl) (fun d os => ?_) ?_; rotate_left; (focus (go_simp; (try with_reducible rfl); done)); simp only [Act.put, List.setIfInBounds_toArray, List.set_cons_zero, List.set_cons_succ]))
      refine inv_mk (fun b => .slice (some ⟨b, 0, none⟩) 5 5) (.cells #[.int .u64 (v7 : Int), .int .u64 (g1 : Int), .int .u64 (ch : Int), .int .u64 (kt : Int), .int .u64 (wt : Int)] 36 (0, 0)) (by rfl) (by rfl) (fun d os => ?_) ?_; (focus (go_simp; done)); simp only [List.nil_append, List.cons_append]
      repeat (first
        | (refine inv_skip (by rfl) (by rfl) ?_; simp only [Act.put, List.setIfInBounds_toArray, List.set_cons_zero, List.set_cons_succ])
        | (refine inv_val (v := ?_) (by rfl) (by rfl) (fun d os => ?_) ?_; rotate_left; (focus (go_simp; (try with_reducible rfl); done)); simp only [Act.put, List.setIfInBounds_toArray, List.set_cons_zero, List.set_cons_succ]))
      refine inv_callp (v := _) (f := 37) (args := fun b => #[.slice (some ⟨b, 0, none⟩) 5 5]) (by rfl) (by rfl) (fun b => by rfl) (fun b d os => by (simp only [Act.put, List.setIfInBounds_toArray, List.set_cons_zero, List.set_cons_succ]; go_simp; done)) KS5.out ?_; simp only [Act.put, List.setIfInBounds_toArray, List.set_cons_zero, List.set_cons_succ]
      repeat (first
        | (refine inv_skip (by rfl) (by rfl) ?_; simp only [Act.put, List.setIfInBounds_toArray, List.set_cons_zero, List.set_cons_succ])
        | (refine inv_val (v := ?_) (by rfl) (by rfl) (fun d os => ?_) ?_; rotate_left; (focus (go_simp; (try with_reducible rfl); done)); simp only [Act.put, List.setIfInBounds_toArray, List.set_cons_zero, List.set_cons_succ]))

      refine inv_end2 (t := 24) (t' := 42) (by rfl) (by rfl) (fun n1 n2 d os => ?_)
      have BW := below_regrown wr d os
      have e5 := keepI R5.out BW
      have e4 := keepI R4.out BW
      have eh := keepI RH.out BW
      have eg := grown_own RG.out (below_grown BW none) (fun x hx => by cases hx)
      have q0 := cell_regrown Q.out.1 d os
      have q1 := cell_regrown Q.out.2.1 d os
      have q2 := cell_regrown Q.out.2.2.1 d os
      have q3 := cell_regrown Q.out.2.2.2.1 d os
      have q4 := cell_regrown Q.out.2.2.2.2.1 d os
      have q5 := cell_regrown Q.out.2.2.2.2.2.1 d os
      have q6 := cell_regrown Q.out.2.2.2.2.2.2 d os
      generalize Sort.grow (redrawn wr d) os = W at *
      simp only [Act.put, List.setIfInBounds_toArray, List.set_cons_zero, List.set_cons_succ]
      have E5 := Lib.hid e5
      have E4 := Lib.hid e4
      have EH := Lib.hid eh
      have EG := Lib.hid eg
      have QE := Lib.hid (And.intro q0 (And.intro q1 (And.intro q2 (And.intro q3 (And.intro q4 (And.intro q5 q6))))))
      clear BW R5 R4 RH RG e5 e4 eh eg Q d4 d5 d6 d7 dk dw q3 q4 q5 q6
      go_wp2_with fail
      have d0 := fun d os => cell_regrown q0 d os
      have d1 := fun d os => cell_regrown q1 d os
      have d2 := fun d os => cell_regrown q2 d os
      clear q0 q1 q2
      refine wp_region_inv HMIX.out (by kernel_rfl) ?_
      repeat (first
        | (refine inv_skip (by rfl) (by rfl) ?_; simp only [Act.put, List.setIfInBounds_toArray, List.set_cons_zero, List.set_cons_succ])
        | (refine inv_val (v := ?_) (by rfl) (by rfl) (fun d os => ?_) ?_; rotate_left; (focus (go_simp; (try with_reducible rfl); done)); simp only [Act.put, List.setIfInBounds_toArray, List.set_cons_zero, List.set_cons_succ]))
      refine inv_mk (fun b => .slice (some ⟨b, 0, none⟩) 3 3) (.cells #[.int .i64 ((28 : Nat) : Int), .int .i64 ((34 : Nat) : Int), .int .i64 ((39 : Nat) : Int)] 3 (0, 0)) (by rfl) (by rfl) (fun d os => ?_) ?_; (focus (go_simp; done)); simp only [List.nil_append, List.cons_append]
      repeat (first
        | (refine inv_skip (by rfl) (by rfl) ?_; simp only [Act.put, List.setIfInBounds_toArray, List.set_cons_zero, List.set_cons_succ])
        | (refine inv_val (v := ?_) (by rfl) (by rfl) (fun d os => ?_) ?_; rotate_left; (focus (go_simp; (try with_reducible rfl); done)); simp only [Act.put, List.setIfInBounds_toArray, List.set_cons_zero, List.set_cons_succ]))
      refine inv_callp (v := _) (f := 38) (args := fun b => #[.int .u64 (v0 : Int), .slice (some ⟨b, 0, none⟩) 3 3]) (by rfl) (by rfl) (fun b => by rfl) (fun b d os => by (simp only [Act.put, List.setIfInBounds_toArray, List.set_cons_zero, List.set_cons_succ]; go_simp; done)) KT0.out ?_; simp only [Act.put, List.setIfInBounds_toArray, List.set_cons_zero, List.set_cons_succ]
      repeat (first
        | (refine inv_skip (by rfl) (by rfl) ?_; simp only [Act.put, List.setIfInBounds_toArray, List.set_cons_zero, List.set_cons_succ])
        | (refine inv_val (v := ?_) (by rfl) (by rfl) (fun d os => ?_) ?_; rotate_left; (focus (go_simp; (try with_reducible rfl); done)); simp only [Act.put, List.setIfInBounds_toArray, List.set_cons_zero, List.set_cons_succ]))
      refine inv_call (args := ?_) (v := ?_) (f := 40) (by rfl) (by rfl) (fun d os => ?_) (fun d os => ?_) ?_; rotate_left 3; (focus (with_reducible exact KM.out _; done)); rotate_left; (focus (go_simp; done)); simp only [Act.put, List.setIfInBounds_toArray, List.set_cons_zero, List.set_cons_succ]
      repeat (first
        | (refine inv_skip (by rfl) (by rfl) ?_; simp only [Act.put, List.setIfInBounds_toArray, List.set_cons_zero, List.set_cons_succ])
        | (refine inv_val (v := ?_) (by rfl) (by rfl) (fun d os => ?_) ?_; rotate_left; (focus (go_simp; (try with_reducible rfl); done)); simp only [Act.put, List.setIfInBounds_toArray, List.set_cons_zero, List.set_cons_succ]))
      refine inv_mk (fun b => .slice (some ⟨b, 0, none⟩) 2 2) (.cells #[.int .u64 (g0 : Int), .int .u64 (mj : Int)] 36 (0, 0)) (by rfl) (by rfl) (fun d os => ?_) ?_; (focus (go_simp; done)); simp only [List.nil_append, List.cons_append]
      repeat (first
        | (refine inv_skip (by rfl) (by rfl) ?_; simp only [Act.put, List.setIfInBounds_toArray, List.set_cons_zero, List.set_cons_succ])
        | (refine inv_val (v := ?_) (by rfl) (by rfl) (fun d os => ?_) ?_; rotate_left; (focus (go_simp; (try with_reducible rfl); done)); simp only [Act.put, List.setIfInBounds_toArray, List.set_cons_zero, List.set_cons_succ]))
      refine inv_callp (v := _) (f := 37) (args := fun b => #[.slice (some ⟨b, 0, none⟩) 2 2]) (by rfl) (by rfl) (fun b => by rfl) (fun b d os => by (simp only [Act.put, List.setIfInBounds_toArray, List.set_cons_zero, List.set_cons_succ]; go_simp; done)) KS2.out ?_; simp only [Act.put, List.setIfInBounds_toArray, List.set_cons_zero, List.set_cons_succ]
      repeat (first
        | (refine inv_skip (by rfl) (by rfl) ?_; simp only [Act.put, List.setIfInBounds_toArray, List.set_cons_zero, List.set_cons_succ])
        | (refine inv_val (v := ?_) (by rfl) (by rfl) (fun d os => ?_) ?_; rotate_left; (focus (go_simp; (try with_reducible rfl); done)); simp only [Act.put, List.setIfInBounds_toArray, List.set_cons_zero, List.set_cons_succ]))

      refine inv_end2 (t := 46) (t' := 55) (by rfl) (by rfl) (fun n3 n4 d os => ?_)
      have BW := below_regrown W d os
      have e5 := keepI E5.out BW
      have e4 := keepI E4.out BW
      have eh := keepI EH.out BW
      have eg := grown_own EG.out (below_grown BW none) (fun x hx => by cases hx)
      have q0 := cell_regrown QE.out.1 d os
      have q1 := cell_regrown QE.out.2.1 d os
      have q2 := cell_regrown QE.out.2.2.1 d os
      have q3 := cell_regrown QE.out.2.2.2.1 d os
      have q4 := cell_regrown QE.out.2.2.2.2.1 d os
      have q5 := cell_regrown QE.out.2.2.2.2.2.1 d os
      have q6 := cell_regrown QE.out.2.2.2.2.2.2 d os
      generalize Sort.grow (redrawn W d) os = V at *
      simp only [Act.put, List.setIfInBounds_toArray, List.set_cons_zero, List.set_cons_succ]
      have n4' := HNE.out.2.1
      have nh' := HNE.out.2.2
      have V5 := Lib.hid (setRow_heap V b5 _ (rowV (rnds hs ks Ws (k + 1))).toArray _ _ e5)
      have V4 := Lib.hid ((setRow_other V b5 b4 (rowV (rnds hs ks Ws (k + 1))).toArray n4').trans e4)
      have VH := Lib.hid ((setRow_other V b5 h (rowV (rnds hs ks Ws (k + 1))).toArray nh').trans eh)
      have VG := Lib.hid (grown_own eg (grown_setRow V b5 (rowV (rnds hs ks Ws (k + 1))).toArray) (fun x hx => by cases hx; exact HNE.out.1))
      have F5 := Lib.hid e5
      clear BW E5 E4 EH EG e5 e4 eh eg QE d0 d1 d2 n4' nh'
      rw [HR.out] at V5 V4 VH VG
      repeat (first
        | (refine wp_store_row 37 (.tmp 5) (.tmp 76) rfl b5 (rowV [Z, v0, v1, v2, U, v4, v5, v6]).toArray (by simp [Act.eval]; done) (by simp [Act.eval, rowV]; done) 37 _ F5.out (by show _ = some 8; kernel_rfl) (by rw [HZ5.out]; rfl) (rowV_one _) ?_
           generalize V.setRow b5 _ = V' at *)
        | go_step)
      have hk1 := HT.out
      exact ⟨⟨k + 1, by omega, rfl, by rw [HR.out]; exact V5.out, V4.out, VH.out, VG.out⟩, by simp [intOf]; omega⟩
    · have hk64 : k = 80 := by omega
      subst hk64
      obtain ⟨a0, a1, a2, a3, a4, a5, a6, a7, hV⟩ : ∃ a0 a1 a2 a3 a4 a5 a6 a7 : Nat, rnds hs ks Ws 80 = [a0, a1, a2, a3, a4, a5, a6, a7] := by
        generalize rnds hs ks Ws 80 = l at hAl
        match l, hAl with
        | [a, b, c, d, e, f, g, i], _ => exact ⟨a, b, c, d, e, f, g, i, rfl⟩
      rw [hV] at r5
      have p1 : ¬ ((80 : Nat) : Int) < 80 := by omega
      have q0 := (arr_get r5 (i := 0) (v := .int .u64 (a0 : Int)) rfl).1
      have q1 := (arr_get r5 (i := 1) (v := .int .u64 (a1 : Int)) rfl).1
      have q2 := (arr_get r5 (i := 2) (v := .int .u64 (a2 : Int)) rfl).1
      have q3 := (arr_get r5 (i := 3) (v := .int .u64 (a3 : Int)) rfl).1
      have q4 := (arr_get r5 (i := 4) (v := .int .u64 (a4 : Int)) rfl).1
      have q5 := (arr_get r5 (i := 5) (v := .int .u64 (a5 : Int)) rfl).1
      have q6 := (arr_get r5 (i := 6) (v := .int .u64 (a6 : Int)) rfl).1
      have q7 := (arr_get r5 (i := 7) (v := .int .u64 (a7 : Int)) rfl).1
      have HV := Lib.hid hV
      have RH := Lib.hid rh
      have RG := Lib.hid rg
      clear r5 r4 rh rg hAl hAlt hV hk hlt
      go_wp2_with fail
      clear q0 q1 q2 q3 q4 q5 q6 q7
      have HI : ∀ i : Nat, i < 8 → ∀ w : World, (Instr.index 37 (.agg #[.int .u64 (a0 : Int), .int .u64 (a1 : Int), .int .u64 (a2 : Int), .int .u64 (a3 : Int), .int .u64 (a4 : Int), .int .u64 (a5 : Int), .int .u64 (a6 : Int), .int .u64 (a7 : Int)]) (.int .i64 (i : Int))).run Try.prog w = .ok (.int .u64 (([a0, a1, a2, a3, a4, a5, a6, a7].getD i 0 : Nat) : Int)) w := fun i hi w => by
        match i, hi with
        | 0, _ => rfl
        | 1, _ => rfl
        | 2, _ => rfl
        | 3, _ => rfl
        | 4, _ => rfl
        | 5, _ => rfl
        | 6, _ => rfl
        | 7, _ => rfl
      have HI := Lib.hid HI
      obtain ⟨Vl, hVl⟩ : ∃ Vl, Vl = [a0, a1, a2, a3, a4, a5, a6, a7] := ⟨_, rfl⟩
      rw [← hVl] at HV HI
      clear hVl
      go_loopw [79] (fun v W => ∃ i : Nat, i ≤ 8 ∧ v = .int .i64 (i : Int) ∧ W.heap[h]? = some (.cells (hrow g (addN hs Vl i) ks).toArray 42 (0, 0)) ∧ w.grownBy W (some h)) (fun v _ => 8 - (intOf v).toNat)
      case atStart => exact ⟨0, by omega, rfl, by rw [addN_zero _ _ HS.out.1]; exact RH.out, RG.out⟩
      case round =>
        clear RH RG
        obtain ⟨i, hi, rfl, rh, rg⟩ := hrel
        by_cases hlt : i < 8
        · have p2 : (i : Int) < 8 := by omega
          have hx := HI.out i hlt
          have cy := (arr_get rh (hrow_sum g (addN hs Vl i) ks i (by rw [addN_len]; exact hlt))).1
          rw [addN_get _ _ _ hlt] at cy
          have hcv := hrow_sum g (addN hs Vl i) ks i (by rw [addN_len]; exact hlt)
          rw [addN_get _ _ _ hlt] at hcv
          have hst : (hrow g (addN hs Vl i) ks).set (1 + i) (.int .u64 (((hs.getD i 0 + Vl.getD i 0) % M64 : Nat) : Int)) = hrow g (addN hs Vl (i + 1)) ks := by
            rw [hrow_set _ _ _ _ _ (by rw [addN_len]; exact hlt), addN_set _ _ _ hlt]
          have wY : IntKind.u64.wrap ((hs.getD i 0 : Int) + (Vl.getD i 0 : Int)) = (((hs.getD i 0 + Vl.getD i 0) % M64 : Nat) : Int) := by rw [← wrap_nat, Int.natCast_add]
          generalize hs.getD i 0 = y at *
          generalize Vl.getD i 0 = x at *
          generalize (y + x) % M64 = z at *
          have wi : IntKind.i64.wrap ((i : Int) + 1) = (i : Int) + 1 := by rw [IntKind.wrap_i64]; omega
          have HST := Lib.hid hst
          have HLT := Lib.hid hlt
          have RH := Lib.hid rh
          have RG := Lib.hid rg
          have CY := Lib.hid cy
          have HCV := Lib.hid hcv
          clear hst hlt rh rg cy HI hcv
          go_wp2_with fail
          clear hx
          have dy := fun d os => cell_regrown CY.out d os
          refine wp_region_inw 11 HMIX.out (by decide) (by kernel_rfl) (by kernel_rfl) ?_
          repeat (first
            | (refine inw_skip (by rfl) (by rfl) ?_; simp only [Act.put, List.setIfInBounds_toArray, List.set_cons_zero, List.set_cons_succ])
            | (refine inw_val (v := ?_) (by rfl) (by rfl) (fun d os => ?_) ?_; rotate_left; (focus (go_simp; (try with_reducible rfl); done)); simp only [Act.put, List.setIfInBounds_toArray, List.set_cons_zero, List.set_cons_succ]))

          refine inw_end (fun d os => ?_)
          have BW := below_regrown wr d os
          have eh := keepI RH.out BW
          have eg := grown_own RG.out (below_grown BW none) (fun x hx => by cases hx)
          have cy := dy d os
          generalize Sort.grow (redrawn wr d) os = W at eh eg cy ⊢
          obtain ⟨s1, s2⟩ := arr_get eh HCV.out
          have VH := Lib.hid (arr_set eh (.int .u64 (z : Int)) (i := 1 + i))
          have VG := Lib.hid (grown_same eg (grown_setCell W h (1 + i) (.int .u64 (z : Int))))
          clear BW RH RG eh eg dy cy CY
          change wpAny _ _ _ _ 1 _ _ _
          refine any_one (i := 11) (by kernel_rfl) rfl (fun K hK => ?_)
          go_simp
          refine hK _ _ ?_
          clear hK K s1 s2
          refine wpAny_done (by kernel_rfl) ?_ _
          go_wp2_with fail
          have h1 := HLT.out
          have vh := VH.out
          rw [HST.out] at vh
          exact ⟨⟨i + 1, by omega, rfl, vh, VG.out⟩, by simp [intOf]; omega⟩
        · have hi8 : i = 8 := by omega
          subst hi8
          have p2 : ¬ ((8 : Nat) : Int) < 8 := by omega
          have RH := Lib.hid rh
          have RG := Lib.hid rg
          clear rh rg hi hlt HI
          go_wp2_with fail
          first
            | refine bodyPost_end (results_none Try.results18 _ _ _) rfl ?_
            | refine bodyPost_ret (results_none Try.results18 _ _ _) rfl ?_
          have rh := RH.out
          rw [addN_all] at rh
          rw [HV.out]
          exact ⟨rfl, rh, RG.out⟩
end Go.Proofs.Ytmjbhmpogpagjaa
