/- UtfReads: its walk. -/
import Derived.Test.YtdggijibmpbpdaaDoorUtfM
import Derived.RangeFuncBox
import Derived.Lib.QuietBelow
import Derived.BigQuiet
import Derived.Sort.BigQuietIn
namespace Go.Proofs.YtdggijibmpbpdaaDoor
open Go.RowKit Go.Lib Go.Shelf
attribute [local go_sem] Oper.semAt_some
def plN (l : List UInt8) : List Nat := (cpsAt l 0).map fun x => x.1
theorem rowP_of {w : World} {base : Nat} {v : Value} {l : List UInt8} (h : w.ownsRow base 3 1 v (cpsAt l 0).length (plV (cpsAt l 0))) : RowN w v (plN l) := by
  have hlen : (plN l).length = (cpsAt l 0).length := List.length_map _
  obtain ⟨hl, hv | ⟨g, cap, cur, rfl, _, hg, hn, _, hcur, htake⟩⟩ := h
  · obtain ⟨rfl, hv⟩ := hv
    refine ⟨none, 0, by rw [hlen, hv], fun h => absurd h (by omega)⟩
  · refine ⟨some ⟨g, 0, none⟩, cap, by rw [hlen], fun _ => ⟨g, rfl, (Array.getElem?_eq_some_iff.1 hg).1, fun i hi => ?_⟩⟩
    rw [hlen] at hi
    have h1 : (cur.toList.take ((cpsAt l 0).length * 1))[i]? = some (.int .i64 (((plN l).getD i 0 : Nat) : Int)) := by
      rw [htake]
      simp [plV, plN, hi]
    rw [List.getElem?_take, if_pos (by omega)] at h1
    simpa [World.cell?, hg] using h1
theorem rall_rows2 (s : ByteArray) (w : World) (hs : s.size ≤ 100000) :
    Calls Tryd.prog 15 #[.string s] w fun e w' => ∃ v5 v6 a, e = .returned (.tuple #[v5, v6, .int .i64 (a : Int)]) ∧ RowN w' v5 (cpN s.data.toList) ∧ RowN w' v6 (plN s.data.toList) ∧ Below w.heap.size w w' :=
  (rall_any s w hs).mono fun e w' ⟨v5, v6, a, he, _, h5, h6, hb⟩ => ⟨v5, v6, (a : Nat), he, rowN_of h5, rowP_of h6, hb⟩
theorem boxed_below {W W' : World} {B : Nat} {t : TypeId} {v : Value} (h : Boxed W B t v) {n : Nat} (hn : B < n) (hb : Below n W W') : Boxed W' B t v := (hb.block B hn).trans h
theorem func_nil (f : Nat) (b : Array Value) (w : World) : (binOp .eql 30 (.func (.func f) #[] b) .nilFunc).run Tryd.prog w = .ok (.bool false) w := rfl
theorem cps_valid : ∀ (d : Nat) (l : List UInt8) (a : Nat), l.length - a = d → ∀ x ∈ cpsAt l a, isCp x.2 := by
  intro d
  induction d using Nat.strongRecOn with
  | ind d ih =>
    intro l a hd x hx
    cases h : nx (l.drop a) with
    | none => rw [cpsAt_none h] at hx; cases hx
    | some y =>
      obtain ⟨n, k⟩ := y
      rw [cpsAt_some h] at hx
      have h1 := nx_lt h
      rcases List.mem_cons.1 hx with rfl | hx
      · exact (nx_iff.1 h).1
      · exact ih (l.length - (a + k)) (by omega) l (a + k) rfl x hx
theorem pre_at {L pre : List (Nat × Nat)} {x : Nat × Nat} (h : pre ++ [x] <+: L) : pre.length < L.length ∧ L[pre.length]? = some x := by
  obtain ⟨t, rfl⟩ := h
  simp
theorem keeps_below {W W' : World} (h : Below W.heap.size W W') : KeepsOthers W W' := ⟨h.size, fun k o ho _ => (h.block k (Array.getElem?_eq_some_iff.1 ho).1).trans ho⟩
theorem kpV_below {n₀ Bs : Nat} {W W' : World} (hn : n₀ ≤ W.heap.size) (h : Below W.heap.size W W') : KpV n₀ Bs W W' := ⟨h.mono hn, fun hl => h.block Bs hl⟩
theorem next_same (l : List UInt8) (a : Int) : ∃ (n k : Nat) (b : Bool), retN (nextV l a) = .returned (.tuple #[.int .i32 (n : Int), .int .i64 (k : Int), .bool b]) ∧ retR (nextV l a) = .returned (.tuple #[.int .i64 (n : Int), .int .i64 (k : Int)]) ∧ n ≤ 1114111 ∧ k ≤ 4 ∧ b = decide ((0 : Int) < (k : Int)) := by
  cases h : nextV l a with
  | none => exact ⟨0, 0, false, rfl, rfl, by omega, by omega, by simp⟩
  | some x =>
    obtain ⟨n, k⟩ := x
    unfold nextV at h
    split at h
    · have h1 := nx_pos h
      have h2 := (nx_iff.1 h).1.1
      exact ⟨n, k, true, rfl, rfl, h2, by omega, by simp; omega⟩
    · cases h
set_option maxRecDepth 100000 in
set_option maxHeartbeats 4000000 in
theorem utfReads_w (s : ByteArray) (at_ most : Int) (w : World) (hT : Tabs w) : Calls Tryd.prog 4 #[.string s, .int .i64 at_, .int .i64 most] w fun e w' => e = .returned (.bool true) ∧ Below w.heap.size w w' := by
  have h2 := tabs_size hT
  refine (callsIn_wide (n := 3)).1 (callsIn_of_wp_marks Tryd.func4 rfl trivial (wpIn_wide.2 ?_) rfl)
  simp only [Tryd.ntmps4, List.size_toArray, List.length_cons, List.length_nil, Nat.reduceAdd, Nat.reduceSub, Array.replicate_succ, Array.replicate_zero, List.push_toArray, List.append_toArray, List.nil_append, List.cons_append]
  obtain ⟨W0, hW0⟩ : ∃ W0, (w.alloc (.cells #[.int .i64 most] 3)).alloc (.cells #[.bool false] 4) = W0 := ⟨_, rfl⟩
  have bm : Boxed W0 w.heap.size 3 (.int .i64 most) := by rw [← hW0]; exact (Boxed.new w _ _).alloc _
  have br : Boxed W0 (w.heap.size + 1) 4 (.bool false) := by rw [← hW0]; have h := Boxed.new (w.alloc (.cells #[.int .i64 most] 3)) 4 (.bool false); rwa [World.size_alloc] at h
  have hz0 : W0.heap.size = w.heap.size + 2 := by rw [← hW0]; simp
  have hB0 : Below w.heap.size w W0 := by rw [← hW0]; exact ((Below.refl _ w).alloc (Nat.le_refl _) _).alloc (by simp) _
  have hT0 : Tabs W0 := tabs_low h2 hT hB0
  by_cases hs : 300 < s.size
  · have p1 : (300 : Int) < (s.size : Int) := by omega
    go_wp2_with fail
    try rw [hW0]
    refine (lives_any W0 hT0).mono ?_
    rintro e w1 ⟨rfl, hb1⟩
    have hr := (boxed_below br (by omega) hb1)
    have hrc := hr.cell
    have hrf := hr.frozen
    go_wp2_with fail
    have hrs := (hr.set (.bool true)).cell
    refine ⟨.bool true, ?_, rfl, (hB0.trans (hb1.mono (by omega))).setCell (p := ⟨w.heap.size + 1, 0, none⟩) (by simp) _⟩
    simp [results, Tryd.f4, go_sem, hrs]
  · have p1 : ¬ (300 : Int) < (s.size : Int) := by omega
    obtain ⟨n, k, b, eN, eR, hn, hk, hb⟩ := next_same s.data.toList at_
    have K1 := Lib.hid (fun w hT => next_any s at_ w hT)
    have K2 := Lib.hid (fun w => rnext_any s at_ w (by omega))
    rw [eN] at K1
    rw [eR] at K2
    have K3 := Lib.hid (fun w hT => valid_any s (by omega) w hT)
    have K4 := Lib.hid (fun w => rvalid_any s w (by omega))
    have K5 := Lib.hid (fun w => rall_rows2 s w (by omega))
    have KA := Lib.hid (fun w => all_any s w)
    go_wp2_with fail
    try rw [hW0]
    refine (K1.out W0 hT0).mono ?_
    rintro e w1 ⟨rfl, hb1⟩
    have bm1 := boxed_below bm (by omega) hb1
    have br1 := boxed_below br (by omega) hb1
    have hB1 := hB0.trans (hb1.mono (by omega))
    have hT1 := tabs_low h2 hT hB1
    go_wp2_with fail
    refine (K2.out w1).mono ?_
    rintro e w2 ⟨rfl, hb2⟩
    have bm2 := boxed_below bm1 bm1.lt hb2
    have br2 := boxed_below br1 br1.lt hb2
    have hB2 := hB1.trans (hb2.mono hB1.size)
    have hT2 := tabs_low h2 hT hB2
    have c1 : (n : Int) ≤ 1114111 := by omega
    have c2 : (k : Int) ≤ 4 := by omega
    have c3 : decide ((0 : Int) < (k : Int)) = b := hb.symm
    have c4 : decide (0 < k) = b := by rw [← c3]; simp
    generalize validB s.data.toList = vb at *
    clear hb
    go_wp2_with fail
    refine (K3.out w2 hT2).mono ?_
    rintro e w3 ⟨rfl, hb3⟩
    have bm3 := boxed_below bm2 bm2.lt hb3
    have br3 := boxed_below br2 br2.lt hb3
    have hB3 := hB2.trans (hb3.mono hB2.size)
    go_wp2_with fail
    refine (K4.out w3).mono ?_
    rintro e w4 ⟨rfl, hb4⟩
    have bm4 := boxed_below bm3 bm3.lt hb4
    have br4 := boxed_below br3 br3.lt hb4
    have hB4 := hB3.trans (hb4.mono hB3.size)
    go_wp2_with fail
    refine (K5.out w4).mono ?_
    rintro e w5 ⟨v5, v6, na, rfl, hr5, hr6, hb5⟩
    have bm5 := boxed_below bm4 bm4.lt hb5
    have br5 := boxed_below br4 br4.lt hb5
    have hB5 := hB4.trans (hb5.mono hB4.size)
    have hl5 : (cpN s.data.toList).length = (cpsAt s.data.toList 0).length := List.length_map _
    have hl6 : (plN s.data.toList).length = (cpsAt s.data.toList 0).length := List.length_map _
    have hN : (cpsAt s.data.toList 0).length ≤ s.size := by
      have h1 := cps_len (s.data.toList.length - 0) s.data.toList 0 rfl
      have h3 := (Lib.size_eq s).symm
      omega
    obtain ⟨xs, hxs⟩ : ∃ xs, cpN s.data.toList = xs := ⟨_, rfl⟩
    obtain ⟨ps, hps⟩ : ∃ ps, plN s.data.toList = ps := ⟨_, rfl⟩
    obtain ⟨L, hL⟩ : ∃ L, cpsAt s.data.toList 0 = L := ⟨_, rfl⟩
    rw [hxs, hL] at hl5
    rw [hps, hL] at hl6
    rw [hL] at hN
    rw [hxs] at hr5
    rw [hps] at hr6
    obtain ⟨oa, ca, rfl, hra⟩ := hr5.ex
    obtain ⟨ob, cb, rfl, hrb⟩ := hr6.ex
    rw [hl5] at hra ⊢
    rw [hl6] at hrb ⊢
    have HRA := Lib.hid hra
    have HRB := Lib.hid hrb
    have HX := Lib.hid hxs
    have HP := Lib.hid hps
    clear hr5 hr6 hra hrb hxs hps K1 K2 K3 K4 eN eR c1 c2 c3 c4 hn hk
    have KF := fun w => func_nil 20 #[.pointer (some ⟨w5.heap.size + 1 + 1, 0, none⟩)] w
    obtain ⟨W6, hW6⟩ : ∃ W6, (((w5.alloc (.cells #[.slice oa L.length ca] 38)).alloc (.cells #[.slice ob L.length cb] 39)).alloc (.cells #[.string s] 9)).alloc (.cells #[.int .i64 0] 3) = W6 := ⟨_, rfl⟩
    have gx : Boxed W6 w5.heap.size 38 (.slice oa L.length ca) := by rw [← hW6]; exact (((Boxed.new w5 _ _).alloc _).alloc _).alloc _
    have gp : Boxed W6 (w5.heap.size + 1) 39 (.slice ob L.length cb) := by
      rw [← hW6]
      have h := Boxed.new (w5.alloc (.cells #[.slice oa L.length ca] 38)) 39 (.slice ob L.length cb)
      rw [World.size_alloc] at h
      exact (h.alloc _).alloc _
    have gs : Boxed W6 (w5.heap.size + 1 + 1) 9 (.string s) := by
      rw [← hW6]
      have h := Boxed.new ((w5.alloc (.cells #[.slice oa L.length ca] 38)).alloc (.cells #[.slice ob L.length cb] 39)) 9 (.string s)
      rw [World.size_alloc, World.size_alloc] at h
      exact h.alloc _
    have gi : Boxed W6 (w5.heap.size + 1 + 1 + 1) 3 (.int .i64 0) := by
      rw [← hW6]
      have h := Boxed.new (((w5.alloc (.cells #[.slice oa L.length ca] 38)).alloc (.cells #[.slice ob L.length cb] 39)).alloc (.cells #[.string s] 9)) 3 (.int .i64 0)
      rw [World.size_alloc, World.size_alloc, World.size_alloc] at h
      exact h
    have hz6 : W6.heap.size = w5.heap.size + 4 := by rw [← hW6]; simp
    have hB6 : Below w5.heap.size w5 W6 := by rw [← hW6]; exact ((((Below.refl _ w5).alloc (Nat.le_refl _) _).alloc (by simp) _).alloc (by simp; omega) _).alloc (by simp; omega) _
    have hz5 : w.heap.size + 2 ≤ w5.heap.size := by
      have := br5.lt
      omega
    have HW6 := Lib.hid hW6
    clear hW6
    go_wp2_with fail
    refine (KA.out _).mono ?_
    rintro e w6 ⟨rfl, rfl⟩
    go_wp2_with fail
    rw [HW6.out]
    refine (wpIn_wide (n := 3)).1 ?_
    have hB6w : Below w.heap.size w W6 := hB5.trans (hB6.mono hB5.size)
    refine wpIn_rangeFunc_ownF rfl (by omega) (gf := 20) (lb := #[.pointer (some ⟨w5.heap.size + 1 + 1, 0, none⟩)]) rfl trivial (enters_of Tryd.func20 (by kernel_rfl) rfl)
      (all_stops (3 - 1) (by omega) (w5.heap.size + 1 + 1) w.heap.size s (by omega) _ (by omega) gs.cell (fun W' h => tabs_low h2 hT (hB6w.trans h))) kpV_t (kpV_b (by omega) (by omega)) (Below.refl _ _) (fun _ => rfl)
      (fun pre W => (Boxed W (w5.heap.size + 1 + 1 + 1) 3 (.int .i64 (pre.length : Int)) ∧ Boxed W w5.heap.size 38 (.slice oa L.length ca) ∧ Boxed W (w5.heap.size + 1) 39 (.slice ob L.length cb) ∧ pre.length ≤ L.length) ∧ Below w5.heap.size w5 W)
      (fun c p W => (c = .ret ∧ (p <+: L → Boxed W (w.heap.size + 1) 4 (.bool true))) ∧ Below w.heap.size w W)
      (OwnFrom.and (Own.from (fun p A B row h hg hr => ⟨boxed_own _ _ (fun _ : Nat => _) 0 A B row h.1 hg hr, boxed_own _ _ (fun _ : Nat => _) 0 A B row h.2.1 hg hr, boxed_own _ _ (fun _ : Nat => _) 0 A B row h.2.2.1 hg hr, h.2.2.2⟩) _) (ownFrom_below (Nat.le_refl _) (by omega)))
      (fun c => OwnFrom.and (Own.from (fun p A B row h hg hr => ⟨h.1, fun hp => boxed_own _ _ (fun _ : Nat => _) 0 A B row (h.2 hp) hg hr⟩) _) (ownFrom_below (Nat.le_refl _) (by omega)))
      ⟨⟨gi, gx, gp, Nat.zero_le _⟩, hB6⟩
      (fun x => { tmps := #[.string s, .int .i64 at_, .int .i64 most, undef, undef, .pointer (some ⟨w.heap.size, 0, none⟩), .pointer (some ⟨w.heap.size + 1, 0, none⟩), .int .i32 (n : Int), .int .i64 (k : Int), .bool b, .int .i64 (n : Int), .int .i64 (k : Int), .pointer (some ⟨w5.heap.size, 0, none⟩), .pointer (some ⟨w5.heap.size + 1, 0, none⟩), .int .i64 na, .func (.func 20) #[] #[.pointer (some ⟨w5.heap.size + 1 + 1, 0, none⟩)], .pointer (some ⟨w5.heap.size + 1 + 1 + 1, 0, none⟩), .int .i64 (x.1 : Int), .int .i32 (x.2 : Int), .string s, .int .i64 (s.size : Int), .bool false, undef, .tuple #[.int .i32 (n : Int), .int .i64 (k : Int), .bool b], .string s, .int .i64 at_, .tuple #[.int .i32 (n : Int), .int .i64 (k : Int), .bool b], .int .i32 (n : Int), .int .i64 (k : Int), .bool b, .tuple #[.int .i64 (n : Int), .int .i64 (k : Int)], .string s, .int .i64 at_, .tuple #[.int .i64 (n : Int), .int .i64 (k : Int)], .int .i64 (n : Int), .int .i64 (k : Int), .int .i32 (n : Int), .int .i64 (n : Int), .int .i64 (n : Int), .bool false, .bool false, .int .i64 (k : Int), .int .i64 (k : Int), .bool false, .bool false, .bool false, .bool b, .int .i64 (k : Int), .bool b, .bool false, .bool false, .bool false, .string s, .bool vb, .string s, .bool vb, .bool false, .bool false, .tuple #[.slice oa L.length ca, .slice ob L.length cb, .int .i64 na], .string s, .tuple #[.slice oa L.length ca, .slice ob L.length cb, .int .i64 na], .slice oa L.length ca, .slice ob L.length cb, .int .i64 na, .string s, .func (.func 20) #[] #[.pointer (some ⟨w5.heap.size + 1 + 1, 0, none⟩)], .func (.func 20) #[] #[.pointer (some ⟨w5.heap.size + 1 + 1, 0, none⟩)], .bool false, .func (.func 20) #[] #[.pointer (some ⟨w5.heap.size + 1 + 1, 0, none⟩)], .int .i64 (x.1 : Int), .int .i32 (x.2 : Int), undef, undef, undef, undef, undef, undef, undef, undef, undef, undef, undef, undef, undef, undef, undef, undef, undef, undef, undef, undef, undef, undef, undef, undef, undef, undef, undef, undef, undef, undef, undef, undef, undef, undef], defers := [] }) ?assign ?body ?done ?stop
    case assign =>
      intro l x W K hK
      gi_wp2
      exact hK
    case body =>
      rintro l pre x W ⟨⟨bi, bx, bp, hpl⟩, hB⟩ _
      have bmW := boxed_below bm5 (by omega) hB
      have brW := boxed_below br5 (by omega) hB
      have hzW : w5.heap.size + 4 ≤ W.heap.size := by have := bi.lt; omega
      have hBW : Below w.heap.size w W := hB5.trans (hB.mono hB5.size)
      have ci := bi.cell
      have fi := bi.frozen
      have cx := bx.cell
      have cp := bp.cell
      have cm := bmW.cell
      have cr := brW.cell
      have fr := brW.frozen
      have q1 : (pre.length : Int) ≤ 300 := by omega
      have KST : KeepsOthers W (W.setCell ⟨w.heap.size + 1, 0, none⟩ (.bool false)) := KeepsOthers.setCell _ _ _
      have BST : Below w.heap.size w (W.setCell ⟨w.heap.size + 1, 0, none⟩ (.bool false)) := hBW.setCell (p := ⟨w.heap.size + 1, 0, none⟩) (by simp) _
      rcases Nat.lt_or_ge pre.length L.length with hlt | hge
      · obtain ⟨ga, rfl, hga, hca⟩ := HRA.out (by omega)
        obtain ⟨gb, rfl, hgb, hcb⟩ := HRB.out (by omega)
        have ga1 : W.cell? ⟨ga, pre.length, none⟩ = some (.int .i64 ((xs.getD pre.length 0 : Nat) : Int)) := (hB.cell (p := ⟨ga, pre.length, none⟩) hga).trans (hca _ hlt)
        have gb1 : W.cell? ⟨gb, pre.length, none⟩ = some (.int .i64 ((ps.getD pre.length 0 : Nat) : Int)) := (hB.cell (p := ⟨gb, pre.length, none⟩) hgb).trans (hcb _ hlt)
        obtain ⟨X, hX⟩ : ∃ X, xs.getD pre.length 0 = X := ⟨_, rfl⟩
        obtain ⟨Y, hY⟩ : ∃ Y, ps.getD pre.length 0 = Y := ⟨_, rfl⟩
        rw [hX] at ga1
        rw [hY] at gb1
        have HXY : Hid (∀ h : pre ++ [x] <+: L, x.2 = X ∧ x.1 = Y ∧ x.2 ≤ 1114111) := by
          intro h
          have h1 := (pre_at h).2
          have h2 : L[pre.length]'hlt = x := by rw [List.getElem?_eq_getElem hlt] at h1; exact Option.some.inj h1
          refine ⟨?_, ?_, ?_⟩
          · rw [← hX, ← HX.out]; unfold cpN; rw [hL]; simp [hlt, h2]
          · rw [← hY, ← HP.out]; unfold plN; rw [hL]; simp [hlt, h2]
          · exact (cps_valid _ _ 0 rfl x (by rw [hL]; exact List.mem_iff_getElem.2 ⟨_, hlt, h2⟩)).1
        clear hX hY hca hcb hga hgb
        have j1 : (pre.length : Int) < (L.length : Int) := by omega
        have j2 : ¬ L.length ≤ pre.length := by omega
        obtain ⟨z, hz⟩ : ∃ z, wrap64 (x.2 : Int) = z := ⟨_, rfl⟩
        by_cases e1 : z = (X : Int)
        · by_cases e2 : (x.1 : Int) = (Y : Int)
          · have e1b : (z == (X : Int)) = true := by simpa using e1
            have e2b : ((x.1 : Int) == (Y : Int)) = true := by simpa using e2
            have e1c : (z != (X : Int)) = false := by simpa using e1
            have e2c : ((x.1 : Int) != (Y : Int)) = false := by simpa using e2
            clear HXY
            obtain ⟨W1, hW1⟩ : ∃ W1, W.setCell ⟨w5.heap.size + 1 + 1 + 1, 0, none⟩ (.int .i64 ((pre.length : Int) + 1)) = W1 := ⟨_, rfl⟩
            have KS1 : KeepsOthers W W1 := by rw [← hW1]; exact KeepsOthers.setCell _ _ _
            have zW1 := KS1.size
            have bi1 : Boxed W1 (w5.heap.size + 1 + 1 + 1) 3 (.int .i64 (((pre ++ [x]).length : Nat) : Int)) := by
              rw [← hW1, List.length_append]
              exact bi.set _
            have bx1 : Boxed W1 w5.heap.size 38 (.slice (some ⟨ga, 0, none⟩) L.length ca) := by rw [← hW1]; exact bx.other (by omega) _
            have bp1 : Boxed W1 (w5.heap.size + 1) 39 (.slice (some ⟨gb, 0, none⟩) L.length cb) := by rw [← hW1]; exact bp.other (by omega) _
            have bm1 : Boxed W1 w.heap.size 3 (.int .i64 most) := by rw [← hW1]; exact bmW.other (by omega) _
            have br1 : Boxed W1 (w.heap.size + 1) 4 (.bool false) := by rw [← hW1]; exact brW.other (by omega) _
            have BW1 : Below w.heap.size W W1 := by rw [← hW1]; exact (Below.refl _ W).setCell (p := ⟨w5.heap.size + 1 + 1 + 1, 0, none⟩) (by show w.heap.size ≤ w5.heap.size + 1 + 1 + 1; omega) _
            have BS1 : W1.heap[w5.heap.size + 1 + 1]? = W.heap[w5.heap.size + 1 + 1]? := by rw [← hW1]; exact Below.heap_setCell W ⟨w5.heap.size + 1 + 1 + 1, 0, none⟩ _ _ (by show w5.heap.size + 1 + 1 ≠ w5.heap.size + 1 + 1 + 1; omega)
            have BQ1 : Below w5.heap.size w5 W1 := by rw [← hW1]; exact hB.setCell (p := ⟨w5.heap.size + 1 + 1 + 1, 0, none⟩) (by show w5.heap.size ≤ w5.heap.size + 1 + 1 + 1; omega) _
            have cm1 := bm1.cell
            have hT1 := tabs_low h2 hT (hBW.trans BW1)
            have HW1 := Lib.hid hW1
            clear hW1
            by_cases em : ((pre.length : Int) + 1) = most
            · have emb : (((pre.length : Int) + 1) == most) = true := by simpa using em
              clear em
              gi_wp2
              rw [HW1.out]
              refine ⟨trivial, (CallsIn.inRound l (callsIn_wide.2 (lives_any W1 hT1))).mono ?_⟩
              rintro e w8 ⟨rfl, hb8⟩
              have br8 := boxed_below br1 br1.lt hb8
              have cr8 := br8.cell
              have fr8 := br8.frozen
              gi_wp2
              exact ⟨(KS1.trans (keeps_below hb8)).trans (KeepsOthers.setCell _ _ _), ⟨rfl, fun _ => br8.set _⟩, ((hBW.trans BW1).trans (hb8.mono (by omega))).setCell (p := ⟨w.heap.size + 1, 0, none⟩) (by simp) _⟩
            · have emb : (((pre.length : Int) + 1) == most) = false := by simpa using em
              clear em
              gi_wp2
              rw [HW1.out]
              exact ⟨KS1, ⟨BW1, fun _ => BS1⟩, ⟨bi1, bx1, bp1, by rw [List.length_append]; exact hlt⟩, BQ1⟩
          · have e2b : ((x.1 : Int) == (Y : Int)) = false := by simpa using e2
            have e2c : ((x.1 : Int) != (Y : Int)) = true := by simpa using e2
            have e1c : (z != (X : Int)) = false := by simpa using e1
            gi_wp2
            exact ⟨KST, ⟨rfl, fun hp => absurd (HXY.out hp).2.1 (by omega)⟩, BST⟩
        · have e1b : (z == (X : Int)) = false := by simpa using e1
          have e1c : (z != (X : Int)) = true := by simpa using e1
          gi_wp2
          refine ⟨KST, ⟨rfl, fun hp => ?_⟩, BST⟩
          obtain ⟨h1, -, h3⟩ := HXY.out hp
          refine absurd ?_ e1
          rw [← hz, ← h1]
          unfold wrap64
          omega
      · have j1 : ¬ (pre.length : Int) < (L.length : Int) := by omega
        gi_wp2
        exact ⟨KST, ⟨rfl, fun hp => absurd (pre_at hp).1 (by omega)⟩, BST⟩
    case done =>
      rintro D ys W hD rfl ⟨⟨bi, bx, bp, hpl⟩, hB⟩ hK
      have brW := boxed_below br5 (by omega) hB
      have hBW : Below w.heap.size w W := hB5.trans (hB.mono hB5.size)
      have hTW := tabs_low h2 hT hBW
      have ci := bi.cell
      have cx := bx.cell
      rw [hL] at ci
      have hzW : w5.heap.size + 4 ≤ W.heap.size := by have := bi.lt; omega
      go_wp2_with fail
      refine (lives_any W hTW).mono ?_
      rintro e w8 ⟨rfl, hb8⟩
      have br8 := boxed_below brW brW.lt hb8
      have cr8 := br8.cell
      have fr8 := br8.frozen
      go_wp2_with fail
      have hK8 : w8.heap[D]? = some (.deferred (some [])) := (hb8.block D (Array.getElem?_eq_some_iff.1 hK).1).trans hK
      have hK' := (KeepsOthers.setCell w8 ⟨w.heap.size + 1, 0, none⟩ (.bool true)).same D _ hK8 rfl
      refine ⟨by simp, .inl ⟨_, _, rfl, run_takeDeferred hK', ?_⟩⟩
      have hc5 := cell_kept (br8.set (.bool true)).cell (grownBy_putObj' _ D (.deferred none)) (fun r e => by cases e; exact ⟨_, hK', rfl⟩)
      refine ⟨.bool true, ?_, rfl, ((hBW.trans (hb8.mono (by omega))).setCell (p := ⟨w.heap.size + 1, 0, none⟩) (by simp) _).trans (belowK_b (w := w) (Nat.le_refl _) _ D _ _ (by omega) hK' rfl rfl)⟩
      simp [results, Tryd.f4, go_sem, hc5]
    case stop =>
      rintro D c pre W hD hpre ⟨⟨rfl, hres⟩, hB⟩ hK
      rw [hL] at hpre
      have hc5 := cell_kept (hres hpre).cell (grownBy_putObj' _ D (.deferred none)) (fun r e => by cases e; exact ⟨_, hK, rfl⟩)
      refine wpIn_wide.2 ?_
      go_wp2_with fail
      refine ⟨by simp, .inl ⟨_, _, rfl, run_takeDeferred hK, ?_⟩⟩
      refine ⟨.bool true, ?_, rfl, hB.trans (belowK_b (w := w) (Nat.le_refl _) W D _ _ (by omega) hK rfl rfl)⟩
      simp [results, Tryd.f4, go_sem, hc5]
theorem tabs_reads {W : World} (h : laidMetH Tryd.prog Rows.utfReadsRow.laid W) : Tabs W := tabs_of_list h
theorem utfReads_walk (s : ByteArray) (at_ most : Int) (W : World) (_ : s.size ≤ maxLen) (_ : (Lit.int .i64 at_).wf = true) (_ : (Lit.int .i64 most).wf = true) (h : Tabs W) :
    Calls Tryd.prog 4 #[.string s, .int .i64 at_, .int .i64 most] W fun e w' => e = .returned (.bool true) ∧ Below W.heap.size W w' := utfReads_w s at_ most W h
end Go.Proofs.YtdggijibmpbpdaaDoor
