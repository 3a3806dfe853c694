/- UtfOrders: its walk. -/
import Derived.Test.YtdggijibmpbpdaaDoorUtfK
import Derived.Lib.QuietBelow
import Derived.BigQuiet
namespace Go.Proofs.YtdggijibmpbpdaaDoor
open Go.RowKit
theorem ucompare_any (a b : ByteArray) (w : World) : Calls Tryd.prog 16 #[.string a, .string b] w fun e w' => e = .returned (.int .i64 (Lib.compareBytes a.data.toList b.data.toList)) ∧ Below w.heap.size w w' := by
  have K := Lib.hid (fun w => Tryd.strings_Compare a b w)
  generalize Lib.compareBytes a.data.toList b.data.toList = C at *
  go_enter Tryd.func16, Tryd.ntmps16
  go_wp2_with fail
  refine (K.out _).mono ?_
  rintro e w1 ⟨rfl, rfl⟩
  go_wp2_with fail
  go_ret
  exact ⟨rfl, Below.refl _ _⟩
/-- A slice of numbers that a callee made. -/
structure RowN (w : World) (v : Value) (ns : List Nat) : Prop where
  ex : ∃ o c, v = .slice o ns.length c ∧ (0 < ns.length → ∃ g, o = some ⟨g, 0, none⟩ ∧ g < w.heap.size ∧ ∀ i, i < ns.length → w.cell? ⟨g, i, none⟩ = some (.int .i64 ((ns.getD i 0 : Nat) : Int)))
theorem rowN_of {w : World} {base : Nat} {v : Value} {l : List UInt8} (h : w.ownsRow base 2 1 v (cpsAt l 0).length (cpV (cpsAt l 0))) : RowN w v (cpN l) := by
  have hlen : (cpN l).length = (cpsAt l 0).length := List.length_map _
  obtain ⟨hl, hv | ⟨g, cap, cur, rfl, _, hg, hn, _, hcur, htake⟩⟩ := h
  · obtain ⟨rfl, hv⟩ := hv
    refine ⟨none, 0, by rw [hlen, hv], fun h => absurd h (by omega)⟩
  · refine ⟨some ⟨g, 0, none⟩, cap, by rw [hlen], fun _ => ⟨g, rfl, (Array.getElem?_eq_some_iff.1 hg).1, fun i hi => ?_⟩⟩
    rw [hlen] at hi
    have h1 : (cur.toList.take ((cpsAt l 0).length * 1))[i]? = some (.int .i64 (((cpN l).getD i 0 : Nat) : Int)) := by
      rw [htake]
      simp [cpV, cpN, hi]
    rw [List.getElem?_take, if_pos (by omega)] at h1
    simpa [World.cell?, hg] using h1
theorem RowN.keep {w w' : World} {v : Value} {ns : List Nat} (h : RowN w v ns) (hb : Below w.heap.size w w') : RowN w' v ns := by
  obtain ⟨o, c, e, hc⟩ := h.ex
  refine ⟨o, c, e, fun h0 => ?_⟩
  obtain ⟨g, eo, hg, hcell⟩ := hc h0
  exact ⟨g, eo, Nat.lt_of_lt_of_le hg hb.size, fun i hi => (hb.cell (p := ⟨g, i, none⟩) hg).trans (hcell i hi)⟩
theorem rall_rows (s : ByteArray) (w : World) (hs : s.size ≤ 100000) :
    Calls Tryd.prog 15 #[.string s] w fun e w' => ∃ v5 v6 a, e = .returned (.tuple #[v5, v6, .int .i64 (a : Int)]) ∧ RowN w' v5 (cpN s.data.toList) ∧ Below w.heap.size w w' :=
  (rall_any s w hs).mono fun e w' ⟨v5, v6, a, he, _, h5, _, hb⟩ => ⟨v5, v6, (a : Nat), he, rowN_of h5, hb⟩
theorem cmp_at {xs ys : List Nat} {k : Nat} (h1 : k < xs.length) (h2 : k < ys.length) : cmpN (xs.drop k) (ys.drop k) = if xs.getD k 0 < ys.getD k 0 then -1 else if ys.getD k 0 < xs.getD k 0 then 1 else cmpN (xs.drop (k + 1)) (ys.drop (k + 1)) := by
  rw [List.drop_eq_getElem_cons h1, List.drop_eq_getElem_cons h2, cmpN]
  have e1 : xs.getD k 0 = xs[k] := by rw [List.getD_eq_getElem?_getD, List.getElem?_eq_getElem h1]; rfl
  have e2 : ys.getD k 0 = ys[k] := by rw [List.getD_eq_getElem?_getD, List.getElem?_eq_getElem h2]; rfl
  rw [e1, e2]
theorem cmp_end {xs ys : List Nat} {k : Nat} (h1 : k ≤ xs.length) (h2 : k ≤ ys.length) (h : k = xs.length ∨ k = ys.length) : cmpN (xs.drop k) (ys.drop k) = if xs.length < ys.length then -1 else if ys.length < xs.length then 1 else 0 := by
  rcases h with rfl | rfl
  · rw [List.drop_length]
    cases hd : ys.drop xs.length with
    | nil =>
      have := congrArg List.length hd
      simp at this
      rw [if_neg (by omega), if_neg (by omega)]; rfl
    | cons y t =>
      have := congrArg List.length hd
      simp at this
      rw [if_pos (by omega)]; rfl
  · rw [List.drop_length]
    cases hd : xs.drop ys.length with
    | nil =>
      have := congrArg List.length hd
      simp at this
      rw [if_neg (by omega), if_neg (by omega)]; rfl
    | cons y t =>
      have := congrArg List.length hd
      simp at this
      rw [if_neg (by omega), if_pos (by omega)]; rfl
theorem cpN_len (s : ByteArray) (h : s.size ≤ 200) : (cpN s.data.toList).length ≤ 200 := by
  have h1 := cps_len (s.data.toList.length - 0) s.data.toList 0 rfl
  have h2 : (cpN s.data.toList).length = (cpsAt s.data.toList 0).length := List.length_map _
  have h3 := (Lib.size_eq s).symm
  omega
set_option maxRecDepth 20000 in
set_option maxHeartbeats 8000000 in
theorem utfOrders_w (a b : ByteArray) (w : World) (hT : Tabs w) : Calls Tryd.prog 5 #[.string a, .string b] w fun e w' => e = .returned (.bool true) ∧ Below w.heap.size w w' := by
  have h2 := tabs_size hT
  by_cases ha : 200 < a.size
  · have p1 : (200 : Int) < (a.size : Int) := by omega
    go_enter Tryd.func5, Tryd.ntmps5
    go_wp2_with fail
    refine (lives_any _ hT).mono ?_
    rintro e w1 ⟨rfl, hb⟩
    go_wp2_with fail
    go_ret
    exact ⟨rfl, hb⟩
  by_cases hb : 200 < b.size
  · have p1 : ¬ (200 : Int) < (a.size : Int) := by omega
    have p2 : (200 : Int) < (b.size : Int) := by omega
    go_enter Tryd.func5, Tryd.ntmps5
    go_wp2_with fail
    refine (lives_any _ hT).mono ?_
    rintro e w1 ⟨rfl, hb⟩
    go_wp2_with fail
    go_ret
    exact ⟨rfl, hb⟩
  have p1 : ¬ (200 : Int) < (a.size : Int) := by omega
  have p2 : ¬ (200 : Int) < (b.size : Int) := by omega
  have U1 := Lib.hid (fun w => ucompare_any a b w)
  have R1 := Lib.hid (fun w => rcompare_any a b w (by omega) (by omega))
  have U2 := Lib.hid (fun w => ucompare_any b a w)
  have hcc := cmp_cases a.data.toList b.data.toList
  rw [hcc.2] at U2
  have V1 := Lib.hid (fun w hT => valid_any a (by omega) w hT)
  have V2 := Lib.hid (fun w hT => valid_any b (by omega) w hT)
  have A1 := Lib.hid (fun w => rall_rows a w (by omega))
  have A2 := Lib.hid (fun w => rall_rows b w (by omega))
  have CV := Lib.hid (fun h1 h2 => cmp_valid (a := a.data.toList) (b := b.data.toList) (by rw [← Lib.size_eq]; omega) (by rw [← Lib.size_eq]; omega) h1 h2)
  obtain ⟨hc, -⟩ := hcc
  generalize Lib.compareBytes a.data.toList b.data.toList = C at *
  go_enter Tryd.func5, Tryd.ntmps5
  go_wp2_with fail
  refine (U1.out _).mono ?_
  rintro e w1 ⟨rfl, hb1⟩
  go_wp2_with fail
  refine (R1.out _).mono ?_
  rintro e w2 ⟨rfl, hb2⟩
  have hcw : IntKind.i64.wrap (-C) = -C := IntWalk.i64_in _ (by omega)
  have hb12 : Below w.heap.size w w2 := hb1.trans (hb2.mono hb1.size)
  clear hb1 hb2 U1 R1
  go_wp2_with fail
  refine (U2.out _).mono ?_
  rintro e w3 ⟨rfl, hb3⟩
  have hb4 : Below w.heap.size w w3 := hb12.trans (hb3.mono hb12.size)
  have T3 := Lib.hid (tabs_low h2 hT hb4)
  have HB3 := Lib.hid hb4
  clear hb4 hb3 hb12 U2
  go_wp2_with fail
  refine (V1.out _ T3.out).mono ?_
  rintro e w4 ⟨rfl, hb4⟩
  have hb5 : Below w.heap.size w w4 := HB3.out.trans (hb4.mono HB3.out.size)
  have T4 := Lib.hid (tabs_low h2 hT hb5)
  have HB4 := Lib.hid hb5
  clear hb5 hb4 V1 T3 HB3
  cases hva : validB a.data.toList with
  | false =>
    clear hva
    go_wp2_with fail
    refine (lives_any _ T4.out).mono ?_
    rintro e w5 ⟨rfl, hb⟩
    go_wp2_with fail
    go_ret
    exact ⟨rfl, HB4.out.trans (hb.mono HB4.out.size)⟩
  | true =>
    have HVA := Lib.hid hva
    clear hva
    go_wp2_with fail
    refine (V2.out _ T4.out).mono ?_
    rintro e w5 ⟨rfl, hb5⟩
    have hb6 : Below w.heap.size w w5 := HB4.out.trans (hb5.mono HB4.out.size)
    have T5 := Lib.hid (tabs_low h2 hT hb6)
    have HB5 := Lib.hid hb6
    clear hb6 hb5 V2 T4 HB4
    cases hvb : validB b.data.toList with
    | false =>
      clear hvb
      go_wp2_with fail
      refine (lives_any _ T5.out).mono ?_
      rintro e w6 ⟨rfl, hb⟩
      go_wp2_with fail
      go_ret
      exact ⟨rfl, HB5.out.trans (hb.mono HB5.out.size)⟩
    | true =>
      have HC := Lib.hid (CV.out HVA.out hvb)
      clear hvb CV HVA
      go_wp2_with fail
      refine (A1.out _).mono ?_
      rintro e w6 ⟨v5, v6, na, rfl, hr1, hb6⟩
      have hb7 : Below w.heap.size w w6 := HB5.out.trans (hb6.mono HB5.out.size)
      have HB6 := Lib.hid hb7
      clear hb7 hb6 A1 T5 HB5
      go_wp2_with fail
      refine (A2.out _).mono ?_
      rintro e w7 ⟨v7, v8, nb, rfl, hr2, hb7⟩
      have hr3 := hr1.keep hb7
      have hb8 : Below w.heap.size w w7 := HB6.out.trans (hb7.mono HB6.out.size)
      have T7 := Lib.hid (tabs_low h2 hT hb8)
      have HB7 := Lib.hid hb8
      clear hb8 hb7 A2 HB6 hr1
      obtain ⟨xs, hxs⟩ : ∃ xs, cpN a.data.toList = xs := ⟨_, rfl⟩
      obtain ⟨ys, hys⟩ : ∃ ys, cpN b.data.toList = ys := ⟨_, rfl⟩
      have hx9 := cpN_len a (by omega)
      have hy9 := cpN_len b (by omega)
      rw [hxs] at hx9
      rw [hys] at hy9
      rw [hxs, hys] at HC
      rw [hxs] at hr3
      rw [hys] at hr2
      clear hxs hys
      obtain ⟨oa, ca, rfl, hra⟩ := hr3.ex
      obtain ⟨ob, cb, rfl, hrb⟩ := hr2.ex
      have HRA := Lib.hid hra
      have HRB := Lib.hid hrb
      clear hr3 hr2 hra hrb hT
      go_wp2_with fail
      go_loopw [12] (fun i wr => ∃ k : Nat, k ≤ xs.length ∧ k ≤ ys.length ∧ i = .int .i64 (k : Int) ∧ Hid (C = cmpN (xs.drop k) (ys.drop k)) ∧ Below w7.heap.size w7 wr) (fun i _ => xs.length - (Go.RowKit.intOf i).toNat)
      case atStart => exact ⟨0, by omega, by omega, rfl, HC, Below.refl _ _⟩
      case round =>
        obtain ⟨k, hk1, hk2, rfl, HK, hbe⟩ := hrel
        have TW := tabs_low (tabs_size T7.out) T7.out hbe
        have hw2 := tabs_size TW
        have HBW := Lib.hid (HB7.out.trans (hbe.mono HB7.out.size))
        have KL := Lib.hid (fun q d os => lives_any (Sort.grow (redrawn (wr.drewN q) d) os) (tabs_low hw2 TW ((below_dN (Below.refl _ wr) q).trans (below_regrown (wr.drewN q) d os))))
        have KL0 := Lib.hid (lives_any wr TW)
        have HMIX := Lib.hid (show Tryd.prog.follows .mixedOrders = true by kernel_rfl)
        clear T7 TW
        by_cases h1 : k < xs.length
        · by_cases h2 : k < ys.length
          · obtain ⟨ga0, rfl, hga, hca⟩ := HRA.out (by omega)
            obtain ⟨gb0, rfl, hgb, hcb⟩ := HRB.out (by omega)
            have ga : wr.cell? ⟨ga0, k, none⟩ = some (.int .i64 ((xs.getD k 0 : Nat) : Int)) := (hbe.cell (p := ⟨ga0, k, none⟩) hga).trans (hca k h1)
            have gb : wr.cell? ⟨gb0, k, none⟩ = some (.int .i64 ((ys.getD k 0 : Nat) : Int)) := (hbe.cell (p := ⟨gb0, k, none⟩) hgb).trans (hcb k h2)
            have HS := Lib.hid (cmp_at h1 h2)
            obtain ⟨x, hx⟩ : ∃ x, xs.getD k 0 = x := ⟨_, rfl⟩
            obtain ⟨y, hy⟩ : ∃ y, ys.getD k 0 = y := ⟨_, rfl⟩
            rw [hx, hy] at HS
            rw [hx] at ga
            rw [hy] at gb
            have j1 : (k : Int) < (xs.length : Int) := by omega
            have j2 : (k : Int) < (ys.length : Int) := by omega
            have CA := fun q d os => cell_regrown (w := wr.drewN q) (a := ⟨ga0, k, none⟩) ga d os
            have CB := fun q d os => cell_regrown (w := wr.drewN q) (a := ⟨gb0, k, none⟩) gb d os
            have HBE := Lib.hid hbe
            clear hx hy hca hcb hga hgb HRA HRB hbe
            rcases Nat.lt_trichotomy x y with hxy | hxy | hxy
            · have hxy' := hxy
              have HF : Hid (C = -1) := by
                show C = -1
                rw [HK.out, HS.out, if_pos hxy]
              have hC : C = -1 := HF.out
              subst hC
              clear HK HS hc hcw HC
              have d1 : ((x : Int) == (y : Int)) = false := by simp; omega
              have d2 : ¬ (x : Int) = (y : Int) := by omega
              have d4 : ¬ x = y := by omega
              have d3 : decide ((x : Int) < (y : Int)) = true := by simp; omega
              go_wp2_with fail
              go_quiet (fail)
              go_wp2_with fail
              refine wp_region_quiet_below HMIX.out (by kernel_rfl) ?_
              repeat (go_big_quiet_step (first
                | (go_at_call 6; exact Calls.regrown_of (KL.out _ _ _))))
              refine wpQuiet_nil ?_
              intro _ hw'
              obtain ⟨⟨nq, osq⟩, hw''⟩ := hw'
              subst hw''
              go_wp2_with fail
              go_ret
              exact ⟨rfl, (below_dN HBW.out _).trans ((below_regrown _ nq osq).mono HBW.out.size)⟩
            · subst hxy
              have HF : Hid (C = cmpN (xs.drop (k + 1)) (ys.drop (k + 1))) := by
                show C = _
                rw [HK.out, HS.out, if_neg (by omega), if_neg (by omega)]
              clear CA CB
              go_wp2_with fail
              go_quiet (fail)
              go_wp2_with fail
              go_roundw
              case rel => exact ⟨k + 1, by omega, by omega, congrArg (Value.int .i64) (by omega), HF, below_dN HBE.out _⟩
              case measure =>
                simp [Go.RowKit.intOf]
                omega
            · have hxy' := hxy
              have HF : Hid (C = 1) := by
                show C = 1
                rw [HK.out, HS.out, if_neg (by omega), if_pos hxy]
              have hC : C = 1 := HF.out
              subst hC
              clear HK HS hc hcw HC
              have d1 : ((x : Int) == (y : Int)) = false := by simp; omega
              have d2 : ¬ (x : Int) = (y : Int) := by omega
              have d4 : ¬ x = y := by omega
              have d3 : decide ((x : Int) < (y : Int)) = false := by simp; omega
              have d5 : ¬ (x : Int) < (y : Int) := by omega
              have d6 : ¬ x < y := by omega
              have d7 : decide (x < y) = false := decide_eq_false d6
              have d8 : y ≤ x := by omega
              go_wp2_with fail
              go_quiet (fail)
              go_wp2_with fail
              refine wp_region_quiet_below HMIX.out (by kernel_rfl) ?_
              repeat (go_big_quiet_step (first
                | (go_at_call 6; exact Calls.regrown_of (KL.out _ _ _))))
              refine wpQuiet_nil ?_
              intro _ hw'
              obtain ⟨⟨nq, osq⟩, hw''⟩ := hw'
              subst hw''
              go_wp2_with fail
              go_ret
              exact ⟨rfl, (below_dN HBW.out _).trans ((below_regrown _ nq osq).mono HBW.out.size)⟩
          · obtain rfl : k = ys.length := by omega
            have j1 : ((ys.length : Nat) : Int) < (xs.length : Int) := by omega
            have HE := Lib.hid (cmp_end hk1 hk2 (.inr rfl))
            have HF : Hid (C = 1) := by
              show C = 1
              rw [HK.out, HE.out, if_neg (by omega), if_pos h1]
            have hC : C = 1 := HF.out
            subst hC
            clear HK HE HC hc hcw
            have j3 : ¬ (xs.length : Int) < (ys.length : Int) := by omega
            have j4 : ¬ (xs.length : Int) = (ys.length : Int) := by omega
            have j5 : ((xs.length : Int) == (ys.length : Int)) = false := by simpa using j4
            go_wp2_with fail
            refine KL0.out.mono ?_
            rintro e w8 ⟨rfl, hb8⟩
            go_wp2_with fail
            go_ret
            exact ⟨rfl, HBW.out.trans (hb8.mono HBW.out.size)⟩
        · obtain rfl : k = xs.length := by omega
          have HE := Lib.hid (cmp_end hk1 hk2 (.inl rfl))
          have j1 : ¬ (xs.length : Int) < (xs.length : Int) := by omega
          rcases Nat.eq_or_lt_of_le hk2 with he | hlt
          · have HF : Hid (C = 0) := by
              show C = 0
              rw [HK.out, HE.out, if_neg (by omega), if_neg (by omega)]
            have hC : C = 0 := HF.out
            subst hC
            clear HK HE HC hc hcw
            have j3 : ¬ (xs.length : Int) < (ys.length : Int) := by omega
            have j4 : (xs.length : Int) = (ys.length : Int) := by omega
            have j5 : ((xs.length : Int) == (ys.length : Int)) = true := by simpa using j4
            have j6 : ¬ xs.length < ys.length := by omega
            have j7 : ys.length ≤ xs.length := by omega
            have j8 : (xs.length == ys.length) = true := by simpa using he
            clear j4
            go_wp2_with fail
            refine KL0.out.mono ?_
            rintro e w8 ⟨rfl, hb8⟩
            go_wp2_with fail
            go_ret
            exact ⟨rfl, HBW.out.trans (hb8.mono HBW.out.size)⟩
          · have HF : Hid (C = -1) := by
              show C = -1
              rw [HK.out, HE.out, if_pos hlt]
            have hC : C = -1 := HF.out
            subst hC
            clear HK HE HC hc hcw
            have j3 : (xs.length : Int) < (ys.length : Int) := by omega
            have j4 : ¬ (xs.length : Int) = (ys.length : Int) := by omega
            have j5 : ((xs.length : Int) == (ys.length : Int)) = false := by simpa using j4
            go_wp2_with fail
            refine KL0.out.mono ?_
            rintro e w8 ⟨rfl, hb8⟩
            go_wp2_with fail
            go_ret
            exact ⟨rfl, HBW.out.trans (hb8.mono HBW.out.size)⟩
end Go.Proofs.YtdggijibmpbpdaaDoor
