/- The law of layer 26 runs: it returns true. -/
import Derived.Test.YtoccoagkakeenafVerB
namespace Go.Proofs.Ytoccoagkakeenaf
open Go.RowKit
theorem alike_two (a b r : Int) (t : Bool) (n : Nat) (w : World) (hn : n < w.heap.size) (h0 : w.cell? ⟨n, 0, none⟩ = some (.int .i64 a)) (h1 : w.cell? ⟨n, 1, none⟩ = some (.int .i64 b)) (_hr : r = 0)
    (ht : ((decide (1 ≤ a ∧ a ≤ 11) && sameB a a) && (decide (1 ≤ b ∧ b ≤ 11) && sameB b a)) = t) :
    Calls Try.prog 14 #[.slice (some ⟨n, 0, none⟩) 2 2] w fun e w' => e = .returned (.bool t) ∧ Below w.heap.size w w' := by
  refine (alike_row n 0 2 2 [a, b] w (by omega) (by decide) rfl hn ?_ (by omega)).mono ?_
  · intro i hi
    match i, hi with
    | 0, _ => simpa using h0
    | 1, _ => simpa using h1
  · rintro e w' ⟨rfl, hb⟩
    refine ⟨ret_bool ?_, hb⟩
    rw [← ht]
    simp
theorem verLives_any (w : World) :
    Calls Try.prog 11 #[] w fun e w' => e = .returned (.bool true) ∧ Below w.heap.size w w' := by
  have he := eql_rules
  have a1 : gA 3 = false := rfl
  have a2 : gB 3 = false := rfl
  have a3 : gC 3 = true := rfl
  have a4 : gD 3 = false := rfl
  have a5 : gE 3 = false := rfl
  have a6 : gF 3 = false := rfl
  have a7 : ev 3 = 0 := rfl
  have a8 : ev 12 = 24 := rfl
  go_enter Try.func11, Try.ntmps11
  go_wp2_with (go_at_call 12; refine (vof_any _ _).mono ?_; rintro e w' ⟨rfl, rfl⟩)
  refine (alike_two 4 5 0 true _ _ (by simp) (by simp [go_sem]) (by simp [go_sem]) rfl (by decide +kernel)).mono ?_
  rintro e w1 ⟨rfl, hb1⟩
  go_wp2_with (fail)
  refine (alike_two 3 4 0 false _ _ (by simp) (by simp [go_sem]) (by simp [go_sem]) rfl (by decide +kernel)).mono ?_
  rintro e w2 ⟨rfl, hb2⟩
  go_wp2_with (fail)
  go_ret
  refine ⟨rfl, gr_step (gr_alloc (gr_step ?_ hb1) _) hb2⟩
  repeat (first | exact Below.refl _ _ | apply gr_alloc | apply below_drewN)
theorem take_all_succ (G : Int → Bool) (zs : List Int) (k : Nat) (hk : k < zs.length) : (zs.take (k + 1)).all G = ((zs.take k).all G && G (zs.getD k 0)) := by
  rw [List.take_succ_eq_append_getElem hk, List.all_append, getD_at zs k hk]; simp
/-- What is true of a version, one behind the other. -/
def flag (v : Int) (i : Nat) : Bool := [gA v, gA v, gB v, gC v, gD v, gE v, gF v].getD i false
/-- The first so many are alike. -/
def pref (v z : Int) (j : Nat) : Bool := (List.range j).all fun i => flag v i == flag z i
theorem pref_succ (v z : Int) (j : Nat) : pref v z (j + 1) = (pref v z j && (flag v j == flag z j)) := by simp [pref, List.range_succ]
theorem pref_7 (v z : Int) : pref v z 7 = sameB v z := by simp [pref, List.range_succ, flag, sameB]
theorem flag_at (v : Int) (j : Nat) (hj : j < 7) : (#[Value.bool (gA v), .bool (gA v), .bool (gB v), .bool (gC v), .bool (gD v), .bool (gE v), .bool (gF v)] : Array Value)[j]? = some (.bool (flag v j)) := by
  match j, hj with
  | 0, _ => rfl
  | 1, _ => rfl
  | 2, _ => rfl
  | 3, _ => rfl
  | 4, _ => rfl
  | 5, _ => rfl
  | 6, _ => rfl
set_option maxRecDepth 100000 in
theorem law_row (b off len cap : Nat) (zs : List Int) (w : World) (hl : len ≤ cap) (hm : cap ≤ maxLen) (hz : zs.length = cap) (hbl : b < w.heap.size)
    (hcell : ∀ i, i < zs.length → w.cell? ⟨b, off + i, none⟩ = some (.int .i64 (zs.getD i 0))) (h0 : 0 < len) (h20 : len ≤ 20) :
    Calls Try.prog 5 #[.slice (some ⟨b, off, none⟩) len cap] w fun e w' =>
      e = .returned (.bool true) ∧ Below w.heap.size w w' := by
  generalize hG : (fun v => decide (1 ≤ v ∧ v ≤ 11) && sameB v (zs.getD 0 0)) = G
  have HG := Lib.hid hG
  have HZ := Lib.hid hz
  have HC := Lib.hid hcell
  have hn := neq_rules
  have t20 : decide ((20 : Int) < (len : Int)) = false := by simp; omega
  have HM := Lib.hid hm
  clear hG hz hcell hm
  go_enter Try.func5, Try.ntmps5
  go_wp2_with fail
  go_loopw [19, 3] (fun i al wr => ∃ k : Nat, k ≤ len ∧ i = .int .i64 k ∧ al = .bool ((zs.take k).all G) ∧ Below w.heap.size w wr)
    (fun i _ _ => len - (intOf i).toNat)
  case atStart => exact ⟨0, by omega, rfl, rfl, Below.refl _ _⟩
  case round =>
    obtain ⟨k, hk, rfl, rfl, hb⟩ := hrel
    generalize hA : (zs.take k).all G = A
    have HA := Lib.hid hA
    clear hA
    have hbr : b < wr.heap.size := Nat.lt_of_lt_of_le hbl hb.size
    have hbr1 : b < wr.heap.size + 1 := by omega
    have hbr2 : b < wr.heap.size + 1 + 1 := by omega
    have hbr3 : b < wr.heap.size + 1 + 1 + 1 := by omega
    by_cases hlt : k < len
    · have hck : wr.cell? ⟨b, off + k, none⟩ = some (.int .i64 (zs.getD k 0)) := (hb.cell (by exact hbl)).trans (HC.out k (by have := HZ.out; omega))
      have hc00 : wr.cell? ⟨b, off, none⟩ = some (.int .i64 (zs.getD 0 0)) := (hb.cell (by exact hbl)).trans (by simpa using HC.out 0 (by have := HZ.out; omega))
      have HS := take_all_succ G zs k (by have := HZ.out; omega)
      rw [HA.out] at HS
      obtain ⟨v, hv⟩ : ∃ v, v = zs.getD k 0 := ⟨_, rfl⟩
      obtain ⟨z, hz0⟩ : ∃ z, z = zs.getD 0 0 := ⟨_, rfl⟩
      rw [← hv] at hck HS
      rw [← hz0] at hc00
      have HGv : Hid (G v = (decide (1 ≤ v ∧ v ≤ 11) && sameB v z)) := by show _ = _; rw [← HG.out, hz0]
      have HAz : Hid (¬ (1 ≤ z ∧ z ≤ 11) → 1 ≤ v ∧ v ≤ 11 → A = false) := by
        intro g1 g2
        by_cases hk0 : k = 0
        · subst hk0; exact absurd (by rw [hz0, ← hv]; exact g2) g1
        · rw [← HA.out]
          refine all_take_no G zs k 0 (by have := HZ.out; omega) (by omega) ?_
          rw [← hz0, ← HG.out]
          simp [g1]
      have HS' := Lib.hid HS
      clear hv hz0 HS
      by_cases hok : 1 ≤ v ∧ v ≤ 11
      · obtain ⟨f1, f2, f3, f4, f5, f6, e7⟩ := g_in v hok.1 hok.2
        have e8 : (ev v != 0) = false := by rw [e7]; rfl
        have hok' := Lib.hid hok
        clear hok e7
        go_wp2_with (first
          | (go_at_call 12; refine (vof_any _ _).mono ?_; rintro e w' ⟨rfl, rfl⟩)
          | (go_at_call 13; refine (rof_in v _ (by have := hok'.out; omega) (by have := hok'.out; omega)).mono ?_; rintro e w' ⟨rfl, rfl⟩))
        go_quiet (fail)
        by_cases hzok : 1 ≤ z ∧ z ≤ 11
        · obtain ⟨d1, d2, d3, d4, d5, d6, _⟩ := g_in z hzok.1 hzok.2
          have hzok' := Lib.hid hzok
          clear hzok
          go_wp2_with (go_at_call 13; refine (rof_in z _ (by have := hzok'.out; omega) (by have := hzok'.out; omega)).mono ?_; rintro e w' ⟨rfl, rfl⟩)
          obtain ⟨wo, rfl⟩ : ∃ wo : World, wo = wr := ⟨_, rfl⟩
          go_loopw [3, 12, 79] (fun al _ i wi => ∃ j : Nat, j ≤ 7 ∧ i = .int .i64 j ∧ al = .bool (A && pref v z j) ∧ (∀ i, i < 7 → wi.cell? ⟨wo.heap.size + 1 + 1, i, none⟩ = some (.bool (flag v i))) ∧
              (∀ i, i < 7 → wi.cell? ⟨wo.heap.size + 1 + 1 + 1, i, none⟩ = some (.bool (flag z i))) ∧ Below w.heap.size w wi)
            (fun _ _ i _ => 7 - (intOf i).toNat)
          case atStart =>
            refine ⟨0, by omega, rfl, by simp [pref], fun i hi => ?_, fun i hi => ?_, ?_⟩
            · rw [← flag_at v i hi]; simp [go_sem]
            · rw [← flag_at z i hi]; simp [go_sem]
            · repeat (first | exact hb | apply gr_alloc | apply below_drewN)
          case round =>
            obtain ⟨j, hj, rfl, rfl, hcv, hcz, hbi⟩ := hrel
            by_cases hj7 : j < 7
            · have c1 := hcv j hj7
              have c2 := hcz j hj7
              have hji : (j : Int) < 7 := by omega
              have HP := Lib.hid (pref_succ v z j)
              generalize hP : (A && pref v z j) = P
              have HP2 := Lib.hid hP
              have hcv' := Lib.hid hcv
              have hcz' := Lib.hid hcz
              clear hP hcv hcz
              cases P
              · go_wp2_with fail
                go_quiet (fail)
                go_wp2_with fail
                go_roundw
                case rel => exact ⟨j + 1, by omega, by go_num, by rw [HP.out, ← Bool.and_assoc, HP2.out]; simp, fun i hi => by simpa [go_sem] using hcv'.out i hi, fun i hi => by simpa [go_sem] using hcz'.out i hi, below_drewN hbi _⟩
                case measure => simp [intOf]; omega
              · go_wp2_with fail
                go_quiet (fail)
                go_wp2_with fail
                go_roundw
                case rel => exact ⟨j + 1, by omega, by go_num, by rw [HP.out, ← Bool.and_assoc, HP2.out]; simp, fun i hi => by simpa [go_sem] using hcv'.out i hi, fun i hi => by simpa [go_sem] using hcz'.out i hi, below_drewN hbi _⟩
                case measure => simp [intOf]; omega
            · go_wp2_with fail
              go_roundw
              case rel => exact ⟨k + 1, by omega, by go_num, by (obtain rfl : j = 7 := by omega); rw [pref_7, HS'.out, HGv.out, decide_eq_true hok'.out]; simp, hbi⟩
              case measure => simp [intOf]; omega
        · have hzok' := Lib.hid hzok
          clear hzok
          go_wp2_with (go_at_call 13; refine (rof_out z _ (by have := hzok'.out; omega)).mono ?_; rintro e w' ⟨rfl, rfl⟩)
          go_loopw [3, 12, 79] (fun al _ i wi => i = .int .i64 0 ∧ al = .bool A ∧ Below w.heap.size w wi) (fun _ _ _ _ => 0)
          case atStart =>
            refine ⟨rfl, rfl, ?_⟩
            repeat (first | exact hb | apply gr_alloc | apply below_drewN)
          case round =>
            obtain ⟨rfl, rfl, hbi⟩ := hrel
            go_wp2_with fail
            go_roundw
            case rel => exact ⟨k + 1, by omega, by go_num, by rw [HS'.out, HAz.out hzok'.out hok'.out]; simp, hbi⟩
            case measure => simp [intOf]; omega
      · obtain ⟨e1, e2, e3, e4, e5, e6, e7⟩ := g_out v (by omega)
        have e8 : (ev v != 24) = false := by rw [e7]; rfl
        have e9 : (ev v == 24) = true := by rw [e7]; rfl
        have hok' := Lib.hid hok
        clear hok e7
        go_wp2_with (first
          | (go_at_call 12; refine (vof_any _ _).mono ?_; rintro e w' ⟨rfl, rfl⟩)
          | (go_at_call 13; refine (rof_out _ _ (by have := hok'.out; omega)).mono ?_; rintro e w' ⟨rfl, rfl⟩))
        go_roundw
        case rel => exact ⟨k + 1, by omega, by go_num, by rw [HS'.out, HGv.out, decide_eq_false hok'.out]; simp, gr_alloc (gr_alloc hb _) _⟩
        case measure => simp [intOf]; omega
    · obtain rfl : k = len := by omega
      go_wp2_with (first
        | (go_at_call 14; refine (alike_row b off k cap zs _ hl HM.out HZ.out hbr (fun i hi => (hb.cell (by exact hbl)).trans (HC.out i hi)) h0).mono ?_; rw [HG.out, HA.out]; rintro e w' ⟨rfl, hb1⟩)
        | (go_at_call 11; refine (verLives_any _).mono ?_; rintro e w' ⟨rfl, hb2⟩))
      go_ret
      exact ⟨rfl, gr_step (gr_step hb hb1) hb2⟩
end Go.Proofs.Ytoccoagkakeenaf
