/- The reference's Next (layer 3): what it answers. -/
import Derived.Test.YtcadklhjhjbhaaaDoorUtfE
import Derived.Lib.QuietBelow
import Derived.BigQuiet
namespace Go.Proofs.YtcadklhjhjbhaaaDoor
set_option maxRecDepth 20000
set_option linter.unusedSimpArgs false
set_option linter.unusedVariables false
open Go.RowKit Go.Lib
theorem loose_form {n : Nat} (hn : isCp n) : looseN (form n) = n := by
  have hl : form n = form n ++ (form n).drop (form n).length := by rw [List.drop_length, List.append_nil]
  rcases form_cases hn with ⟨c1, e⟩ | ⟨c1, c2, e⟩ | ⟨c1, c2, c3, e⟩ | ⟨c1, c2, e⟩
  · have k : (form n).length = 1 := by rw [← List.length_map (f := UInt8.toNat), e]; rfl
    have b0 := head_at hl e 0 (by simp)
    simp only [List.getElem_cons_zero] at b0
    unfold looseN
    rw [k]
    show lo0 _ = _
    unfold lo0
    rw [k, if_neg (by decide), if_neg (by decide), if_neg (by decide), b0]
  · have k : (form n).length = 2 := by rw [← List.length_map (f := UInt8.toNat), e]; rfl
    have b0 := head_at hl e 0 (by simp)
    have b1 := head_at hl e 1 (by simp)
    simp only [List.getElem_cons_zero, List.getElem_cons_succ] at b0 b1
    unfold looseN
    rw [k]
    show 64 * lo0 _ + _ = _
    unfold lo0
    rw [k, if_pos rfl, b0, b1]
    omega
  · have k : (form n).length = 3 := by rw [← List.length_map (f := UInt8.toNat), e]; rfl
    have b0 := head_at hl e 0 (by simp)
    have b1 := head_at hl e 1 (by simp)
    have b2 := head_at hl e 2 (by simp)
    simp only [List.getElem_cons_zero, List.getElem_cons_succ] at b0 b1 b2
    unfold looseN
    rw [k]
    show 64 * (64 * lo0 _ + _) + _ = _
    unfold lo0
    rw [k, if_neg (by decide), if_pos rfl, b0, b1, b2]
    omega
  · have k : (form n).length = 4 := by rw [← List.length_map (f := UInt8.toNat), e]; rfl
    have b0 := head_at hl e 0 (by simp)
    have b1 := head_at hl e 1 (by simp)
    have b2 := head_at hl e 2 (by simp)
    have b3 := head_at hl e 3 (by simp)
    simp only [List.getElem_cons_zero, List.getElem_cons_succ] at b0 b1 b2 b3
    unfold looseN
    rw [k]
    show 64 * (64 * (64 * lo0 _ + _) + _) + _ = _
    unfold lo0
    rw [k, if_neg (by decide), if_neg (by decide), if_pos rfl, b0, b1, b2, b3]
    omega
/-- A try at a width finds the code point just if it has that width. -/
theorem try_hit {l : List UInt8} {z : Nat} (hz : z ≤ l.length) : (isCp (looseN (l.take z)) ∧ form (looseN (l.take z)) = l.take z) ↔ ∃ n, nx l = some (n, z) ∧ looseN (l.take z) = n := by
  constructor
  · rintro ⟨h1, h2⟩
    refine ⟨_, nx_iff.2 ⟨h1, ?_, ?_⟩, rfl⟩
    · rw [h2]; exact List.take_prefix _ _
    · rw [h2, List.length_take]; omega
  · rintro ⟨n, h1, rfl⟩
    obtain ⟨h2, h3, h4⟩ := nx_form h1
    exact ⟨h2, h3⟩
theorem hit_of {l : List UInt8} {n z : Nat} (h : nx l = some (n, z)) : isCp n ∧ looseN (l.take z) = n ∧ form n = l.take z := by
  obtain ⟨h2, h3, h4⟩ := nx_form h
  exact ⟨h2, by rw [← h3]; exact loose_form h2, h3⟩
def retR : Option (Nat × Nat) → Ending
  | none => .returned (.tuple #[.int .i64 0, .int .i64 0])
  | some (n, k) => .returned (.tuple #[.int .i64 (n : Int), .int .i64 (k : Int)])
theorem extract_mid (s : ByteArray) (a z : Nat) : s.extract a (a + z) = ⟨((s.data.toList.drop a).take z).toArray⟩ := by
  obtain ⟨⟨l⟩⟩ := s
  rw [ByteArray.extract_mk]
  congr 1
  apply Array.ext'
  show List.take (a + z - a) (List.drop a l) = _
  rw [Nat.add_sub_cancel_left]
set_option maxRecDepth 20000 in
set_option maxHeartbeats 8000000 in
theorem rnext_any (s : ByteArray) (a : Int) (w : World) (hs : s.size ≤ 100000) :
    Calls Tryd.prog 34 #[.string s, .int .i64 a] w fun e w' => e = retR (nextV s.data.toList a) ∧ Below w.heap.size w w' := by
  have hmix : Tryd.prog.follows .mixedOrders = true := by kernel_rfl
  have hsl : s.data.toList.length = s.size := (Lib.size_eq s).symm
  by_cases h : 0 ≤ a ∧ a < (s.size : Int)
  · obtain ⟨h0, h1⟩ := h
    obtain ⟨a, rfl⟩ := Int.eq_ofNat_of_zero_le h0
    have HN := Lib.hid (nextV_nat s.data.toList a)
    obtain ⟨l, hl⟩ : ∃ l, s.data.toList.drop a = l := ⟨_, rfl⟩
    rw [hl] at HN
    obtain ⟨m, hm⟩ : ∃ m, l.length = m := ⟨_, rfl⟩
    have hm2 : a + m = s.size := by
      have := congrArg List.length hl
      rw [List.length_drop, hsl, hm] at this
      omega
    have hm1 : (s.size : Int) - (a : Int) = (m : Int) := by omega
    have HM := Lib.hid hm
    have EX : Hid (∀ z, s.extract a (a + z) = ⟨(l.take z).toArray⟩) := fun z => by rw [extract_mid, hl]
    have hpos : 1 ≤ m := by omega
    have g1 : decide ((a : Int) < 0) = false := decide_eq_false (by omega)
    have g2 : decide ((s.size : Int) ≤ (a : Int)) = false := decide_eq_false (by omega)
    have g3 : decide (s.size ≤ a) = false := decide_eq_false (by omega)
    clear hl hm hsl h0
    go_enter Tryd.func34, Tryd.ntmps34
    go_wp2_with fail
    go_loopw [6] (fun v W => ∃ z : Nat, 1 ≤ z ∧ z ≤ 5 ∧ v = .int .i64 (z : Int) ∧ (∀ n k, nx l = some (n, k) → z ≤ k) ∧ Below w.heap.size w W) (fun v _ => 5 - (Go.RowKit.intOf v).toNat)
    case atStart => exact ⟨1, by omega, by omega, rfl, fun n k h => (nx_pos h).1, Below.refl _ _⟩
    case round =>
      obtain ⟨z, hz1, hz5, rfl, hno, hbe⟩ := hrel
      have HNO := Lib.hid hno
      have HB := Lib.hid hbe
      clear hno hbe
      by_cases hz : z ≤ 4 ∧ z ≤ m
      · obtain ⟨hz4, hzm⟩ := hz
        have j1 : (z : Int) ≤ 4 := by omega
        have j2 : (z : Int) ≤ (m : Int) := by omega
        have j3 : (a : Int) + (z : Int) ≤ (s.size : Int) := by omega
        obtain ⟨az, haz⟩ : ∃ az, a + z = az := ⟨_, rfl⟩
        have j4 : (a : Int) + (z : Int) = (az : Int) := by omega
        have j5 : IntKind.i64.wrap ((a : Int) + (z : Int)) = (az : Int) := by rw [j4]; exact IntWalk.i64_in _ (by omega)
        have j6 : (az : Int) ≤ (s.size : Int) := by omega
        have j8 : IntKind.i64.wrap (az : Int) = (az : Int) := IntWalk.i64_in _ (by omega)
        have j7 : (a : Int) ≤ (az : Int) := by omega
        obtain ⟨T, hT⟩ : ∃ T : ByteArray, T = ⟨(l.take z).toArray⟩ := ⟨_, rfl⟩
        have ex : s.extract a az = T := by rw [← haz, EX.out, hT]
        have hTz : T.size = z := by rw [hT]; show (l.take z).length = z; rw [List.length_take, HM.out]; omega
        have KL := Lib.hid (loose_any T wr (by omega) (by omega))
        rw [show T.data.toList = l.take z by rw [hT]] at KL
        have HIT := Lib.hid (try_hit (l := l) (z := z) (by rw [HM.out]; exact hzm))
        have HOF : Hid (∀ n, nx l = some (n, z) → isCp n ∧ looseN (l.take z) = n ∧ form n = l.take z) := fun n h => hit_of h
        have HT := Lib.hid hT
        obtain ⟨N, hN⟩ : ∃ N, looseN (l.take z) = N := ⟨_, rfl⟩
        rw [hN] at KL
        have HNN := Lib.hid hN
        clear hT haz hN
        by_cases hcp : isCp N
        · have KI := Lib.hid (fun w => (is_yes N w hcp).mono (R' := fun e w' => e = .returned (.bool true) ∧ Below w.heap.size w w') fun e w' ⟨he, hw⟩ => ⟨he, by rw [← hw]; exact Below.refl _ _⟩)
          have KF := Lib.hid (fun w => form_any N w hcp)
          obtain ⟨F, hF⟩ : ∃ F : ByteArray, F = ⟨(form N).toArray⟩ := ⟨_, rfl⟩
          rw [show strV (form N) = .string F by rw [hF]; rfl] at KF
          by_cases heq : form N = l.take z
          · have hFT : F = T := by rw [hF, HT.out, heq]
            subst hFT
            have HFOUND : Hid (nx l = some (N, z)) := by
              obtain ⟨n, h1, h2⟩ := HIT.out.1 (by rw [HNN.out]; exact ⟨hcp, heq⟩)
              show nx l = _
              rw [h1, ← h2, HNN.out]
            clear hF heq hcp HIT HOF
            go_wp2_with (go_at_call 53; refine KL.out.mono ?_; rintro e w' ⟨rfl, rfl⟩)
            refine wp_region_quiet_below hmix (by kernel_rfl) ?_
            repeat (quiet_step (first
              | (go_at_call 54; exact Calls.regrown_of (KI.out _))
              | (go_at_call 36; exact Calls.regrown_of (KF.out _))))
            refine wpQuiet_nil ?_
            intro _ hw'
            obtain ⟨⟨nq, osq⟩, hw''⟩ := hw'
            subst hw''
            have hbq := below_regrown wr nq osq
            go_wp2_with fail
            go_ret2
            refine ⟨?_, HB.out.trans (hbq.mono HB.out.size)⟩
            rw [HN.out, HFOUND.out]
            rfl
          · have hFT : (F.toList == T.toList) = false := by
              rw [ByteArray.toList_eq, ByteArray.toList_eq, hF, HT.out, beq_eq_false_iff_ne]
              exact heq
            have HMISS : Hid (∀ n, nx l ≠ some (n, z)) := fun n h => by
              obtain ⟨g1, g2, g3⟩ := HOF.out n h
              rw [HNN.out] at g2
              exact heq (by rw [g2]; exact g3)
            clear hF heq hcp HIT HOF
            go_wp2_with (go_at_call 53; refine KL.out.mono ?_; rintro e w' ⟨rfl, rfl⟩)
            refine wp_region_quiet_below hmix (by kernel_rfl) ?_
            repeat (quiet_step (first
              | (go_at_call 54; exact Calls.regrown_of (KI.out _))
              | (go_at_call 36; exact Calls.regrown_of (KF.out _))))
            refine wpQuiet_nil ?_
            intro _ hw'
            obtain ⟨⟨nq, osq⟩, hw''⟩ := hw'
            subst hw''
            have hbq := below_regrown wr nq osq
            go_wp2_with fail
            go_roundw
            case rel =>
              refine ⟨z + 1, by omega, by omega, congrArg (Value.int .i64) (by omega), fun n k h => ?_, HB.out.trans (hbq.mono HB.out.size)⟩
              have h9 := HNO.out n k h
              rcases Nat.eq_or_lt_of_le h9 with e | e
              · subst e; exact absurd h (HMISS.out n)
              · omega
            case measure =>
              simp [Go.RowKit.intOf]
              omega
        · have KI := Lib.hid (fun w => (is_no N w hcp).mono (R' := fun e w' => e = .returned (.bool false) ∧ Below w.heap.size w w') fun e w' ⟨he, hw⟩ => ⟨he, by rw [← hw]; exact Below.refl _ _⟩)
          have HMISS : Hid (∀ n, nx l ≠ some (n, z)) := fun n h => by
            obtain ⟨g1, g2, g3⟩ := HOF.out n h
            rw [HNN.out] at g2
            exact hcp (by rw [g2]; exact g1)
          clear hcp HIT HOF
          go_wp2_with (go_at_call 53; refine KL.out.mono ?_; rintro e w' ⟨rfl, rfl⟩)
          refine wp_region_quiet_below hmix (by kernel_rfl) ?_
          have HJ := Lib.hid (And.intro hz1 (And.intro hz4 (And.intro hzm (And.intro g1 (And.intro g2 g3)))))
          clear hz1 hz5 hz4 hzm j1 j2 j3 j4 j5 j6 j7 j8 ex hTz hm1 hm2 hpos h1 hs g1 g2 g3
          repeat (go_big_quiet_step (first
            | (go_at_call 54; exact Calls.regrown_of (KI.out _))))
          obtain ⟨hz1, hz4, hzm, g1, g2, g3⟩ := HJ.out
          refine wpQuiet_nil ?_
          intro _ hw'
          obtain ⟨⟨nq, osq⟩, hw''⟩ := hw'
          subst hw''
          have hbq := below_regrown wr nq osq
          go_wp2_with fail
          go_roundw
          case rel =>
            refine ⟨z + 1, by omega, by omega, congrArg (Value.int .i64) (by omega), fun n k h => ?_, HB.out.trans (hbq.mono HB.out.size)⟩
            have h9 := HNO.out n k h
            rcases Nat.eq_or_lt_of_le h9 with e | e
            · subst e; exact absurd h (HMISS.out n)
            · omega
          case measure =>
            simp [Go.RowKit.intOf]
            omega
      · have HNONE : Hid (nx l = none) := by
          show nx l = none
          cases hx : nx l with
          | none => rfl
          | some x =>
            obtain ⟨n, k⟩ := x
            have h1 := HNO.out n k hx
            have h2 := nx_pos hx
            have h3 := HM.out
            omega
        have hzz : z = 5 ∨ m < z := by omega
        clear hz
        rcases hzz with rfl | hz
        · go_wp2_with fail
          go_ret2
          exact ⟨by rw [HN.out, HNONE.out]; rfl, HB.out⟩
        · have j1 : ¬ (z : Int) ≤ (m : Int) := by omega
          go_wp2_with fail
          all_goals
            go_ret2
            exact ⟨by rw [HN.out, HNONE.out]; rfl, HB.out⟩
  · have hn : nextV s.data.toList a = none := by unfold nextV; rw [hsl, if_neg h]
    have HN := Lib.hid hn
    have hor : a < 0 ∨ (s.size : Int) ≤ a := by omega
    clear hn h hsl
    rcases hor with h | h
    · go_enter Tryd.func34, Tryd.ntmps34
      go_wp2_with fail
      go_ret2
      exact ⟨by rw [HN.out]; rfl, Below.refl _ _⟩
    · go_enter Tryd.func34, Tryd.ntmps34
      go_wp2_with fail
      all_goals
        go_ret2
        exact ⟨by rw [HN.out]; rfl, Below.refl _ _⟩
end Go.Proofs.YtcadklhjhjbhaaaDoor
