/- The reference's Rem: what it answers. -/
import Derived.Test.YthalmomheecpcaaWidN
import Derived.Test.YthalmomheecpcaaWidLb
namespace Go.Proofs.Ythalmomheecpcaa
open Go.RowKit
theorem rem_next (n m i : Nat) : (2 * (n / 2 ^ (i + 1) % m) + n / 2 ^ i % 2) % m = n / 2 ^ i % m := by
  have h : n / 2 ^ i = 2 * (n / 2 ^ (i + 1)) + n / 2 ^ i % 2 := by
    rw [Nat.pow_succ, ← Nat.div_div_eq_div_mul]; omega
  generalize n / 2 ^ (i + 1) = a at *
  generalize n / 2 ^ i % 2 = b at *
  rw [h, Nat.add_mod, Nat.mul_mod, Nat.mod_mod, ← Nat.mul_mod, ← Nat.add_mod]
theorem dg_bit0 (x b k : Nat) (hb : b < 2) : dg (2 * x + b) k = if k = 0 then dg (2 * x) 0 + b else dg (2 * x) k := by
  unfold dg
  match k with
  | 0 => rw [if_pos rfl]; simp only [Nat.pow_zero, Nat.div_one]; omega
  | k + 1 =>
    rw [if_neg (by omega), Nat.pow_succ, Nat.mul_comm (65536 ^ k), ← Nat.div_div_eq_div_mul, ← Nat.div_div_eq_div_mul]
    have : (2 * x + b) / 65536 = 2 * x / 65536 := by omega
    rw [this]
theorem OwnN_bit {w : World} {g L x b : Nat} (h : OwnN w g L (2 * x)) (hb : b < 2) (hx : 2 * x + b < 65536 ^ L) : OwnN (w.setCell ⟨g, 0, none⟩ (.int .u64 ((dg (2 * x) 0 + b : Nat) : Int))) g L (2 * x + b) := by
  refine ⟨?_, hx, h.2.2⟩
  rw [rowH_same (p := dg (2 * x + b)) (q := upd (dg (2 * x)) 0 (dg (2 * x) 0 + b)) (fun k _ => by rw [dg_bit0 x b k hb]; rfl), ← rowH_set]
  exact arr_set h.1 _
set_option maxRecDepth 20000 in
set_option maxHeartbeats 4000000 in
theorem rrem_any (a b : Option Addr) (la ca lb cb n m : Nat) (w : World) (ha : IsN w a la ca n) (hb : IsN w b lb cb m) (hm : 0 < m) (sa : la ≤ 100) (sb : lb ≤ 100) :
    Calls Try.prog 24 #[.slice a la ca, .slice b lb cb] w fun e w' => ∃ g cap, ∃ len, e = .returned (.slice g len cap) ∧ IsN w' g len cap (n % m) ∧ len ≤ lb ∧ Below w.heap.size w w' := by
  have l1 : (la : Int) ≤ 100 := by omega
  have l2 : (lb : Int) ≤ 100 := by omega
  have HA := Lib.hid ha
  have HB := Lib.hid hb
  clear ha hb
  go_enter Try.func24, Try.ntmps24
  go_wp2_with fail
  go_loopw [5, 6] (fun r i wr => ∃ c : Nat, ∃ g cap len, c ≤ 1600 ∧ i = .int .i64 (kI c) ∧ r = .slice g len cap ∧ IsN wr g len cap (n / 2 ^ c % m) ∧ len ≤ lb ∧ Below w.heap.size w wr) (fun _ i _ => (intOf i + 1).toNat)
  case atStart =>
    refine ⟨16 * la, none, 0, 0, by omega, ?_, rfl, ?_, by omega, Below.refl _ _⟩
    · unfold kI; congr 1 <;> omega
    · have h : n < 2 ^ (16 * la) := by
        rw [Nat.pow_mul]
        exact HA.out.1
      rw [Nat.div_eq_of_lt h, Nat.zero_mod]
      exact IsN_nil _
  case round =>
    obtain ⟨c, g, cap, len, hc, rfl, rfl, hr, hlen, hbl⟩ := hrel
    match c, hc with
    | 0, _ =>
      rw [show kI 0 = -1 from rfl]
      have HR := Lib.hid hr
      clear hr
      go_wp2_with fail
      go_ret
      exact ⟨g, cap, len, rfl, by have := HR.out; rwa [Nat.pow_zero, Nat.div_one] at this, hlen, hbl⟩
    | d + 1, hc =>
      rw [show kI (d + 1) = (d : Int) by unfold kI; omega]
      have d3 : (d : Int) < 1600 := by omega
      have HN := Lib.hid (rem_next n m d)
      have hxm : n / 2 ^ (d + 1) % m < m := Nat.mod_lt _ hm
      generalize n / 2 ^ (d + 1) % m = x at *
      obtain ⟨b', hb'⟩ : ∃ b', n / 2 ^ d % 2 = b' := ⟨_, rfl⟩
      have hb2 : b' < 2 := by rw [← hb']; exact Nat.mod_lt _ (by decide)
      rw [hb'] at HN
      have HX := Lib.hid hb'
      have hxx : x + x = 2 * x := by omega
      have hx1 := hr.1
      have KA := Lib.hid (radd_any g g len cap len cap x x wr hr hr (by omega) (by omega))
      have hfit : 2 * x + b' < 65536 ^ (len + 1) := by rw [Nat.pow_succ]; omega
      have HF := Lib.hid hfit
      rw [hxx, Nat.max_self] at KA
      clear hb' hr hx1 hxx hfit
      go_wp2_with fail
      refine KA.out.mono ?_
      rintro e w1 ⟨g1, rfl, ho1, hg1, hb1⟩
      have hl1 : (len : Int) + 1 ≤ 101 := by omega
      have HO := Lib.hid ho1
      obtain ⟨c1, f1⟩ := arr_get ho1.1 (rowH_get _ _ 0 (by omega))
      have hbw1 := hbl.trans (hb1.mono hbl.size)
      have KB := Lib.hid (rbit_any a la ca n d w1.drew (IsN_below (IsN_below HA.out hbw1) (below_drewN1 (Below.refl _ _) 1)) (by omega))
      rw [HX.out] at KB
      have hd0 := dg_lt (2 * x) 0
      generalize hD0 : dg (2 * x) 0 = D0 at *
      have HD0 := Lib.hid hD0
      obtain ⟨E, hE⟩ : ∃ E, D0 + b' = E := ⟨_, rfl⟩
      have hwr : IntKind.u64.wrap ((D0 : Int) + (b' : Int)) = (E : Int) := by rw [show (D0 : Int) + (b' : Int) = (E : Int) by omega]; exact IntWalk.u64_in _ (by omega)
      have ho2 := OwnN_bit ho1 hb2 HF.out
      rw [hD0, hE] at ho2
      have hb2' : Below w.heap.size w (w1.setCell ⟨g1, 0, none⟩ (.int .u64 (E : Int))) := hbw1.setCell (p := ⟨g1, 0, none⟩) (by show w.heap.size ≤ g1; have := hbl.size; omega) _
      have HO2 := Lib.hid ho2
      have ht2 : 2 * x + b' < 2 * m := by omega
      clear KA ho1 hb1 hD0 hE ho2
      go_wp2_with fail
      go_region_with ((go_at_call 48; refine KB.out.mono ?_; rintro e w' ⟨rfl, rfl⟩))
      all_goals
        have hbd : Below w.heap.size w (w1.setCell ⟨g1, 0, none⟩ (.int .u64 (E : Int))).drew := hb2'.drew
        have hod : Hid (OwnN (w1.setCell ⟨g1, 0, none⟩ (.int .u64 (E : Int))).drew g1 (len + 1) (2 * x + b')) := HO2.out
        generalize (w1.setCell ⟨g1, 0, none⟩ (.int .u64 (E : Int))).drew = w2 at *
        clear HO2 HF HX HD0 hd0 c1 f1 hb2 hb2' hwr KB hbw1 hxm
        generalize 2 * x + b' = t at *
        have KL := Lib.hid (rless_any (some ⟨g1, 0, none⟩) b (len + 1) (len + 1) lb cb t m w2 (hod.out.is _ (Nat.le_refl _)) (IsN_below HB.out hbd))
        have hlenI : (len : Int) ≤ (lb : Int) := by omega
        by_cases htm : t < m
        · have HV := Lib.hid (show t = n / 2 ^ d % m by rw [← HN.out, Nat.mod_eq_of_lt htm])
          rw [decide_eq_true htm] at KL
          have HM := Lib.hid htm
          clear ht2 htm
          have hbq := fun q => below_drewN1 hbd q
          have hoq := fun q => (show OwnN (w2.drewN q) g1 (len + 1) t from hod.out)
          have HBQ := Lib.hid hbq
          have HOQ := Lib.hid hoq
          clear hbq hoq
          by_cases hc : len = lb
          · have q1 : (lb : Int) < (len : Int) + 1 := by omega
            have q2 : (lb : Int) ≤ (len : Int) + 1 := by omega
            have HC := Lib.hid hc
            clear hc
            go_wp2_with fail
            refine KL.out.mono ?_
            rintro e w3 ⟨rfl, nq, rfl⟩
            go_wp2_with fail
            go_roundw
            case rel => exact ⟨d, _, _, _, by omega, rfl, rfl, IsN_cut ((HOQ.out nq).is _ (Nat.le_refl _)) lb (by have := HC.out; omega) (by have h1 := HB.out.1; have h2 := HM.out; omega) |> fun h => by rw [← HV.out]; exact h, Nat.le_refl _, HBQ.out nq⟩
            case measure => simp [intOf]
          · have q1 : decide ((lb : Int) < (len : Int) + 1) = false := by simp; omega
            have q2 : (len : Int) + 1 ≤ (lb : Int) := by omega
            have HC := Lib.hid hc
            clear hc
            go_wp2_with fail
            refine KL.out.mono ?_
            rintro e w3 ⟨rfl, nq, rfl⟩
            go_wp2_with fail
            go_roundw
            case rel => exact ⟨d, _, _, _, by omega, rfl, rfl, by rw [← HV.out]; exact (HOQ.out nq).is _ (Nat.le_refl _), by have := HC.out; omega, HBQ.out nq⟩
            case measure => simp [intOf]
        · have HV := Lib.hid (show t - m = n / 2 ^ d % m by rw [← HN.out, Nat.mod_eq_sub_mod (by omega), Nat.mod_eq_of_lt (by omega)])
          rw [decide_eq_false htm] at KL
          have HM := Lib.hid (show t - m < m by omega)
          have KS := Lib.hid (fun q => rsub_any (some ⟨g1, 0, none⟩) b (len + 1) (len + 1) lb cb t m (w2.drewN q) (show IsN (w2.drewN q) _ _ _ _ from hod.out.is _ (Nat.le_refl _)) (IsN_below HB.out (below_drewN1 hbd q)) (by omega))
          have HBQ := Lib.hid (fun q => below_drewN1 hbd q)
          clear ht2 htm
          by_cases hc : len = lb
          · have q1 : (lb : Int) < (len : Int) + 1 := by omega
            have q2 : (lb : Int) ≤ (len : Int) + 1 := by omega
            have HC := Lib.hid hc
            clear hc
            go_wp2_with fail
            refine KL.out.mono ?_
            rintro e w3 ⟨rfl, nq, rfl⟩
            go_wp2_with fail
            refine (KS.out nq).mono ?_
            rintro e w4 ⟨rfl, ho4, hb4⟩
            have HO4 := Lib.hid ho4
            have hb5 := (HBQ.out nq).trans (hb4.mono (HBQ.out nq).size)
            clear ho4 hb4
            go_wp2_with fail
            go_roundw
            case rel => exact ⟨d, _, _, _, by omega, rfl, rfl, IsN_cut (HO4.out.is _ (Nat.le_refl _)) lb (by have := HC.out; omega) (by have h1 := HB.out.1; have h2 := HM.out; omega) |> fun h => by rw [← HV.out]; exact h, Nat.le_refl _, hb5⟩
            case measure => simp [intOf]
          · have q1 : decide ((lb : Int) < (len : Int) + 1) = false := by simp; omega
            have q2 : (len : Int) + 1 ≤ (lb : Int) := by omega
            have HC := Lib.hid hc
            clear hc
            go_wp2_with fail
            refine KL.out.mono ?_
            rintro e w3 ⟨rfl, nq, rfl⟩
            go_wp2_with fail
            refine (KS.out nq).mono ?_
            rintro e w4 ⟨rfl, ho4, hb4⟩
            have HO4 := Lib.hid ho4
            have hb5 := (HBQ.out nq).trans (hb4.mono (HBQ.out nq).size)
            clear ho4 hb4
            go_wp2_with fail
            go_roundw
            case rel => exact ⟨d, _, _, _, by omega, rfl, rfl, by rw [← HV.out]; exact HO4.out.is _ (Nat.le_refl _), by have := HC.out; omega, hb5⟩
            case measure => simp [intOf]
end Go.Proofs.Ythalmomheecpcaa
