/- The reference's Less: what it answers. -/
import Derived.Test.YthdbadomppohbaaWidL
namespace Go.Proofs.Ythdbadomppohbaa
set_option maxRecDepth 20000
set_option linter.unusedSimpArgs false
set_option linter.unusedVariables false
open Go.RowKit
theorem IsN_drew {w : World} {a : Option Addr} {len cap n : Nat} (h : IsN w a len cap n) (nq : Nat) : IsN (w.drewN nq) a len cap n := IsN_below h (below_drewN1 (Below.refl _ _) nq)
set_option maxRecDepth 20000 in
set_option maxHeartbeats 1000000 in
theorem rless_any (a b : Option Addr) (la ca lb cb n m : Nat) (w : World) (ha : IsN w a la ca n) (hb : IsN w b lb cb m) :
    Calls Try.prog 57 #[.slice a la ca, .slice b lb cb] w fun e w' => e = .returned (.bool (decide (n < m))) ∧ ∃ nq, w' = w.drewN nq := by
  have l1 : (la : Int) ≤ 200 := by have := ha.2.1; omega
  have l2 : (lb : Int) ≤ 200 := by have := hb.2.1; omega
  have hstart : ∀ c, la ≤ c → lb ≤ c → n / 65536 ^ c = m / 65536 ^ c := fun c h1 h2 => by
    rw [Nat.div_eq_of_lt (Nat.lt_of_lt_of_le ha.1 (Nat.pow_le_pow_right (by decide) h1)), Nat.div_eq_of_lt (Nat.lt_of_lt_of_le hb.1 (Nat.pow_le_pow_right (by decide) h2))]
  have HS := Lib.hid hstart
  have HA := Lib.hid ha
  have HB := Lib.hid hb
  clear ha hb hstart
  go_enter Try.func57, Try.ntmps57
  go_wp2_with fail
  all_goals
    go_loopw [5] (fun i wr => ∃ c : Nat, c ≤ 200 ∧ i = .int .i64 (kI c) ∧ n / 65536 ^ c = m / 65536 ^ c ∧ ∃ nq, w.drewN nq = wr) (fun i _ => (intOf i + 1).toNat)
    case atStart =>
      first
        | exact ⟨la, by omega, rfl, HS.out la (by omega) (by omega), 0, rfl⟩
        | exact ⟨lb, by omega, rfl, HS.out lb (by omega) (by omega), 0, rfl⟩
    case round =>
      obtain ⟨c, hc, rfl, hsame, nq, rfl⟩ := hrel
      match c, hc with
      | 0, _ =>
        have HE := Lib.hid (show decide (n < m) = false by
          rw [Nat.pow_zero, Nat.div_one, Nat.div_one] at hsame
          rw [hsame]; simp)
        rw [show kI 0 = -1 from rfl]
        clear hsame
        go_wp2_with fail
        go_ret
        exact ⟨ret_bool HE.out.symm, nq, rfl⟩
      | d + 1, hc =>
        rw [show kI (d + 1) = (d : Int) by unfold kI; omega]
        have d3 : (d : Int) < 200 := by omega
        have KA := Lib.hid (fun q => limb_any a la ca n d _ (IsN_drew HA.out q) (by omega))
        have KB := Lib.hid (fun q => limb_any b lb cb m d _ (IsN_drew HB.out q) (by omega))
        by_cases he : dg n d = dg m d
        · have HN := Lib.hid (dg_same n m d hsame he)
          have q1 : ((dg n d : Int) == (dg m d : Int)) = true := by simp [he]
          have q2 : decide ((dg n d : Int) = (dg m d : Int)) = true := by simp [he]
          rw [he] at KA
          clear hsame he q1 q2
          generalize dg m d = y at *
          go_wp2_with (first
            | (go_at_call_of 73 (Value.slice a la ca); refine (KA.out _).mono ?_; rintro e w' ⟨rfl, rfl⟩)
            | (go_at_call_of 73 (Value.slice b lb cb); refine (KB.out _).mono ?_; rintro e w' ⟨rfl, rfl⟩))
          go_roundw
          case rel => exact ⟨d, by omega, rfl, HN.out, _, rfl⟩
          case measure => simp [intOf]
        · have HE := Lib.hid (show decide (n < m) = decide ((dg n d : Int) < (dg m d : Int)) by
            rw [decide_eq_decide]
            rcases Nat.lt_or_gt_of_ne he with h | h
            · have := dg_less n m d hsame h
              omega
            · have := dg_less m n d hsame.symm h
              omega)
          have q0 : ¬ (dg n d : Int) = (dg m d : Int) := by omega
          have q1 : ((dg n d : Int) == (dg m d : Int)) = false := by simp; omega
          have q2 : decide ((dg n d : Int) = (dg m d : Int)) = false := by simp; omega
          clear hsame he
          generalize dg m d = y at *
          generalize dg n d = x at *
          go_wp2_with fail
          refine (KA.out _).mono ?_
          rintro e w' ⟨rfl, rfl⟩
          go_wp2_with fail
          refine (KB.out _).mono ?_
          rintro e w' ⟨rfl, rfl⟩
          go_wp2_with fail
          refine (KA.out _).mono ?_
          rintro e w' ⟨rfl, rfl⟩
          go_wp2_with fail
          refine (KB.out _).mono ?_
          rintro e w' ⟨rfl, rfl⟩
          go_wp2_with fail
          go_ret
          exact ⟨ret_bool (by rw [HE.out]; simp), nq, rfl⟩
end Go.Proofs.Ythdbadomppohbaa
