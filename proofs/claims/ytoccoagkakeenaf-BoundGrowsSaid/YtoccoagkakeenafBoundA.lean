/- How often bound.Log and the reference's Log halve a number, and how many steps both allow: contracts of the functions of layer 12. -/
import Derived.Test.YtoccoagkakeenafAid
import Derived.WalkKit
import Derived.WalkSpells
import Derived.WalkLawsBesides
import Derived.Lib.Hide
import Derived.Handy
import Derived.Outline
namespace Go.Proofs.Ytoccoagkakeenaf
open Go.RowKit
/-- How often a number can be halved before it is at most 1. -/
def lgi (n : Int) : Int := if 1 < n then (Nat.log2 n.toNat : Nat) else 0
theorem lgi_small (n : Int) (h : ¬ 1 < n) : lgi n = 0 := by unfold lgi; rw [if_neg h]
theorem lgi_half (n : Int) (h : 1 < n) : lgi n = lgi (n / 2) + 1 := by
  unfold lgi
  rw [if_pos h, Nat.log2_def, if_pos (by omega)]
  have e : n.toNat / 2 = (n / 2).toNat := by omega
  rw [e]
  by_cases h1 : 1 < n / 2
  · rw [if_pos h1]; omega
  · rw [if_neg h1]
    have e1 : (n / 2).toNat = 1 := by omega
    rw [e1]; rfl
theorem lgi_pos (n : Int) (h : 1 < n) : 1 ≤ lgi n := by
  have := lgi_half n h
  have h2 : 0 ≤ lgi (n / 2) := by unfold lgi; split <;> omega
  omega
theorem lgi_nn (n : Int) : 0 ≤ lgi n := by unfold lgi; split <;> omega
theorem lgi_le (n : Int) (h : n ≤ 9223372036854775807) : lgi n ≤ 62 := by
  unfold lgi
  split
  · have : Nat.log2 n.toNat < 63 := (Nat.log2_lt (by omega)).2 (by omega)
    omega
  · omega
theorem lgi_40 (n : Int) (h : n ≤ 1099511627777) : lgi n ≤ 40 := by
  unfold lgi
  split
  · have : Nat.log2 n.toNat < 41 := (Nat.log2_lt (by omega)).2 (by omega)
    omega
  · omega

/-- The closure halves once. -/
theorem halve_any (n m : Int) (bn bm : Nat) (w : World) (hn : w.cell? ⟨bn, 0, none⟩ = some (.int .i64 n)) (hm : w.cell? ⟨bm, 0, none⟩ = some (.int .i64 m)) (hne : bn ≠ bm)
    (fn : w.frozen? ⟨bn, 0, none⟩ = false) (fm : w.frozen? ⟨bm, 0, none⟩ = false) (h0 : 0 ≤ m) (h1 : m ≤ 1000) (h2 : 1 < n) (h3 : n ≤ 9223372036854775807) :
    Calls Try.prog 15 #[.pointer (some ⟨bn, 0, none⟩), .pointer (some ⟨bm, 0, none⟩)] w fun e w' =>
      e = .returned (.tuple #[]) ∧ (w.setCell ⟨bn, 0, none⟩ (.int .i64 (n / 2))).setCell ⟨bm, 0, none⟩ (.int .i64 (m + 1)) = w' := by
  go_enter Try.func15, Try.ntmps15
  go_wp2
  go_end0
  exact ⟨rfl, rfl⟩

/-- The closure leaves what is at most 1. -/
theorem halve_no (n : Int) (bn bm : Nat) (w : World) (hn : w.cell? ⟨bn, 0, none⟩ = some (.int .i64 n)) (h2 : ¬ 1 < n) :
    Calls Try.prog 15 #[.pointer (some ⟨bn, 0, none⟩), .pointer (some ⟨bm, 0, none⟩)] w fun e w' => e = .returned (.tuple #[]) ∧ w = w' := by
  go_enter Try.func15, Try.ntmps15
  go_wp2
  go_end0
  exact ⟨rfl, rfl⟩

theorem log_any (n : Int) (w : World) (hn : n ≤ 9223372036854775807) :
    Calls Try.prog 6 #[.int .i64 n] w fun e w' => e = .returned (.int .i64 (lgi n)) ∧ Below w.heap.size w w' := by
  have hl62 := lgi_le n hn
  go_enter Try.func6, Try.ntmps6
  go_wp2_with fail
  go_loopw [6] (fun i wr => ∃ k : Nat, ∃ x m : Int, k ≤ 62 ∧ i = .int .i64 k ∧ wr.cell? ⟨w.heap.size, 0, none⟩ = some (.int .i64 x) ∧ wr.cell? ⟨w.heap.size + 1, 0, none⟩ = some (.int .i64 m) ∧
      wr.frozen? ⟨w.heap.size, 0, none⟩ = false ∧ wr.frozen? ⟨w.heap.size + 1, 0, none⟩ = false ∧ 0 ≤ m ∧ m ≤ k ∧ x ≤ 9223372036854775807 ∧ (1 < x → m = k) ∧ lgi x + m = lgi n ∧ Below w.heap.size w wr)
    (fun i _ => 62 - (intOf i).toNat)
  case atStart => exact ⟨0, n, 0, by omega, rfl, by simp [go_sem], by simp [go_sem], by simp [go_sem], by simp [go_sem], by omega, by omega, hn, by omega, by omega, ((Below.refl _ _).alloc (Nat.le_refl _) _).alloc (by simp) _⟩
  case round =>
    obtain ⟨k, x, m, hk, rfl, hcx, hcm, hfx, hfm, hm0, hmk, hx, himp, hsum, hb⟩ := hrel
    have hsum' := Lib.hid hsum
    have himp' := Lib.hid himp
    clear hsum himp
    by_cases hlt : k < 62
    · by_cases h1 : 1 < x
      · go_wp2_with (go_at_call 15; refine (halve_any x m _ _ _ hcx hcm (by omega) hfx hfm hm0 (by omega) h1 hx).mono ?_; rintro e w' ⟨rfl, rfl⟩)
        go_roundw
        case rel =>
          have e1 := hsum'.out
          have e2 := lgi_half x h1
          have e3 := himp'.out h1
          refine ⟨k + 1, x / 2, m + 1, by omega, by go_num, ?_, ?_, ?_, ?_, by omega, by omega, by omega, by omega, by omega, (hb.setCell (by simp) _).setCell (by simp) _⟩
          all_goals simp [go_sem, hcx, hcm, hfx, hfm]
        case measure => simp [intOf]; omega
      · go_wp2_with (go_at_call 15; refine (halve_no x _ _ _ hcx h1).mono ?_; rintro e w' ⟨rfl, rfl⟩)
        go_roundw
        case rel => exact ⟨k + 1, x, m, by omega, by go_num, hcx, hcm, hfx, hfm, hm0, by omega, hx, by omega, hsum'.out, hb⟩
        case measure => simp [intOf]; omega
    · go_wp2
      go_ret
      have e1 := hsum'.out
      have e4 : m = lgi n := by
        have e5 := lgi_small x
        have e6 := lgi_pos x
        have e7 := himp'.out
        by_cases h1 : 1 < x
        · have := e6 h1; have := e7 h1; omega
        · have := e5 h1; omega
      exact ⟨ret_int e4, hb⟩

/-- The reference's Log. -/
theorem rlog_any (d : Nat) (n : Int) (w : World) (hd : n < d) (hn : n ≤ 9223372036854775807) :
    Calls Try.prog 7 #[.int .i64 n] w fun e w' => e = .returned (.int .i64 (lgi n)) ∧ w = w' := by
  induction d generalizing n with
  | zero =>
    have e1 := Lib.hid (lgi_small n (by omega))
    go_enter Try.func7, Try.ntmps7
    go_wp2
    go_ret
    exact ⟨ret_int e1.out.symm, rfl⟩
  | succ d ih =>
    by_cases h1 : 1 < n
    · have e1 := Lib.hid (lgi_half n h1)
      have ih' := Lib.hid (ih (n / 2) (by omega) (by omega))
      have b0 := lgi_nn (n / 2)
      have b1 := lgi_le (n / 2) (by omega)
      clear ih
      go_enter Try.func7, Try.ntmps7
      go_wp2_with (go_at_call 7; refine ih'.out.mono ?_; rintro e w' ⟨rfl, rfl⟩)
      go_ret
      exact ⟨ret_int (by rw [e1.out]; omega), rfl⟩
    · have e1 := Lib.hid (lgi_small n h1)
      clear ih
      go_enter Try.func7, Try.ntmps7
      go_wp2
      go_ret
      exact ⟨ret_int e1.out.symm, rfl⟩
end Go.Proofs.Ytoccoagkakeenaf
