/- lives of layer 5; the law NumScans: it returns true. -/
import Derived.Test.YtoccoagkakeenadNumG
namespace Go.Proofs.Ytoccoagkakeenad
open Go.RowKit
theorem scanI_un {s : ByteArray} {f : Nat} (hf : f ≤ s.size) (hm : gb s f ≠ 45) : scanI s (f : Int) = scanF s f 0 := by
  rw [scanI, if_neg (by omega), Int.toNat_natCast, if_neg hm]
theorem scanI_si {s : ByteArray} {a f : Nat} (hfa : f = a + 1) (hf : f ≤ s.size) (hm : gb s a = 45) : scanI s (a : Int) = scanF s f 1 := by
  rw [scanI, if_neg (by omega), Int.toNat_natCast, if_pos hm, hfa]
theorem sign_in {s : ByteArray} {a : Nat} (hm : gb s a = 45) : a + 1 ≤ s.size := by
  apply Nat.lt_of_not_le
  intro h
  rw [gb_out s a h] at hm
  exact absurd hm (by decide)
theorem scan_any (s : ByteArray) (p : Int) (w : World) (hs : s.size ≤ 140737488355328) :
    Calls Try.prog 5 #[.string s, .int .i64 p] w fun e w' => e = ret3 (scanI s p) ∧ Below w.heap.size w w' := by
  by_cases hp : p < 0 ∨ (s.size : Int) < p
  · rw [scanI, if_pos hp]
    exact scan_out s p w hp hs
  · obtain ⟨a, rfl⟩ : ∃ a : Nat, p = (a : Int) := ⟨p.toNat, by omega⟩
    by_cases hm : gb s a = 45
    · have hf := sign_in hm
      rw [scanI_si rfl hf hm]
      by_cases hd : a + 1 < s.size ∧ isD (gb s (a + 1)) = true
      · exact scan_si s a (a + 1) w rfl hd.1 hm hd.2 hs
      · exact scan_si6 s a (a + 1) w rfl hf hm (fun h => by cases hx : isD (gb s (a + 1)) <;> simp_all) hs
    · have hf : a ≤ s.size := by omega
      rw [scanI_un hf hm]
      by_cases hd : a < s.size ∧ isD (gb s a) = true
      · exact scan_un s a w hd.1 hm hd.2 hs
      · exact scan_un6 s a w hf hm (fun h => by cases hx : isD (gb s a) <;> simp_all) hs
theorem rscan_any (s : ByteArray) (p : Int) (w : World) (hs : s.size ≤ 140737488355328) :
    Calls Try.prog 6 #[.string s, .int .i64 p] w fun e w' => e = ret3 (scanI s p) ∧ w = w' := by
  by_cases hp : p < 0 ∨ (s.size : Int) < p
  · rw [scanI, if_pos hp]
    exact rscan_out s p w hp
  · obtain ⟨a, rfl⟩ : ∃ a : Nat, p = (a : Int) := ⟨p.toNat, by omega⟩
    by_cases hm : gb s a = 45
    · have hf := sign_in hm
      rw [scanI_si rfl hf hm]
      exact rscan_si s a (a + 1) w rfl hf hm hs
    · have hf : a ≤ s.size := by omega
      rw [scanI_un hf hm]
      exact rscan_un s a w hf hm hs
theorem ex1 : scanI ⟨#[97, 49, 50, 44]⟩ 1 = (12, 3, 0) := by decide +kernel
theorem ex2 : scanI ⟨#[48, 48, 55]⟩ 0 = (0, 0, 12) := by decide +kernel
theorem ex3 : scanI ⟨#[57, 48, 48, 55, 49, 57, 57, 50, 53, 52, 55, 52, 48, 57, 57, 50]⟩ 0 = (0, 0, 2) := by decide +kernel
theorem lives_any (w : World) :
    Calls Try.prog 4 #[] w fun e w' => e = .returned (.bool true) ∧ Below w.heap.size w w' := by
  go_enter Try.func4, Try.ntmps4
  go_wp2_with (first
    | (go_at_call 5; with_reducible refine (scan_any ⟨#[97, 49, 50, 44]⟩ 1 _ (by decide)).mono ?_; rw [ex1]; simp only [ret3]; rintro e w' ⟨rfl, hb⟩)
    | (go_at_call 5; with_reducible refine (scan_any ⟨#[48, 48, 55]⟩ 0 _ (by decide)).mono ?_; rw [ex2]; simp only [ret3]; rintro e w' ⟨rfl, hb⟩)
    | (go_at_call 5; with_reducible refine (scan_any ⟨#[57, 48, 48, 55, 49, 57, 57, 50, 53, 52, 55, 52, 48, 57, 57, 50]⟩ 0 _ (by decide)).mono ?_; rw [ex3]; simp only [ret3]; rintro e w' ⟨rfl, hb⟩))
  go_ret
  refine ⟨rfl, ?_⟩
  repeat (first | exact Below.refl _ _ | refine gr_step ?_ (by assumption))
theorem numScans_walk (s : ByteArray) (p : Int) (w : World) (_ : s.size ≤ maxLen) (_ : (Lit.int .i64 p).wf = true) :
    Calls Try.prog 3 #[.string s, .int .i64 p] w fun e w' => e = .returned (.bool true) ∧ Below w.heap.size w w' := by
  by_cases h : 300 < s.size
  · have q : 300 < (s.size : Int) := by omega
    go_enter Try.func3, Try.ntmps3
    go_wp2_with (go_at_call 4; refine (lives_any _).mono ?_; rintro e w' ⟨rfl, hb⟩)
    go_ret
    exact ⟨rfl, by assumption⟩
  · have q : ¬ 300 < (s.size : Int) := by omega
    have hs : s.size ≤ 140737488355328 := by omega
    have SA := fun w => scan_any s p w hs
    have RA := fun w => rscan_any s p w hs
    generalize scanI s p = r at SA RA
    obtain ⟨r1, r2, r3⟩ := r
    simp only [ret3] at SA RA
    go_enter Try.func3, Try.ntmps3
    go_wp2_with (first | (go_at_call 5; refine (SA _).mono ?_; rintro e w' ⟨rfl, hb⟩) | (go_at_call 6; refine (RA _).mono ?_; rintro e w' ⟨rfl, rfl⟩) | (go_at_call 4; refine (lives_any _).mono ?_; rintro e w' ⟨rfl, hb⟩))
    go_ret
    refine ⟨rfl, ?_⟩
    repeat (first | exact Below.refl _ _ | refine gr_step ?_ (by assumption))
end Go.Proofs.Ytoccoagkakeenad
