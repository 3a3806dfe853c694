/- version.Alike and the law of layer 26 run. -/
import Derived.Test.YtoccoagkakeenafVerA
namespace Go.Proofs.Ytoccoagkakeenaf
open Go.RowKit
theorem alike_row (b off len cap : Nat) (zs : List Int) (w : World) (hl : len ≤ cap) (hm : cap ≤ maxLen) (hz : zs.length = cap) (hbl : b < w.heap.size)
    (hcell : ∀ i, i < zs.length → w.cell? ⟨b, off + i, none⟩ = some (.int .i64 (zs.getD i 0))) (h0 : 0 < len) :
    Calls Try.prog 14 #[.slice (some ⟨b, off, none⟩) len cap] w fun e w' =>
      e = .returned (.bool ((zs.take len).all fun v => decide (1 ≤ v ∧ v ≤ 11) && sameB v (zs.getD 0 0))) ∧ Below w.heap.size w w' := by
  unfold maxLen at hm
  have hc0 := hcell 0 (by omega)
  generalize hG : (fun v => decide (1 ≤ v ∧ v ≤ 11) && sameB v (zs.getD 0 0)) = G
  have HG := Lib.hid hG
  have HZ := Lib.hid hz
  have HC := Lib.hid hcell
  clear hG hz hcell
  go_enter Try.func14, Try.ntmps14
  go_wp2_with fail
  go_loopw [9] (fun i wr => ∃ k : Nat, k ≤ len ∧ i = .int .i64 k ∧ wr.cell? ⟨w.heap.size, 0, none⟩ = some (.slice (some ⟨b, off, none⟩) len cap) ∧ (∀ j, j < k → G (zs.getD j 0) = true) ∧ w.heap.size < wr.heap.size ∧ Below w.heap.size w wr)
    (fun i _ => len - (intOf i).toNat)
  case atStart => exact ⟨0, by omega, rfl, by simp [go_sem], fun j hj => absurd hj (by omega), by simp, (Below.refl _ _).alloc (Nat.le_refl _) _⟩
  case round =>
    obtain ⟨k, hk, rfl, hcl, hall, hsz, hb⟩ := hrel
    have HA := Lib.hid hall
    clear hall
    by_cases hlt : k < len
    · have hck : wr.cell? ⟨b, off + k, none⟩ = some (.int .i64 (zs.getD k 0)) := (hb.cell (by exact hbl)).trans (HC.out k (by have := HZ.out; omega))
      have hc00 : wr.cell? ⟨b, off, none⟩ = some (.int .i64 (zs.getD 0 0)) := (hb.cell (by exact hbl)).trans (by simpa using HC.out 0 (by have := HZ.out; omega))
      clear hc0
      obtain ⟨v, hv⟩ : ∃ v, v = zs.getD k 0 := ⟨_, rfl⟩
      obtain ⟨z, hz0⟩ : ∃ z, z = zs.getD 0 0 := ⟨_, rfl⟩
      rw [← hv] at hck
      rw [← hz0] at hc00
      have Hv := Lib.hid hv
      have Hz0 := Lib.hid hz0
      clear hv hz0
      have HGv : Hid ((decide (1 ≤ v ∧ v ≤ 11) && sameB v z) = G (zs.getD k 0)) := by show _ = _; rw [← HG.out, ← Hv.out, ← Hz0.out]
      by_cases hg : (decide (1 ≤ v ∧ v ≤ 11) && sameB v z) = true
      · have Hg := Lib.hid hg
        go_wp2_with (go_at_call 16; refine (like_any v z _ len cap _ _ hcl h0 hc00).mono ?_; rw [Hg.out]; rintro e w' ⟨rfl, hb1⟩)
        go_roundw
        case rel => 
          refine ⟨k + 1, by omega, by go_num, (hb1.cell (by exact hsz)).trans hcl, fun j hj => ?_, Nat.lt_of_lt_of_le hsz hb1.size, gr_step hb hb1⟩
          by_cases e : j = k
          · subst e; rw [← HGv.out]; exact Hg.out
          · exact HA.out j (by omega)
        case measure => simp [intOf]; omega
      · have Hg := Lib.hid (Bool.eq_false_iff.2 hg)
        clear hg
        go_wp2_with (go_at_call 16; refine (like_any v z _ len cap _ _ hcl h0 hc00).mono ?_; rw [Hg.out]; rintro e w' ⟨rfl, hb1⟩)
        go_ret
        exact ⟨ret_bool (all_take_no G zs len k (by have := HZ.out; omega) hlt (HGv.out.symm.trans Hg.out)).symm, gr_step hb hb1⟩
    · go_wp2
      go_ret
      exact ⟨ret_bool (all_take_yes G zs len (by have := HZ.out; omega) (fun i hi => HA.out i (by omega))).symm, hb⟩
end Go.Proofs.Ytoccoagkakeenaf
