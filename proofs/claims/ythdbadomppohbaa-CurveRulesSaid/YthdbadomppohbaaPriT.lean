/- The reference's part (layer 19): p and a number, divided by a power of 2. -/
import Derived.Test.YthdbadomppohbaaPriS
import Derived.Deep.OwnRows
namespace Go.Proofs.Ythdbadomppohbaa
set_option maxRecDepth 20000
set_option linter.unusedSimpArgs false
set_option linter.unusedVariables false
open Go.RowKit
theorem info_parts {P : Program} {t : TypeId} {z : Value} {s b : Nat} (h : (P.info? t).map (fun i => (i.zero, i.size, i.bytes)) = some (some z, s, b)) : ∃ i, P.info? t = some i ∧ i.zero = some z ∧ i.size = s ∧ i.bytes = b := by
  cases hi : P.info? t with
  | none => rw [hi] at h; cases h
  | some i =>
    rw [hi] at h
    simp at h
    exact ⟨i, rfl, h.1, h.2.1, h.2.2⟩
theorem limb_raw (b k : Nat) (z : Nat) (w : World) (h : w.cell? ⟨b, 0, none⟩ = some (.int .u64 (z : Int))) (hk : k ≤ 1000) :
    Calls Try.prog 73 #[.slice (some ⟨b, 0, none⟩) 1 1, .int .i64 (k : Int)] w fun e w' => e = .returned (.int .u64 ((if k = 0 then z else 0 : Nat) : Int)) ∧ w' = w := by
  by_cases h0 : k = 0
  · subst h0
    rw [if_pos rfl]
    go_enter Try.func73, Try.ntmps73
    go_wp2_with fail
    go_ret
    exact ⟨rfl, rfl⟩
  · rw [if_neg h0]
    have t0 : ¬ (k : Int) < 0 := by omega
    have t1 : (1 : Int) ≤ (k : Int) := by omega
    go_enter Try.func73, Try.ntmps73
    go_wp2_with fail
    go_ret
    exact ⟨rfl, rfl⟩
set_option maxHeartbeats 4000000 in
/-- The sum with a word that is no limb: it comes back, whatever it is. -/
theorem radd_loose (g b z n : Nat) (w : World) (hz : z < 18446744073709551616) (ha : OwnN w g 16 n) (hb : w.cell? ⟨b, 0, none⟩ = some (.int .u64 (z : Int))) :
    Calls Try.prog 54 #[.slice (some ⟨g, 0, none⟩) 16 16, .slice (some ⟨b, 0, none⟩) 1 1] w fun e w' => ∃ v, e = .returned v ∧ Below w.heap.size w w' := by
  have HA := Lib.hid (ha.is 16 (Nat.le_refl _))
  have HB := Lib.hid hb
  have m1 := fun w => make_limbs 17 (max (16 : Int) 1 + 1) (by decide) (by omega) w
  clear ha hb
  go_enter Try.func54, Try.ntmps54
  go_wp2_with fail
  clear m1
  go_loopw [6, 7] (fun o i wr => ∃ k o' : Nat, ∃ p : Nat → Nat, k ≤ 17 ∧ i = .int .i64 (k : Int) ∧ o = .int .u64 (o' : Int) ∧ o' < 18446744073709551616 ∧ wr.heap[w.heap.size]? = some (.cells (rowH p 17).toArray 22 (0, 0)) ∧ Below w.heap.size w wr) (fun _ i _ => 17 - (intOf i).toNat)
  case atStart => exact ⟨0, 0, fun _ => 0, by omega, rfl, rfl, by omega, alloc_new _ _, gr_alloc (Below.refl _ _) _⟩
  case round =>
    obtain ⟨k, o, p, hk, rfl, rfl, ho, y0, hbl⟩ := hrel
    by_cases hlt : k < 17
    · have q1 : (k : Int) < 17 := by omega
      have KA := Lib.hid (limb_any (some ⟨g, 0, none⟩) 16 16 n k wr (IsN_below HA.out hbl) (by omega))
      have KB := Lib.hid (limb_raw b k z wr ((hbl.cell (cell_in HB.out)).trans HB.out) (by omega))
      have hx := dg_lt n k
      have hy : (if k = 0 then z else 0) < 18446744073709551616 := by split <;> omega
      obtain ⟨x, hxx⟩ : ∃ x, dg n k = x := ⟨_, rfl⟩
      obtain ⟨y, hyy⟩ : ∃ y, (if k = 0 then z else 0) = y := ⟨_, rfl⟩
      rw [hxx] at KA hx
      rw [hyy] at KB hy
      obtain ⟨s1, hs1⟩ : ∃ s1, (x + y) % 18446744073709551616 = s1 := ⟨_, rfl⟩
      obtain ⟨s2, hs2⟩ : ∃ s2, (s1 + o) % 18446744073709551616 = s2 := ⟨_, rfl⟩
      have w1 : IntKind.u64.wrap ((x : Int) + (y : Int)) = (s1 : Int) := by rw [IntKind.wrap_u64]; omega
      have w2 : IntKind.u64.wrap ((s1 : Int) + (o : Int)) = (s2 : Int) := by rw [IntKind.wrap_u64]; omega
      have b2 : s2 < 18446744073709551616 := by omega
      obtain ⟨c1, f1⟩ := arr_get y0 (rowH_get p _ k hlt)
      have HSET := Lib.hid (arr_set (i := k) y0 (.int .u64 ((s2 % 65536 : Nat) : Int)))
      clear hxx hyy hs1 hs2 y0
      go_wp2_with fail
      refine KA.out.mono ?_
      rintro e w' ⟨rfl, rfl⟩
      go_wp2_with fail
      refine KB.out.mono ?_
      rintro e w' ⟨rfl, rfl⟩
      go_wp2_with fail
      go_roundw
      case rel =>
        have e1 : (s2 : Int) % 65536 = ((s2 % 65536 : Nat) : Int) := by omega
        have e2 : (s2 : Int) / 65536 = ((s2 / 65536 : Nat) : Int) := by omega
        rw [e1, e2]
        refine ⟨k + 1, s2 / 65536, upd p k (s2 % 65536), by omega, by go_num, rfl, by omega, ?_, hbl.setCell (p := ⟨w.heap.size, k, none⟩) (Nat.le_refl _) _⟩
        rw [← rowH_set]; exact HSET.out
      case measure => simp [intOf]; omega
    · obtain rfl : k = 17 := by omega
      clear y0
      go_wp2_with fail
      go_ret
      exact ⟨_, rfl, hbl⟩
end Go.Proofs.Ythdbadomppohbaa
