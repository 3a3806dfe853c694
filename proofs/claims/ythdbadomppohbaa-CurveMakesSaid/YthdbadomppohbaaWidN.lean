/- The reference's Sub: what it answers. -/
import Derived.Test.YthdbadomppohbaaWidM
namespace Go.Proofs.Ythdbadomppohbaa
set_option maxRecDepth 20000
set_option linter.unusedSimpArgs false
set_option linter.unusedVariables false
open Go.RowKit
set_option maxHeartbeats 1000000 in
theorem rsub_any (a b : Option Addr) (la ca lb cb n m : Nat) (w : World) (ha : IsN w a la ca n) (hb : IsN w b lb cb m) (hmn : m ≤ n) :
    Calls Try.prog 58 #[.slice a la ca, .slice b lb cb] w fun e w' => e = .returned (.slice (some ⟨w.heap.size, 0, none⟩) la la) ∧ OwnN w' w.heap.size la (n - m) ∧ Below w.heap.size w w' := by
  have l1 : (la : Int) ≤ 200 := by have := ha.2.1; omega
  have HA := Lib.hid ha
  have HB := Lib.hid hb
  have HF := Lib.hid (Nat.lt_of_le_of_lt (Nat.sub_le n m) ha.1)
  have m1 := fun w => make_limbs la (la : Int) rfl (by omega) w
  clear ha hb
  go_enter Try.func58, Try.ntmps58
  go_wp2_with fail
  clear m1
  go_loopw [6, 7] (fun o i wr => ∃ k : Nat, ∃ p : Nat → Nat, k ≤ la ∧ i = .int .i64 (k : Int) ∧ o = .int .u64 (br n m k : Int) ∧ (∀ j, j < k → p j = dg (n - m) j) ∧ wr.heap[w.heap.size]? = some (.cells (rowH p la).toArray 22 (0, 0)) ∧ Below w.heap.size w wr) (fun _ i _ => la - (intOf i).toNat)
  case atStart => exact ⟨0, fun _ => 0, by omega, rfl, by rw [br_0]; rfl, fun j h => absurd h (by omega), alloc_new _ _, gr_alloc (Below.refl _ _) _⟩
  case round =>
    obtain ⟨k, p, hk, rfl, rfl, hp, y0, hbl⟩ := hrel
    by_cases hlt : k < la
    · have k9 : (k : Int) < (la : Int) := by omega
      have KA := Lib.hid (limb_any a la ca n k _ (IsN_below HA.out hbl) (by omega))
      have KB := Lib.hid (limb_any b lb cb m k _ (IsN_below HB.out hbl) (by omega))
      have hx := dg_lt n k
      have hy := dg_lt m k
      have ho := br_le n m k
      have HD := Lib.hid (sub_dg n m k hmn)
      have HO := Lib.hid (sub_br n m k)
      have HP := Lib.hid hp
      obtain ⟨c1, f1⟩ := arr_get y0 (rowH_get p _ k hlt)
      have HSET := Lib.hid (arr_set (i := k) y0 (.int .u64 (dg (n - m) k : Int)))
      clear hp y0
      generalize dg n k = x at *
      generalize dg m k = y at *
      generalize br n m k = o at *
      go_wp2_with fail
      refine KA.out.mono ?_
      rintro e w' ⟨rfl, rfl⟩
      go_wp2_with fail
      refine KB.out.mono ?_
      rintro e w' ⟨rfl, rfl⟩
      go_wp2_with fail
      go_roundw
      case rel =>
        have e1 : (65536 + (x : Int) - (y : Int) - (o : Int)) % 65536 = (dg (n - m) k : Int) := by have := HD.out; omega
        have e2 : 1 - (65536 + (x : Int) - (y : Int) - (o : Int)) / 65536 = (br n m (k + 1) : Int) := by have := HO.out; omega
        rw [e1, e2]
        refine ⟨k + 1, upd p k (dg (n - m) k), by omega, by go_num, rfl, fun j hj => ?_, ?_, hbl.setCell (p := ⟨w.heap.size, k, none⟩) (Nat.le_refl _) _⟩
        · unfold upd
          split
          · rename_i h; rw [h]
          · exact HP.out j (by omega)
        · rw [← rowH_set]; exact HSET.out
      case measure => simp [intOf]; omega
    · have hk' : k = la := by omega
      subst hk'
      have hO := Lib.hid (show OwnN wr w.heap.size k (n - m) from ⟨by rw [← rowH_same hp]; exact y0, HF.out, by omega⟩)
      clear hp y0
      go_wp2_with fail
      go_ret
      exact ⟨rfl, hO.out, hbl⟩
end Go.Proofs.Ythdbadomppohbaa
