/- The reference's Of: what it answers. -/
import Derived.Test.YthdbadomppohbaaWidL
import Derived.Test.YthdbadomppohbaaWidC
import Derived.Deep.OwnRows
namespace Go.Proofs.Ythdbadomppohbaa
set_option maxRecDepth 20000
set_option linter.unusedSimpArgs false
set_option linter.unusedVariables false
open Go.RowKit
theorem lt_blk {w : World} {k : Nat} {o : Obj} (h : w.heap[k]? = some o) : k < w.heap.size := by
  apply Nat.lt_of_not_le
  intro hle
  rw [Array.getElem?_eq_none hle] at h
  simp at h
theorem Try.info_u64 : (Try.prog.info? 22).map (fun i => (i.zero, i.size, i.bytes)) = some (some (.int .u64 0), 1, 8) := by kernel_rfl
/-- A slice of the call's own: the limbs of a number, in a block that was laid for them. -/
def OwnN (w : World) (b len n : Nat) : Prop := w.heap[b]? = some (.cells (rowH (dg n) len).toArray 22 (0, 0)) ∧ n < 65536 ^ len ∧ len ≤ 200
theorem OwnN.is {w : World} {b len n : Nat} (h : OwnN w b len n) (cap : Nat) (hc : len ≤ cap) : IsN w (some ⟨b, 0, none⟩) len cap n := IsN_row h.1 (lt_blk h.1) h.2.1 h.2.2 hc (fun _ _ => rfl)
theorem OwnN.below {w w' : World} {b len n : Nat} (h : OwnN w b len n) (hb : Below w.heap.size w w') : OwnN w' b len n := ⟨(hb.block b (lt_blk h.1)).trans h.1, h.2⟩
theorem rowH_same {p q : Nat → Nat} {N : Nat} (h : ∀ k, k < N → p k = q k) : rowH p N = rowH q N := by
  unfold rowH
  refine List.map_congr_left fun k hk => ?_
  rw [h k (List.mem_range.1 hk)]
theorem wd_dg (n i : Nat) : wd n (i / 4) / 2 ^ (16 * (i % 4)) % 65536 = dg n i := by
  unfold wd dg
  have hp := pow_parts 16 4 i rfl
  rw [show (65536 : Nat) ^ i = (2 ^ 16) ^ i from rfl, hp, ← Nat.div_div_eq_div_mul]
  generalize n / B64 ^ (i / 4) = m
  have hr : i % 4 < 4 := Nat.mod_lt _ (by decide)
  generalize i % 4 = r at *
  unfold B64
  have : r = 0 ∨ r = 1 ∨ r = 2 ∨ r = 3 := by omega
  rcases this with rfl | rfl | rfl | rfl
  · simp
  · rw [show 2 ^ (16 * 1) = 65536 from rfl]; omega
  · rw [show 2 ^ (16 * 2) = 4294967296 from rfl]; omega
  · rw [show 2 ^ (16 * 3) = 281474976710656 from rfl]; omega
set_option maxHeartbeats 1000000 in
theorem rof_any (v : Nat) (w : World) (hv : v < B64 ^ 4) :
    Calls Try.prog 31 #[numV v] w fun e w' => ∃ g, e = .returned (.slice (some ⟨g, 0, none⟩) 16 16) ∧ OwnN w' g 16 v ∧ w.heap.size ≤ g ∧ Below w.heap.size w w' := by
  have mk : ∀ w, (Instr.makeSlice 63 (.int .i64 16) (.int .i64 16)).run Try.prog w = .ok (.slice (some ⟨w.heap.size, 0, none⟩) 16 16) (w.alloc (.cells (rowH (fun _ => 0) 16).toArray 22)) := fun w => by
    rw [← rowH_made]
    exact run_make_row' (P := Try.prog) 63 22 (.int .u64 0) 8 Try.underlying63 Try.info_u64 rfl .i64 .i64 16 (by omega) (by omega) w
  have x0 : ((w.alloc (.cells (numL v).toArray 23)).alloc (.cells (rowH (fun _ => 0) 16).toArray 22)).heap[w.heap.size]? = some (.cells (numL v).toArray 23 (0, 0)) := by
    rw [alloc_old _ _ _ (by rw [alloc_size1]; omega), alloc_new]
  have x1 : ((w.alloc (.cells (numL v).toArray 23)).alloc (.cells (rowH (fun _ => 0) 16).toArray 22)).heap[w.heap.size + 1]? = some (.cells (rowH (fun _ => 0) 16).toArray 22 (0, 0)) := by
    have := alloc_new (w.alloc (.cells (numL v).toArray 23)) (.cells (rowH (fun _ => 0) 16).toArray 22)
    rw [alloc_size1] at this
    exact this
  have xb : Below w.heap.size w ((w.alloc (.cells (numL v).toArray 23)).alloc (.cells (rowH (fun _ => 0) 16).toArray 22)) := gr_alloc (gr_alloc (Below.refl _ _) _) _
  rw [show numV v = .agg #[.int .u64 (wd v 0 : Int), .int .u64 (wd v 1 : Int), .int .u64 (wd v 2 : Int), .int .u64 (wd v 3 : Int)] from rfl]
  go_enter Try.func31, Try.ntmps31
  go_wp2_with fail
  change Code.wp _ _ _ _ ((w.alloc (.cells (numL v).toArray 23)).alloc (.cells (rowH (fun _ => 0) 16).toArray 22))
  generalize (w.alloc (.cells (numL v).toArray 23)).alloc (.cells (rowH (fun _ => 0) 16).toArray 22) = X at *
  have HV := Lib.hid hv
  clear hv mk
  go_loopw [4] (fun i wr => ∃ k : Nat, ∃ p : Nat → Nat, k ≤ 16 ∧ i = .int .i64 (k : Int) ∧ (∀ j, j < k → p j = dg v j) ∧ wr.heap[w.heap.size]? = some (.cells (numL v).toArray 23 (0, 0)) ∧ wr.heap[w.heap.size + 1]? = some (.cells (rowH p 16).toArray 22 (0, 0)) ∧ Below w.heap.size w wr) (fun i _ => 16 - (intOf i).toNat)
  case atStart => exact ⟨0, fun _ => 0, by omega, rfl, fun j h => absurd h (by omega), x0, x1, xb⟩
  case round =>
    clear x0 x1 xb
    obtain ⟨k, p, hk, rfl, hp, y0, y1, hb⟩ := hrel
    by_cases hlt : k < 16
    · have k1 : (k : Int) < 16 := by omega
      obtain ⟨Q, hQ⟩ : ∃ Q, k / 4 = Q := ⟨_, rfl⟩
      obtain ⟨r, hr⟩ : ∃ r, k % 4 = r := ⟨_, rfl⟩
      have t1 : (k : Int).tdiv 4 = (Q : Int) := by rw [Int.tdiv_eq_ediv_of_nonneg (by omega)]; omega
      have t2 : (k : Int).tmod 4 = (r : Int) := by rw [Int.tmod_eq_emod_of_nonneg (by omega)]; omega
      have d1 : (k : Int) / 4 = (Q : Int) := by omega
      have d2 : (k : Int) % 4 = (r : Int) := by omega
      have q4 : (Q : Int) < 4 := by omega
      have r4 : (r : Int) < 4 := by omega
      have n1 : (Q : Int).toNat = Q := by omega
      have n2 : (16 * (r : Int)).toNat = 16 * r := by omega
      have n3 : 16 * (r : Int) < 64 := by omega
      have hdg := wd_dg v k
      rw [hQ, hr] at hdg
      have c0 := (arr_get y0 (numL_get v Q (by omega))).1
      obtain ⟨c1, f1⟩ := arr_get y1 (rowH_get p 16 k hlt)
      have ps := shr_pow (wd v Q) (16 * r)
      have HSET := Lib.hid (arr_set (i := k) y1 (.int .u64 (dg v k : Int)))
      have HP := Lib.hid hp
      have HY := Lib.hid y0
      have HD := Lib.hid hdg
      have hw := wd_lt v Q
      have hy : wd v Q / 2 ^ (16 * r) < 18446744073709551616 := Nat.lt_of_le_of_lt (Nat.div_le_self _ _) hw
      clear hp y0 y1 hdg hQ hr
      generalize wd v Q = x at *
      generalize x / 2 ^ (16 * r) = z at *
      go_wp2_with fail
      go_roundw
      case rel =>
        have e : (z : Int) % 65536 = (dg v k : Int) := by have := HD.out; omega
        rw [e]
        refine ⟨k + 1, upd p k (dg v k), by omega, by go_num, fun j hj => ?_, ?_, ?_, hb.setCell (p := ⟨w.heap.size + 1, k, none⟩) (by show w.heap.size ≤ w.heap.size + 1; omega) _⟩
        · unfold upd
          split
          · rename_i h; rw [h]
          · exact HP.out j (by omega)
        · exact (Below.heap_setCell wr ⟨w.heap.size + 1, k, none⟩ _ w.heap.size (by show w.heap.size ≠ w.heap.size + 1; omega)).trans HY.out
        · rw [← rowH_set]; exact HSET.out
      case measure => simp [intOf]; omega
    · obtain rfl : k = 16 := by omega
      have hO := Lib.hid (show OwnN wr (w.heap.size + 1) 16 v from ⟨by rw [← rowH_same hp]; exact y1, by rw [show 65536 ^ 16 = B64 ^ 4 from by decide]; exact HV.out, by omega⟩)
      clear hp y0 y1
      go_wp2_with fail
      go_ret
      exact ⟨_, rfl, hO.out, by omega, hb⟩
end Go.Proofs.Ythdbadomppohbaa
