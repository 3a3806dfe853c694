/- The reference's Bytes: what it answers. -/
import Derived.Test.YtjjpnoahicnipaaPut
import Derived.Test.YtjjpnoahicnipaaWidQ
namespace Go.Proofs.Ytjjpnoahicnipaa
open Go.RowKit
theorem byW_eq (m : Nat) : (putR (m : Int) 8).reverse = (List.range 8).map fun j => UInt8.ofNat (m / 256 ^ j % 256) := by
  have h : ∀ k, ofI (dk (m : Int) k % 256) = UInt8.ofNat (m / 256 ^ k % 256) := fun k => by
    unfold ofI dk
    rw [← Int.natCast_ediv]
    congr 1
  simp only [putR, h]
  rfl
theorem byte_wd (n i j : Nat) (hj : j < 8) : wd n i / 256 ^ j % 256 = n / 256 ^ (8 * i + j) % 256 := by
  have h := wd_byte n (8 * i + j)
  rw [show (8 * i + j) / 8 = i by omega, show (8 * i + j) % 8 = j by omega, Nat.pow_mul] at h
  exact h
theorem byW_wd (n i : Nat) : (putR (wd n i : Int) 8).reverse = (List.range 8).map fun j => UInt8.ofNat (n / 256 ^ (8 * i + j) % 256) := by
  rw [byW_eq]
  refine List.map_congr_left fun j hj => ?_
  rw [byte_wd n i j (List.mem_range.1 hj)]
theorem byL_parts (n : Nat) : (List.range 4).flatMap (fun i => (putR (wd n i : Int) 8).reverse) = byL n := by
  simp only [byW_wd]
  rfl
set_option maxHeartbeats 1000000 in
theorem rbytes_any (n : Nat) (w : World) :
    Calls Try.prog 11 #[numV n] w fun e w' => e = .returned (.string ⟨(byL n).toArray⟩) ∧ Below w.heap.size w w' := by
  rw [show numV n = .agg #[.int .u64 (wd n 0 : Int), .int .u64 (wd n 1 : Int), .int .u64 (wd n 2 : Int), .int .u64 (wd n 3 : Int)] from rfl]
  have x0 : (w.alloc (.cells (numL n).toArray 23)).heap[w.heap.size]? = some (.cells (numL n).toArray 23 (0, 0)) := alloc_new _ _
  have xb : Below w.heap.size w (w.alloc (.cells (numL n).toArray 23)) := gr_alloc (Below.refl _ _) _
  go_enter Try.func11, Try.ntmps11
  go_wp2_with fail
  change Code.wp _ _ _ _ (w.alloc (.cells (numL n).toArray 23))
  generalize w.alloc (.cells (numL n).toArray 23) = X at *
  go_loopw [3, 4] (fun s i wr => ∃ k : Nat, k ≤ 4 ∧ i = .int .i64 (k : Int) ∧ s = .string ⟨((List.range k).flatMap (fun i => (putR (wd n i : Int) 8).reverse)).toArray⟩ ∧ wr.heap[w.heap.size]? = some (.cells (numL n).toArray 23 (0, 0)) ∧ Below w.heap.size w wr) (fun _ i _ => 4 - (intOf i).toNat)
  case atStart => exact ⟨0, by omega, rfl, rfl, x0, xb⟩
  case round =>
    clear x0 xb
    obtain ⟨k, hk, rfl, rfl, y0, hb⟩ := hrel
    by_cases hlt : k < 4
    · have k1 : (k : Int) < 4 := by omega
      have c0 := (arr_get y0 (numL_get n k hlt)).1
      have KP : Hid (∀ w, Calls Try.prog 39 #[.int .u64 (wd n k : Int), .int .i64 8] w fun e w' => e = .returned (.string ⟨(putR (wd n k : Int) 8).toArray⟩) ∧ Below w.heap.size w w') := fun w => rput_any (wd n k : Int) 8 w (by omega) (by have := wd_lt n k; omega) (by omega)
      have KT := Lib.hid (fun w => rturn_any ⟨(putR (wd n k : Int) 8).toArray⟩ w (by show (putR _ 8).toArray.size ≤ _; simp [putR_length]))
      have HS := Lib.hid (show (List.range (k + 1)).flatMap (fun i => (putR (wd n i : Int) 8).reverse) = (List.range k).flatMap (fun i => (putR (wd n i : Int) 8).reverse) ++ (putR (wd n k : Int) 8).reverse from by rw [List.range_succ, List.flatMap_append]; simp)
      have HY := Lib.hid y0
      clear y0
      have hlen : ((List.range k).flatMap (fun i => (putR (wd n i : Int) 8).reverse)).length ≤ 32 := by
        have : k = 0 ∨ k = 1 ∨ k = 2 ∨ k = 3 := by omega
        rcases this with rfl | rfl | rfl | rfl <;> simp [List.range_succ, putR_length]
      have hlen2 : (putR (wd n k : Int) 8).length ≤ 8 := by rw [putR_length]; exact Nat.le_refl _
      generalize hL : (List.range k).flatMap (fun i => (putR (wd n i : Int) 8).reverse) = L at *
      generalize hP : putR (wd n k : Int) 8 = P at *
      clear hL hP
      have hlen3 : ¬ 9223372036854775807 < L.length + P.length := by omega
      clear hlen hlen2
      generalize (wd n k : Int) = x at *
      go_wp2_with fail
      refine (KP.out _).mono ?_
      rintro e w1 ⟨rfl, hb1⟩
      go_wp2_with fail
      refine (KT.out _).mono ?_
      rintro e w2 ⟨rfl, hb2⟩
      have hb3 := hb.trans ((gr_step hb1 hb2).mono hb.size)
      have hlt0 : w.heap.size < wr.heap.size := lt_blk HY.out
      have HY2 := Lib.hid (((gr_step hb1 hb2).block w.heap.size hlt0).trans HY.out)
      clear hb1 hb2
      go_wp2_with fail
      go_roundw
      case rel =>
        refine ⟨k + 1, by omega, by go_num, ?_, HY2.out, hb3⟩
        rw [HS.out]
        refine congrArg Value.string ?_
        apply ByteArray.ext
        simp
      case measure => simp [intOf]; omega
    · obtain rfl : k = 4 := by omega
      rw [byL_parts]
      go_wp2_with fail
      go_ret
      exact ⟨rfl, hb⟩
end Go.Proofs.Ytjjpnoahicnipaa
