/- The reference's Pad: its walk. -/
import Derived.Test.YtmjbhmpogpagjaaBlkD
namespace Go.Proofs.Ytmjbhmpogpagjaa
set_option maxRecDepth 20000
set_option linter.unusedSimpArgs false
set_option linter.unusedVariables false
open Go.RowKit
theorem noughts_size (k : Nat) : (noughts k).size = k := by
  show (List.replicate k (0 : UInt8)).toArray.size = k
  simp
theorem small_div (n e : Nat) (hn : n ≤ 1099511627776) (he : 8 ≤ e) : 8 * n / 256 ^ e = 0 := by
  obtain ⟨d, rfl⟩ : ∃ d, e = 8 + d := ⟨e - 8, by omega⟩
  rw [Nat.pow_add, ← Nat.div_div_eq_div_mul, Nat.div_eq_of_lt (show 8 * n < 256 ^ 8 by omega), Nat.zero_div]
theorem dk_nat (n k : Nat) : dk ((n : Int) * 8) k = ((8 * n / 256 ^ k : Nat) : Int) := by
  unfold dk
  rw [Int.natCast_ediv, show ((8 * n : Nat) : Int) = (n : Int) * 8 by omega]
theorem ofI_nat (m : Nat) : ofI ((m : Int) % 256) = UInt8.ofNat (m % 256) := by
  unfold ofI
  congr 1
theorem pad_list (n z v : Nat) (hn : n ≤ 1099511627776) : (128 :: List.replicate z (0 : UInt8)) ++ (List.replicate v (0 : UInt8) ++ putR ((n : Int) * 8) 8) = (List.range (1 + z + (v + 8))).map fun k => UInt8.ofNat (padB n (1 + z + (v + 8)) k) := by
  have e : 1 + z + (v + 8) = 1 + (z + v) + 8 := by omega
  rw [e, List.range_add, List.range_add, List.map_append, List.map_append, List.map_map, List.map_map, ← List.append_assoc]
  congr 1
  · rw [show (List.range 1) = [0] from rfl]
    have h : (List.range (z + v)).map ((fun k => UInt8.ofNat (padB n (1 + (z + v) + 8) k)) ∘ fun x => 1 + x) = List.replicate (z + v) 0 := by
      rw [List.eq_replicate_iff]
      refine ⟨by simp, fun b hb => ?_⟩
      obtain ⟨k, hk, rfl⟩ := List.mem_map.1 hb
      rw [List.mem_range] at hk
      simp only [Function.comp]
      unfold padB
      rw [if_neg (by omega), small_div n _ hn (by omega)]
      rfl
    rw [h, ← List.replicate_append_replicate]
    rfl
  · rw [putR_map]
    refine List.map_congr_left fun k hk => ?_
    rw [List.mem_range] at hk
    simp only [Function.comp]
    unfold padB
    rw [if_neg (by omega), dk_nat, ofI_nat, show 1 + (z + v) + 8 - 1 - (1 + (z + v) + k) = 8 - 1 - k by omega]
theorem pad_whole (n size width z v : Nat) (hn : n ≤ 1099511627776) (hv : width = v + 8) (hz : (size - (n + 1 + width) % size) % size = z) : pad1 z ++ (noughts v ++ ⟨(putR ((n : Int) * 8) 8).toArray⟩) = padS n size width := by
  have hL : padN n size width = 1 + z + (v + 8) := by unfold padN; rw [hz, hv]
  unfold padS
  rw [hL, ← pad_list n z v hn]
  rfl
set_option maxRecDepth 20000 in
set_option maxHeartbeats 2000000 in
theorem rpad_in (n size width : Nat) (w : World) (h1 : n ≤ 1099511627776) (h2 : 16 ≤ size) (h3 : size ≤ 256) (h4 : 8 ≤ width) (h5 : width ≤ 16) :
    Calls Try.prog 30 #[.int .i64 (n : Int), .int .i64 (size : Int), .int .i64 (width : Int)] w fun e w' => e = .returned (.string (padS n size width)) ∧ Below w.heap.size w w' := by
  have i1 : ¬ (n : Int) < 0 := by omega
  have i2 : ¬ (1099511627776 : Int) < (n : Int) := by omega
  have i3 : ¬ (size : Int) < 16 := by omega
  have i4 : ¬ (256 : Int) < (size : Int) := by omega
  have i5 : ¬ (width : Int) < 8 := by omega
  have i6 : ¬ (16 : Int) < (width : Int) := by omega
  have i7 : ¬ (size : Int) = 0 := by omega
  go_enter Try.func30, Try.ntmps30
  go_wp2_with fail
  go_loopw [7, 8] (fun s i wr => ∃ k : Nat, k + 8 ≤ width ∧ i = .int .i64 ((k : Int) + 8) ∧ s = .string (noughts k) ∧ Below w.heap.size w wr) (fun _ i _ => width - (intOf i).toNat)
  case atStart => exact ⟨0, by omega, rfl, rfl, Below.refl _ _⟩
  case round =>
    obtain ⟨k, hk, rfl, rfl, hb⟩ := hrel
    by_cases hlt : k + 8 < width
    · have p1 : (k : Int) + 8 < (width : Int) := by omega
      have r1 : IntKind.i64.wrap ((k : Int) + 8 + 1) = (k : Int) + 8 + 1 := IntWalk.i64_in _ (by omega)
      have kb : (convert 51 9 (.slice (some ⟨wr.heap.size, 0, none⟩) 1 1)).run Try.prog (wr.alloc (.cells #[.int .u8 0] 5)) = .ok (.string ⟨#[0]⟩) (wr.alloc (.cells #[.int .u8 0] 5)) := byte_text 0 (by omega) wr
      have HW := Lib.hid (hb.alloc hb.size (.cells #[.int .u8 0] 5))
      have s1 : (noughts k).size = k := noughts_size k
      have ka : noughts k ++ ⟨#[0]⟩ = noughts (k + 1) := noughts_add k
      have hk9 : k ≤ 8 := by omega
      clear hb
      go_wp2_with fail
      go_roundw
      case rel => exact ⟨k + 1, by omega, congrArg (Value.int .i64) (by omega), rfl, HW.out⟩
      case measure =>
        simp [intOf]
        omega
    · obtain rfl : width = k + 8 := by omega
      go_wp2_with fail
      refine (rput_any ((n : Int) * 8) 8 wr (by omega) (by omega) (by omega)).mono ?_
      rintro e w1 ⟨rfl, hb1⟩
      obtain ⟨E, hE⟩ : ∃ E, (⟨(putR ((n : Int) * 8) 8).toArray⟩ : ByteArray) = E := ⟨_, rfl⟩
      have sE : E.size = 8 := by rw [← hE]; exact putR_length ((n : Int) * 8) 8
      rw [hE]
      have HE := Lib.hid hE
      clear hE
      have sk : (noughts k).size = k := noughts_size k
      have hk9 : k ≤ 8 := by omega
      have kb : (convert 51 9 (.slice (some ⟨w1.heap.size, 0, none⟩) 1 1)).run Try.prog (w1.alloc (.cells #[.int .u8 128] 5)) = .ok (.string ⟨#[128]⟩) (w1.alloc (.cells #[.int .u8 128] 5)) := byte_text 128 (by omega) w1
      have HW := Lib.hid ((hb.trans (hb1.mono hb.size)).alloc (hb.trans (hb1.mono hb.size)).size (.cells #[.int .u8 128] 5))
      clear hb hb1
      go_wp2_with fail
      obtain ⟨q, hq⟩ : ∃ q, (n + 1 + (k + 8)) % size = q := ⟨_, rfl⟩
      obtain ⟨z, hz⟩ : ∃ z, (size - q) % size = z := ⟨_, rfl⟩
      have hz9 : z < size := by rw [← hz]; exact Nat.mod_lt _ (by omega)
      have HQ := Lib.hid hq
      have HZ := Lib.hid hz
      clear hq hz kb
      go_loopw [9] (fun s wr => ∃ j : Nat, j ≤ z ∧ s = .string (pad1 j) ∧ Below w.heap.size w wr) (fun s _ => match s with | .string b => 300 - b.size | _ => 0)
      case atStart => exact ⟨0, by omega, rfl, HW.out⟩
      case round =>
        clear HW
        obtain ⟨j, hj, rfl, hb⟩ := hrel
        have hh := pad_here (n + 1 + (k + 8)) size j q z (by omega) HQ.out HZ.out hj
        obtain ⟨M, hM⟩ : ∃ M, (n + 1 + (k + 8) + j) % size = M := ⟨_, rfl⟩
        rw [hM] at hh
        have sj : (pad1 j).size = j + 1 := pad1_size j
        have z1 : (z : Int) < (size : Int) := by omega
        have j1 : (j : Int) ≤ (z : Int) := by omega
        have r1 : IntKind.i64.wrap ((n : Int) + ((j : Int) + 1)) = (n : Int) + ((j : Int) + 1) := IntWalk.i64_in _ (by omega)
        have r2 : IntKind.i64.wrap ((n : Int) + ((j : Int) + 1) + ((k : Int) + 8)) = (n : Int) + ((j : Int) + 1) + ((k : Int) + 8) := IntWalk.i64_in _ (by omega)
        have t1 : ((n : Int) + ((j : Int) + 1) + ((k : Int) + 8)).tmod (size : Int) = (M : Int) := by
          rw [show (n : Int) + ((j : Int) + 1) + ((k : Int) + 8) = ((n + 1 + (k + 8) + j : Nat) : Int) by omega, Int.tmod_eq_emod_of_nonneg (by omega), ← Int.natCast_emod, hM]
        clear hM
        by_cases hjz : j = z
        · have m0 : M = 0 := hh.2 hjz
          subst m0
          have HF := Lib.hid (pad_whole n size (k + 8) z k h1 rfl (by rw [HQ.out, HZ.out]))
          have HJ := Lib.hid hjz
          clear hh hjz
          go_wp2_with fail
          have hf := HF.out
          rw [HE.out, ← HJ.out] at hf
          go_ret
          exact ⟨congrArg (fun s => Ending.returned (Value.string s)) hf, hb⟩
        · have m0 : ¬ (M : Int) = 0 := fun h => hjz (hh.1 (by omega))
          have kb : (convert 51 9 (.slice (some ⟨wr.heap.size, 0, none⟩) 1 1)).run Try.prog (wr.alloc (.cells #[.int .u8 0] 5)) = .ok (.string ⟨#[0]⟩) (wr.alloc (.cells #[.int .u8 0] 5)) := byte_text 0 (by omega) wr
          have HW := Lib.hid (hb.alloc hb.size (.cells #[.int .u8 0] 5))
          have HA := Lib.hid (pad1_add j)
          have HS := Lib.hid (pad1_size (j + 1))
          have HJ := Lib.hid (show j + 1 ≤ z by omega)
          clear hb hh hjz
          go_wp2_with fail
          go_roundw
          case rel => exact ⟨j + 1, HJ.out, congrArg Value.string HA.out, HW.out⟩
          case measure =>
            show 300 - (pad1 j ++ ⟨#[0]⟩).size < 300 - (pad1 j).size
            rw [HA.out, HS.out, sj]
            have := HJ.out
            omega
end Go.Proofs.Ytmjbhmpogpagjaa
