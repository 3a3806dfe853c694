/- The reference's Pad: its walk. -/
import Derived.Test.YtmjbhmpogpagjaaBlkC
namespace Go.Proofs.Ytmjbhmpogpagjaa
set_option maxRecDepth 20000
set_option linter.unusedSimpArgs false
set_option linter.unusedVariables false
open Go.RowKit
def noughts (k : Nat) : ByteArray := ⟨(List.replicate k (0 : UInt8)).toArray⟩
theorem noughts_add (k : Nat) : noughts k ++ ⟨#[0]⟩ = noughts (k + 1) := by
  unfold noughts
  rw [List.replicate_succ']
  rfl
theorem byte_text (c : Nat) (hc : c < 256) (w : World) : (convert 51 9 (.slice (some ⟨w.heap.size, 0, none⟩) 1 1)).run Try.prog (w.alloc (.cells #[.int .u8 (c : Int)] 5)) = .ok (.string ⟨#[UInt8.ofNat c]⟩) (w.alloc (.cells #[.int .u8 (c : Int)] 5)) := by
  have h := run_convert_bytes_back (P := Try.prog) (w.alloc (.cells #[.int .u8 (c : Int)] 5)) 51 9 5 ⟨w.heap.size, 0, none⟩ 1 [UInt8.ofNat c] Try.underlying51 Try.underlying5 Try.underlying9 (fun j hj => by
    have j0 : j = 0 := by simpa using hj
    subst j0
    have hadd : (⟨w.heap.size, 0, none⟩ : Addr).add 0 = ⟨w.heap.size, 0, none⟩ := by unfold Addr.add; split <;> simp_all
    rw [hadd]
    have h2 : (w.alloc (.cells #[.int .u8 (c : Int)] 5)).heap[w.heap.size]? = some (.cells [Value.int .u8 (c : Int)].toArray 5 (0, 0)) := alloc_new w _
    rw [(arr_get (i := 0) (v := .int .u8 (c : Int)) h2 rfl).1]
    show _ = some (Value.int .u8 ((UInt8.ofNat c).toNat : Int))
    rw [UInt8.toNat_ofNat_of_lt' hc])
  exact h
def pad1 (k : Nat) : ByteArray := ⟨(128 :: List.replicate k (0 : UInt8)).toArray⟩
theorem pad1_add (k : Nat) : pad1 k ++ ⟨#[0]⟩ = pad1 (k + 1) := by
  unfold pad1
  rw [List.replicate_succ']
  rfl
theorem pad1_size (k : Nat) : (pad1 k).size = k + 1 := by
  show (128 :: List.replicate k (0 : UInt8)).toArray.size = k + 1
  simp
theorem pad_here (A size j q z : Nat) (h0 : 0 < size) (hA : A % size = q) (hz : (size - q) % size = z) (hj : j ≤ z) : (A + j) % size = 0 ↔ j = z := by
  have hq : q < size := by rw [← hA]; exact Nat.mod_lt A h0
  have e : (A + j) % size = (q + j) % size := by
    conv => lhs; rw [← Nat.div_add_mod A size, hA, Nat.add_assoc, Nat.mul_add_mod]
  rw [e]
  rcases Nat.eq_zero_or_pos q with h | h
  · subst h
    rw [Nat.sub_zero, Nat.mod_self] at hz
    obtain rfl : j = 0 := by omega
    simp [← hz]
  · rw [Nat.mod_eq_of_lt (by omega)] at hz
    constructor
    · intro h2
      apply Nat.le_antisymm hj
      apply Nat.le_of_not_lt
      intro h3
      rw [Nat.mod_eq_of_lt (by omega)] at h2
      omega
    · rintro rfl
      rw [show q + j = size by omega, Nat.mod_self]
theorem putR_map (x : Int) : ∀ k, putR x k = (List.range k).map fun i => ofI (dk x (k - 1 - i) % 256)
  | 0 => rfl
  | k + 1 => by
    rw [putR, putR_map x k, List.range_succ_eq_map]
    simp only [List.map_cons, List.map_map]
    congr 1
    refine List.map_congr_left fun i _ => ?_
    simp only [Function.comp]
    congr 3
    omega
end Go.Proofs.Ytmjbhmpogpagjaa
