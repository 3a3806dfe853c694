/- lives of layer 5; the law NumScans: it returns true. -/
import Derived.Test.YtdnkpclpcelbaaaDoorLnuG
namespace Go.Proofs.YtdnkpclpcelbaaaDoor
set_option maxRecDepth 20000
set_option linter.unusedSimpArgs false
set_option linter.unusedVariables false
open Go.RowKit
theorem scanI_un {s : ByteArray} {f : Nat} (hf : f ≤ s.size) (hm : gb s f ≠ 45) : scanI s (f : Int) = scanF s f 0 := by
  rw [scanI, if_neg (by omega), Int.toNat_natCast, if_neg hm]
theorem scanI_si {s : ByteArray} {a f : Nat} (hfa : f = a + 1) (hf : f ≤ s.size) (hm : gb s a = 45) : scanI s (a : Int) = scanF s f 1 := by
  rw [scanI, if_neg (by omega), Int.toNat_natCast, if_pos hm, hfa]
theorem sign_in {s : ByteArray} {a : Nat} (hm : gb s a = 45) : a + 1 ≤ s.size := by
  apply Nat.lt_of_not_le
  intro h
  rw [gb_out s a h] at hm
  exact absurd hm (by decide)
theorem scan_any (s : ByteArray) (p : Int) (w : World) (hs : s.size ≤ 140737488355328) :
    Calls Tryd.prog 60 #[.string s, .int .i64 p] w fun e w' => e = retI (scanI s p) ∧ Below w.heap.size w w' := by
  by_cases hp : p < 0 ∨ (s.size : Int) < p
  · rw [scanI, if_pos hp]
    exact scan_out s p w hp hs
  · obtain ⟨a, rfl⟩ : ∃ a : Nat, p = (a : Int) := ⟨p.toNat, by omega⟩
    by_cases hm : gb s a = 45
    · have hf := sign_in hm
      rw [scanI_si rfl hf hm]
      by_cases hd : a + 1 < s.size ∧ isD (gb s (a + 1)) = true
      · exact scan_si s a (a + 1) w rfl hd.1 hm hd.2 hs
      · exact scan_si6 s a (a + 1) w rfl hf hm (fun h => by cases hx : isD (gb s (a + 1)) <;> simp_all) hs
    · have hf : a ≤ s.size := by omega
      rw [scanI_un hf hm]
      by_cases hd : a < s.size ∧ isD (gb s a) = true
      · exact scan_un s a w hd.1 hm hd.2 hs
      · exact scan_un6 s a w hf hm (fun h => by cases hx : isD (gb s a) <;> simp_all) hs
theorem ex1 : scanI ⟨#[97, 49, 50, 44]⟩ 1 = (12, 3, 0) := by decide +kernel
theorem ex2 : scanI ⟨#[48, 48, 55]⟩ 0 = (0, 0, 12) := by decide +kernel
theorem ex3 : scanI ⟨#[57, 48, 48, 55, 49, 57, 57, 50, 53, 52, 55, 52, 48, 57, 57, 50]⟩ 0 = (0, 0, 2) := by decide +kernel
end Go.Proofs.YtdnkpclpcelbaaaDoor
