/- (wide.Num).Bit: what it answers. -/
import Derived.Test.YthdbadomppohbaaWidE
import Derived.Laws.Bits64b
namespace Go.Proofs.Ythdbadomppohbaa
set_option maxRecDepth 20000
set_option linter.unusedSimpArgs false
set_option linter.unusedVariables false
open Go.RowKit
def bitN (n i : Nat) : Nat := n / 2 ^ i % 2
theorem mod_bit (m r : Nat) (hr : r < 64) : m % B64 / 2 ^ r % 2 = m / 2 ^ r % 2 := by
  have h1 := Nat.testBit_mod_two_pow m 64 r
  rw [Nat.testBit_eq_decide_div_mod_eq, Nat.testBit_eq_decide_div_mod_eq, decide_eq_true hr, Bool.true_and, decide_eq_decide] at h1
  have h2 : m % B64 / 2 ^ r % 2 < 2 := Nat.mod_lt _ (by decide)
  have h3 : m / 2 ^ r % 2 < 2 := Nat.mod_lt _ (by decide)
  have h4 : B64 = 2 ^ 64 := rfl
  rw [← h4] at h1
  omega
theorem wd_bit (n i : Nat) : wd n (i / 64) / 2 ^ (i % 64) % 2 = bitN n i := by
  unfold wd bitN
  rw [mod_bit _ _ (Nat.mod_lt _ (by decide)), Nat.div_div_eq_div_mul]
  have : B64 ^ (i / 64) * 2 ^ (i % 64) = 2 ^ i := by
    rw [show B64 = 2 ^ 64 from rfl, ← Nat.pow_mul, ← Nat.pow_add, Nat.div_add_mod]
  rw [this]
theorem bitN_lt (n i : Nat) : bitN n i < 2 := Nat.mod_lt _ (by decide)
theorem bit_any (n i : Nat) (w : World) (hi : i < 256) :
    Calls Try.prog 82 #[numV n, .int .i64 (i : Int)] w fun e w' => e = .returned (.int .u64 (bitN n i : Int)) ∧ Below w.heap.size w w' := by
  rw [show numV n = .agg #[.int .u64 (wd n 0 : Int), .int .u64 (wd n 1 : Int), .int .u64 (wd n 2 : Int), .int .u64 (wd n 3 : Int)] from rfl]
  have x0 : (w.alloc (.cells (numL n).toArray 26)).heap[w.heap.size]? = some (.cells (numL n).toArray 26 (0, 0)) := alloc_new _ _
  have x1 : Below w.heap.size w (w.alloc (.cells (numL n).toArray 26)) := gr_alloc (Below.refl _ _) _
  obtain ⟨Q, hQ⟩ : ∃ Q, i / 64 = Q := ⟨_, rfl⟩
  obtain ⟨r, hr⟩ : ∃ r, i % 64 = r := ⟨_, rfl⟩
  have t1 : (i : Int).tdiv 64 = (Q : Int) := by rw [Int.tdiv_eq_ediv_of_nonneg (by omega)]; omega
  have t2 : (i : Int).tmod 64 = (r : Int) := by rw [Int.tmod_eq_emod_of_nonneg (by omega)]; omega
  have d1 : (i : Int) / 64 = (Q : Int) := by omega
  have d2 : (i : Int) % 64 = (r : Int) := by omega
  have hb := wd_bit n i
  rw [hQ, hr] at hb
  have hw := wd_lt n Q
  obtain ⟨c0, _⟩ := arr_get x0 (numL_get n Q (by omega))
  have q4 : (Q : Int) < 4 := by omega
  have nQ : (Q : Int).toNat = Q := by omega
  have nr : (r : Int).toNat = r := by omega
  have i9 : (i : Int) ≤ 255 := by omega
  have r9 : (r : Int) < 64 := by omega
  have HB := Lib.hid hb
  have hand : bits .and .u64 (((wd n Q / 2 ^ r : Nat)) : Int) 1 = ((wd n Q / 2 ^ r % 2 : Nat) : Int) := by
    have hlt : wd n Q / 2 ^ r < 18446744073709551616 := Nat.lt_of_le_of_lt (Nat.div_le_self _ _) hw
    have := bits_and_u64_nat (wd n Q / 2 ^ r) 1 (by omega) (by omega)
    rw [Nat.and_one_is_mod] at this
    exact this
  have ps : (wd n Q : Int) / 2 ^ r = ((wd n Q / 2 ^ r : Nat) : Int) := by
    have e2 : ((2 : Int) ^ r) = ((2 ^ r : Nat) : Int) := by rw [Int.natCast_pow]; rfl
    rw [e2, ← Int.natCast_ediv]
  have kq : ([.int .u64 (wd n 0 : Int), .int .u64 (wd n 1 : Int), .int .u64 (wd n 2 : Int), .int .u64 (wd n 3 : Int)] : List Value)[Q]? = some (.int .u64 (wd n Q : Int)) := numL_get n Q (by omega)
  have X0 := Lib.hid x0
  clear hQ hr hb x0 c0
  generalize wd n Q = x at *
  generalize x / 2 ^ r = y at *
  go_enter Try.func82, Try.ntmps82
  go_wp2_with fail
  go_ret
  exact ⟨ret_int (by have := HB.out; omega), x1⟩
end Go.Proofs.Ythdbadomppohbaa
