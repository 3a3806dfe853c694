/- (wide.Num).Len: what it answers. -/
import Derived.Test.YthdbadomppohbaaWidF
import Derived.Test.YthdbadomppohbaaWidK
import Derived.Laws.MathBits
import Derived.Lib.ItoaNum
import Derived.Test.YthdbadomppohbaaShelfLen
namespace Go.Proofs.Ythdbadomppohbaa
set_option maxRecDepth 20000
set_option linter.unusedSimpArgs false
set_option linter.unusedVariables false
open Go.RowKit
theorem top_word (n i : Nat) (h : n / B64 ^ (i + 1) = 0) : n / B64 ^ i = wd n i := by
  have := div_step n i
  rw [h] at this
  omega
theorem lib_bitLen (x : Nat) (h : x < 2 ^ 64) : Lib.bitLen x = Go.bitLen x := by
  show Lib.bitLenAux 64 x = _
  by_cases h0 : x = 0
  · subst h0; rw [Lib.bitLenAux_zero]; rfl
  · obtain ⟨a, b, c⟩ := Lib.bitLenAux_bounds 64 x h h0
    obtain ⟨c', b'⟩ := bitLen_spec x
    have b' := b' h0
    generalize Lib.bitLenAux 64 x = L at *
    generalize bitLen x = M at *
    have h1 : L - 1 < M := (Nat.pow_lt_pow_iff_right (by decide : 1 < 2)).1 (Nat.lt_of_le_of_lt b c')
    have h2 : M - 1 < L := (Nat.pow_lt_pow_iff_right (by decide : 1 < 2)).1 (Nat.lt_of_le_of_lt b' c)
    omega
theorem len_word (n i : Nat) (h : n / B64 ^ (i + 1) = 0) (h0 : wd n i ≠ 0) : Go.bitLen n = 64 * i + Go.bitLen (wd n i) := by
  have h1 := top_word n i h
  have h2 : B64 ^ i = 2 ^ (64 * i) := by rw [show B64 = 2 ^ 64 from rfl, ← Nat.pow_mul]
  rw [← h1] at h0 ⊢
  rw [h2] at h0 ⊢
  exact bitLen_shift n (64 * i) h0
theorem bitLen_le64 (x : Nat) (h : x < 18446744073709551616) : Go.bitLen x ≤ 64 := by
  obtain ⟨_, b⟩ := bitLen_spec x
  by_cases h0 : x = 0
  · subst h0; decide
  · have : Go.bitLen x - 1 < 64 := (Nat.pow_lt_pow_iff_right (by decide : 1 < 2)).1 (Nat.lt_of_le_of_lt (b h0) h)
    omega
set_option maxHeartbeats 1000000 in
theorem len_any (n : Nat) (w : World) (hn : n < B64 ^ 4) :
    Calls Try.prog 81 #[numV n] w fun e w' => e = .returned (.int .i64 (Go.bitLen n : Int)) ∧ Below w.heap.size w w' := by
  rw [show numV n = .agg #[.int .u64 (wd n 0 : Int), .int .u64 (wd n 1 : Int), .int .u64 (wd n 2 : Int), .int .u64 (wd n 3 : Int)] from rfl]
  have x0 : (w.alloc (.cells (numL n).toArray 26)).heap[w.heap.size]? = some (.cells (numL n).toArray 26 (0, 0)) := alloc_new _ _
  have x1 : Below w.heap.size w (w.alloc (.cells (numL n).toArray 26)) := gr_alloc (Below.refl _ _) _
  go_enter Try.func81, Try.ntmps81
  go_wp2_with fail
  change Code.wp _ _ _ _ (w.alloc (.cells (numL n).toArray 26))
  generalize w.alloc (.cells (numL n).toArray 26) = X at *
  go_loopw [3] (fun i wr => ∃ c : Nat, c ≤ 4 ∧ i = .int .i64 (kI c) ∧ n / B64 ^ c = 0 ∧ ∃ nq, X.drewN nq = wr) (fun i _ => (intOf i + 1).toNat)
  case atStart => exact ⟨4, by omega, rfl, Nat.div_eq_of_lt hn, 0, rfl⟩
  case round =>
    obtain ⟨c, hc, rfl, hz, nq, rfl⟩ := hrel
    match c, hc with
    | 0, _ =>
      have HE := Lib.hid (show Go.bitLen n = 0 by
        rw [Nat.pow_zero, Nat.div_one] at hz
        rw [hz]; rfl)
      rw [show kI 0 = -1 from rfl]
      clear hz x0
      go_wp2_with fail
      go_ret
      exact ⟨ret_int (by rw [HE.out]; rfl), below_drewN1 x1 nq⟩
    | d + 1, hc =>
      rw [show kI (d + 1) = (d : Int) by unfold kI; omega]
      have d3 : (d : Int) < 4 := by omega
      have d4 : ¬ (4 : Int) ≤ (d : Int) := by omega
      have c0 : (X.drewN nq).cell? ⟨w.heap.size, d, none⟩ = some (.int .u64 (wd n d : Int)) := (arr_get x0 (numL_get n d (by omega))).1
      have hw := wd_lt n d
      by_cases he : wd n d = 0
      · have HS := Lib.hid (show n / B64 ^ d = 0 from (top_word n d hz).trans he)
        rw [he] at c0
        clear hz x0 he hw
        go_wp2_with fail
        go_roundw
        case rel => exact ⟨d, by omega, rfl, HS.out, _, rfl⟩
        case measure => simp [intOf]
      · have HE := Lib.hid (len_word n d hz he)
        have q1 : ¬ ((wd n d : Int) = 0) := by omega
        have q2 : decide ((wd n d : Int) = 0) = false := by simpa using q1
        have q3 : ((wd n d : Int) == 0) = false := by simpa using q1
        clear hz x0 he
        generalize hx : wd n d = x at *
        have BL := Lib.hid (fun w => Try.bits_Len64 (x : Int) w (by omega) (by omega))
        clear hx
        go_wp2_with fail
        refine (BL.out _).mono ?_
        rintro e w' ⟨rfl, rfl⟩
        have hbl : Lib.bitLen (x : Int).toNat ≤ 64 := by rw [Int.toNat_natCast, lib_bitLen x hw]; exact bitLen_le64 x hw
        have HB := Lib.hid (show Lib.bitLen (x : Int).toNat = Go.bitLen x by rw [Int.toNat_natCast, lib_bitLen x hw])
        generalize Lib.bitLen (x : Int).toNat = y at *
        have hbl2 : (y : Int) ≤ 64 := by omega
        go_wp2_with fail
        go_ret
        exact ⟨ret_int (by have := HE.out; have := HB.out; omega), below_drewN1 x1 nq⟩
end Go.Proofs.Ythdbadomppohbaa
