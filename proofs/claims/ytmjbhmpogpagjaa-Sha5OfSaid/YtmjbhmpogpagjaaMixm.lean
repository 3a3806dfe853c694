/- Words that are turned and mixed: contracts of the functions of layer 15. Several turns together, and the law MixTurns: it returns true. The reference's Three, sums, and the law MixJoins: it returns true. -/
import Derived.Test.YtmjbhmpogpagjaaAid
import Derived.Laws.BitsAllLaws
import Derived.Laws.Bits64
import Derived.IntWalk
namespace Go.Proofs.Ytmjbhmpogpagjaa
set_option maxRecDepth 20000
set_option linter.unusedSimpArgs false
set_option linter.unusedVariables false
open Go.RowKit
theorem and_i64 (n : Int) (k : Nat) (hk : k < 63) : bits .and .i64 n ((2 ^ k - 1 : Nat) : Int) = n % ((2 ^ k : Nat) : Int) := by
  have h1 : 2 ^ k - 1 < 2 ^ 63 := by have := Nat.pow_lt_pow_right (a := 2) (by decide) hk; have := Nat.two_pow_pos k; omega
  show IntKind.i64.wrap ((BitVec.ofInt 64 n &&& BitVec.ofInt 64 ((2 ^ k - 1 : Nat) : Int)).toNat : Int) = _
  rw [BitVec.toNat_and, BitVec.ofInt_natCast, BitVec.toNat_ofNat, Nat.mod_eq_of_lt (a := 2 ^ k - 1) (by omega), Nat.and_two_pow_sub_one_eq_mod, BitVec.toNat_ofInt]
  have h2 : (n % ((2 ^ 64 : Nat) : Int)).toNat % 2 ^ k < 2 ^ k := Nat.mod_lt _ (Nat.two_pow_pos k)
  have h3 : 2 ^ k < 2 ^ 63 := Nat.pow_lt_pow_right (by decide) hk
  have e : (((n % ((2 ^ 64 : Nat) : Int)).toNat % 2 ^ k : Nat) : Int) = n % ((2 ^ k : Nat) : Int) := by
    rw [Int.natCast_emod, Int.toNat_of_nonneg (Int.emod_nonneg _ (by decide))]
    apply Int.emod_emod_of_dvd
    exact Int.natCast_dvd_natCast.2 (Nat.pow_dvd_pow 2 (by omega))
  rw [e] at *
  rw [IntKind.wrap_i64]
  have h4 : 0 ≤ n % ((2 ^ k : Nat) : Int) := Int.emod_nonneg _ (by have := Nat.two_pow_pos k; omega)
  have h5 : n % ((2 ^ k : Nat) : Int) < ((2 ^ k : Nat) : Int) := Int.emod_lt_of_pos _ (by have := Nat.two_pow_pos k; omega)
  omega
theorem and63 (n : Int) : bits .and .i64 n 63 = n % 64 := and_i64 n 6 (by decide)
theorem and31 (n : Int) : bits .and .i64 n 31 = n % 32 := and_i64 n 5 (by decide)
theorem m64 : bits .xor .u64 IntKind.u64.max 0 = 18446744073709551615 := by decide +kernel
theorem m32 : IntKind.u64.wrap (bits .xor .u32 IntKind.u32.max 0) = 4294967295 := by decide +kernel
theorem s64 : IntKind.u64.signed = false := rfl
theorem s32 : IntKind.u32.signed = false := rfl
set_option maxRecDepth 100000 in
theorem len64_c (w : World) :
    Calls Try.prog 70 #[.int .u64 18446744073709551615] w fun e w' => e = .returned (.int .i64 64) ∧ w = w' := by
  go_enter Try.func70, Try.ntmps70
  go_wp2
  go_ret
  exact ⟨ret_int (by decide +kernel), rfl⟩
set_option maxRecDepth 100000 in
theorem len32_c (w : World) :
    Calls Try.prog 70 #[.int .u64 4294967295] w fun e w' => e = .returned (.int .i64 32) ∧ w = w' := by
  go_enter Try.func70, Try.ntmps70
  go_wp2
  go_ret
  exact ⟨ret_int (by decide +kernel), rfl⟩
/-- A word of so many bits, turned right by r places. -/
def rotN (b X r : Nat) : Nat := X / 2 ^ r ||| (X * 2 ^ (b - r)) % 2 ^ b
theorem rotN_lt (b X r : Nat) (hX : X < 2 ^ b) : rotN b X r < 2 ^ b :=
  Nat.or_lt_two_pow (Nat.lt_of_le_of_lt (Nat.div_le_self _ _) hX) (Nat.mod_lt _ (Nat.two_pow_pos b))
theorem rotN_bit (b X r i : Nat) (hr : r < b) (hX : X < 2 ^ b) (hi : i < b) : (rotN b X r).testBit i = X.testBit ((i + r) % b) := by
  unfold rotN
  rw [Nat.testBit_or, Nat.testBit_div_two_pow, Nat.testBit_mod_two_pow, Nat.testBit_mul_two_pow]
  by_cases h : i + r < b
  · rw [Nat.mod_eq_of_lt h]
    have h1 : ¬ (b - r ≤ i) := by omega
    simp [h1]
  · have h1 : b - r ≤ i := by omega
    have h2 : (i + r) % b = i - (b - r) := by
      rw [Nat.mod_eq_sub_mod (by omega), Nat.mod_eq_of_lt (by omega)]; omega
    have h3 : X.testBit (i + r) = false := Nat.testBit_lt_two_pow (Nat.lt_of_lt_of_le hX (Nat.pow_le_pow_right (by decide) (by omega)))
    rw [h2, h3]
    simp [hi, h1]
theorem rotN_zero (b X : Nat) : rotN b X 0 = X := by
  simp [rotN]
/-- The same, of numbers. -/
def rotI (b x n : Int) : Int := (rotN b.toNat x.toNat (n % b).toNat : Nat)
def bitI (x i : Int) : Int := ((x.toNat.testBit i.toNat).toNat : Nat)
theorem bitI_eq (x i : Int) (hx : 0 ≤ x) : (x / 2 ^ i.toNat).tmod 2 = bitI x i := by
  obtain ⟨X, rfl⟩ := Int.eq_ofNat_of_zero_le hx
  have e : ((X : Int) / 2 ^ i.toNat) = ((X / 2 ^ i.toNat : Nat) : Int) := by
    rw [Int.natCast_ediv, Int.natCast_pow]; rfl
  rw [e, Int.tmod_eq_emod_of_nonneg (Int.natCast_nonneg _)]
  unfold bitI
  rw [Int.toNat_natCast, Nat.testBit_eq_decide_div_mod_eq]
  have : X / 2 ^ i.toNat % 2 < 2 := Nat.mod_lt _ (by decide)
  by_cases h : X / 2 ^ i.toNat % 2 = 1
  · simp [h]; omega
  · simp [h]; omega
theorem bitI_bd (x i : Int) : 0 ≤ bitI x i ∧ bitI x i ≤ 1 := by
  unfold bitI
  cases x.toNat.testBit i.toNat <;> simp
theorem rotI_bd64 (x n : Int) (h0 : 0 ≤ x) (h1 : x < 18446744073709551616) : 0 ≤ rotI 64 x n ∧ rotI 64 x n < 18446744073709551616 := by
  have := rotN_lt 64 x.toNat (n % 64).toNat (by omega)
  unfold rotI
  exact ⟨by omega, by show ((rotN 64 _ _ : Nat) : Int) < _; omega⟩
theorem rotI_bd32 (x n : Int) (h0 : 0 ≤ x) (h1 : x < 4294967296) : 0 ≤ rotI 32 x n ∧ rotI 32 x n < 4294967296 := by
  have := rotN_lt 32 x.toNat (n % 32).toNat (by omega)
  unfold rotI
  exact ⟨by omega, by show ((rotN 32 _ _ : Nat) : Int) < _; omega⟩
theorem rot_or64 (x n : Int) (h0 : 0 ≤ x) (h1 : x < 18446744073709551616) :
    bits .or .u64 (x / 2 ^ (n % 64).toNat) (IntKind.u64.wrap (x * 2 ^ (64 - n % 64).toNat)) = rotI 64 x n := by
  obtain ⟨X, rfl⟩ := Int.eq_ofNat_of_zero_le h0
  have hr : (n % 64).toNat < 64 := by omega
  have er : (64 - n % 64).toNat = 64 - (n % 64).toNat := by omega
  unfold rotI
  rw [er]
  generalize (n % 64).toNat = r at *
  have e1 : ((X : Int) / 2 ^ r) = ((X / 2 ^ r : Nat) : Int) := by rw [Int.natCast_ediv, Int.natCast_pow]; rfl
  have e2 : IntKind.u64.wrap ((X : Int) * 2 ^ (64 - r)) = ((X * 2 ^ (64 - r) % 2 ^ 64 : Nat) : Int) := by
    rw [IntKind.wrap_u64, Int.natCast_emod, Int.natCast_mul, Int.natCast_pow]; rfl
  rw [e1, e2, u64_or_nat _ _ (Nat.lt_of_le_of_lt (Nat.div_le_self _ _) (by omega)) (Nat.mod_lt _ (Nat.two_pow_pos 64))]
  rfl
theorem rot_or32 (x n : Int) (h0 : 0 ≤ x) (h1 : x < 4294967296) :
    bits .or .u32 (x / 2 ^ (n % 32).toNat) (IntKind.u32.wrap (x * 2 ^ (32 - n % 32).toNat)) = rotI 32 x n := by
  obtain ⟨X, rfl⟩ := Int.eq_ofNat_of_zero_le h0
  have hr : (n % 32).toNat < 32 := by omega
  have er : (32 - n % 32).toNat = 32 - (n % 32).toNat := by omega
  unfold rotI
  rw [er]
  generalize (n % 32).toNat = r at *
  have e1 : ((X : Int) / 2 ^ r) = ((X / 2 ^ r : Nat) : Int) := by rw [Int.natCast_ediv, Int.natCast_pow]; rfl
  have e2 : IntKind.u32.wrap ((X : Int) * 2 ^ (32 - r)) = ((X * 2 ^ (32 - r) % 2 ^ 32 : Nat) : Int) := by
    rw [IntKind.wrap_u32', Int.natCast_emod, Int.natCast_mul, Int.natCast_pow]; rfl
  rw [e1, e2, u32_or_nat _ _ (Nat.lt_of_le_of_lt (Nat.div_le_self _ _) (by omega)) (Nat.mod_lt _ (Nat.two_pow_pos 32))]
  rfl
theorem right64 (x n : Int) (w : World) (x0 : 0 ≤ x) (x1 : x < 18446744073709551616) :
    Calls Try.prog 59 #[.int .u64 x, .int .i64 n] w fun e w' => e = .returned (.int .u64 (rotI 64 x n)) ∧ ∃ nq, w.drewN nq = w' := by
  have hr := Lib.hid (rot_or64 x n x0 x1)
  have hs := s64
  have ha := and63 n
  have l0 : 0 ≤ n % 64 := by omega
  have l1 : n % 64 < 64 := by omega
  have l2 : IntKind.i64.wrap (64 - n % 64) = 64 - n % 64 := IntWalk.i64_in _ (by omega)
  have l3 : 0 ≤ 64 - n % 64 := by omega
  go_enter Try.func59, Try.ntmps59
  go_wp2_with fail
  rw [m64]
  refine (len64_c _).mono ?_
  rintro e w' ⟨rfl, rfl⟩
  go_wp2_with fail
  go_quiet (fail)
  go_wp2_with fail
  go_ret
  exact ⟨ret_int hr.out, _, rfl⟩
theorem bit_any (x i : Int) (w : World) (x0 : 0 ≤ x) (_x1 : x < 18446744073709551616) (i0 : 0 ≤ i) (i1 : i < 64) :
    Calls Try.prog 65 #[.int .u64 x, .int .i64 i] w fun e w' => e = .returned (.int .u64 (bitI x i)) ∧ w = w' := by
  have hr := Lib.hid (bitI_eq x i x0)
  go_enter Try.func65, Try.ntmps65
  go_wp2
  go_ret
  exact ⟨ret_int hr.out, rfl⟩
/-- One bit more of a word that is put together. -/
theorem rot_step (b x n : Int) (k : Nat) (hb : b = 32 ∨ b = 64) (h0 : 0 ≤ x) (h1 : x < 2 ^ b.toNat) (hk : (k : Int) < b) :
    IntKind.u64.wrap (((rotN b.toNat x.toNat (n % b).toNat % 2 ^ k : Nat) : Int) + IntKind.u64.wrap (bitI x ((k + n % b) % b) * 2 ^ k)) = ((rotN b.toNat x.toNat (n % b).toNat % 2 ^ (k + 1) : Nat) : Int) := by
  obtain ⟨X, rfl⟩ := Int.eq_ofNat_of_zero_le h0
  obtain ⟨B, rfl⟩ := Int.eq_ofNat_of_zero_le (by omega : 0 ≤ b)
  have hX : X < 2 ^ B := by have h2 : (X : Int) < ((2 ^ B : Nat) : Int) := by rw [Int.natCast_pow]; simpa using h1
                            exact Int.ofNat_lt.1 h2
  have hr : (n % (B : Int)).toNat < B := by have := Int.emod_lt_of_pos n (by omega : (0 : Int) < B); have := Int.emod_nonneg n (by omega : (B : Int) ≠ 0); omega
  have hn : n % (B : Int) = ((n % (B : Int)).toNat : Int) := by have := Int.emod_nonneg n (by omega : (B : Int) ≠ 0); omega
  generalize (n % (B : Int)).toNat = r at *
  rw [hn]
  simp only [Int.toNat_natCast]
  have hbit := rotN_bit B X r k hr hX (by omega)
  have e1 : bitI (X : Int) (((k : Int) + (r : Int)) % (B : Int)) = (((rotN B X r).testBit k).toNat : Int) := by
    unfold bitI
    rw [hbit]
    congr 2
  have em : rotN B X r % 2 ^ (k + 1) = rotN B X r % 2 ^ k + 2 ^ k * ((rotN B X r).testBit k).toNat := by rw [Nat.pow_succ, Nat.mod_mul, Nat.toNat_testBit]
  rw [e1, em]
  have hp : 2 ^ (k + 1) ≤ 2 ^ 64 := Nat.pow_le_pow_right (by decide) (by omega)
  have hp1 : 2 ^ (k + 1) = 2 * 2 ^ k := by rw [Nat.pow_succ]; omega
  have hm : rotN B X r % 2 ^ k < 2 ^ k := Nat.mod_lt _ (Nat.two_pow_pos k)
  have hc : ((2 : Int) ^ k) = ((2 ^ k : Nat) : Int) := by rw [Int.natCast_pow]; rfl
  rw [hc]
  generalize 2 ^ k = q at *
  generalize rotN B X r % q = m at *
  have hw : ∀ z : Int, 0 ≤ z → z < 18446744073709551616 → IntKind.u64.wrap z = z := fun z a b => by rw [IntKind.wrap_u64]; omega
  clear em e1 hbit hc
  cases (rotN B X r).testBit k
  · simp only [Bool.toNat_false, Nat.mul_zero, Nat.add_zero]
    have e0 : (((0 : Nat) : Int) * (q : Int)) = 0 := by simp
    rw [e0, hw 0 (by omega) (by omega), hw _ (by omega) (by omega)]
    omega
  · simp only [Bool.toNat_true, Nat.mul_one]
    have e0 : (((1 : Nat) : Int) * (q : Int)) = q := by simp
    rw [e0, hw q (by omega) (by omega), hw _ (by omega) (by omega)]
    omega
theorem tmod_cases (n b : Int) (hb : b = 32 ∨ b = 64) : (0 ≤ n.tmod b ∧ n.tmod b = n % b) ∨ (n.tmod b < 0 ∧ n.tmod b + b = n % b) := by
  by_cases h : 0 ≤ n
  · have e : n.tmod b = n % b := Int.tmod_eq_emod_of_nonneg h
    rw [e]
    left
    exact ⟨Int.emod_nonneg _ (by omega), rfl⟩
  · obtain ⟨m, rfl⟩ : ∃ m, n = -m := ⟨-n, by omega⟩
    have e : (-m).tmod b = -(m % b) := by rw [Int.neg_tmod, Int.tmod_eq_emod_of_nonneg (by omega)]
    rw [e]
    rcases hb with rfl | rfl <;> omega
/-- The lowest bits of the word that is put together. -/
def accI (b x n : Int) (k : Nat) : Int := (rotN b.toNat x.toNat (n % b).toNat % 2 ^ k : Nat)
theorem accI_step (b x n r : Int) (k : Nat) (hr : r = n % b) (hb : b = 32 ∨ b = 64) (h0 : 0 ≤ x) (h1 : x < 2 ^ b.toNat) (hk : (k : Int) < b) :
    IntKind.u64.wrap (accI b x n k + IntKind.u64.wrap (bitI x ((k + r) % b) * 2 ^ k)) = accI b x n (k + 1) := by
  subst hr; exact rot_step b x n k hb h0 h1 hk
theorem accI_all (b x n : Int) (k : Nat) (hk : (k : Int) = b) (h0 : 0 ≤ x) (h1 : x < 2 ^ b.toNat) : accI b x n k = rotI b x n := by
  subst hk
  obtain ⟨X, rfl⟩ := Int.eq_ofNat_of_zero_le h0
  have hX : X < 2 ^ k := by have h2 : (X : Int) < ((2 ^ k : Nat) : Int) := by rw [Int.natCast_pow]; simpa using h1
                            exact Int.ofNat_lt.1 h2
  unfold accI rotI
  simp only [Int.toNat_natCast]
  rw [Nat.mod_eq_of_lt (rotN_lt k X _ hX)]
/-- The reference's Right. -/
theorem rright (x n b : Int) (w : World) (hb : b = 32 ∨ b = 64) (x0 : 0 ≤ x) (x1 : x < 2 ^ b.toNat) (xm : x < 18446744073709551616) :
    Calls Try.prog 64 #[.int .u64 x, .int .i64 n, .int .i64 b] w fun e w' => e = .returned (.int .u64 (rotI b x n)) ∧ w = w' := by
  have b0 : 32 ≤ b := by omega
  have b1 : b ≤ 64 := by omega
  obtain ⟨r, hr⟩ : ∃ r, r = n % b := ⟨_, rfl⟩
  have r0 : 0 ≤ r := by rw [hr]; exact Int.emod_nonneg _ (by omega)
  have r1 : r < b := by rw [hr]; exact Int.emod_lt_of_pos _ (by omega)
  have hc := tmod_cases n b hb
  rw [← hr] at hc
  have hbd : -64 ≤ n.tmod b ∧ n.tmod b ≤ 64 := by omega
  obtain ⟨t0, t1⟩ := hbd
  have hb0 : ¬ b = 0 := by omega
  have Hb := Lib.hid hb
  have Hr := Lib.hid hr
  have X1 := Lib.hid x1
  clear hb hr x1
  rcases hc with ⟨_, hn⟩ | ⟨hlt, hn⟩
  · clear t0 t1
    go_enter Try.func64, Try.ntmps64
    go_wp2_with fail
    go_loop [8, 9] (fun y i => ∃ k : Nat, (k : Int) ≤ b ∧ i = .int .i64 k ∧ y = .int .u64 (accI b x n k)) (fun _ i => (b - intOf i).toNat)
    case atStart => exact ⟨0, by omega, rfl, by simp [accI, Nat.mod_one]⟩
    case round =>
      obtain ⟨k, hk, rfl, rfl⟩ := hrel
      by_cases hkb : (k : Int) < b
      · have i0 : 0 ≤ ((k : Int) + r) % b := Int.emod_nonneg _ (by omega)
        have i1 : ((k : Int) + r) % b < b := Int.emod_lt_of_pos _ (by omega)
        have hst := Lib.hid (accI_step b x n r k Hr.out Hb.out x0 X1.out hkb)
        go_wp2_with (go_at_call 65; refine (bit_any _ _ _ x0 xm (by omega) (by omega)).mono ?_; rintro e w' ⟨rfl, rfl⟩)
        go_round
        case rel => exact ⟨k + 1, by omega, by go_num, congrArg (Value.int .u64) hst.out⟩
        case measure => simp [intOf]; omega
      · have Hk := Lib.hid (by omega : (k : Int) = b)
        go_wp2
        go_ret
        exact ⟨ret_int (accI_all b x n k Hk.out x0 X1.out), rfl⟩
  · have hw : IntKind.i64.wrap (n.tmod b + b) = r := by rw [hn]; exact IntWalk.i64_in _ (by omega)
    clear hn
    go_enter Try.func64, Try.ntmps64
    go_wp2_with fail
    go_loop [8, 9] (fun y i => ∃ k : Nat, (k : Int) ≤ b ∧ i = .int .i64 k ∧ y = .int .u64 (accI b x n k)) (fun _ i => (b - intOf i).toNat)
    case atStart => exact ⟨0, by omega, rfl, by simp [accI, Nat.mod_one]⟩
    case round =>
      obtain ⟨k, hk, rfl, rfl⟩ := hrel
      by_cases hkb : (k : Int) < b
      · have i0 : 0 ≤ ((k : Int) + r) % b := Int.emod_nonneg _ (by omega)
        have i1 : ((k : Int) + r) % b < b := Int.emod_lt_of_pos _ (by omega)
        have hst := Lib.hid (accI_step b x n r k Hr.out Hb.out x0 X1.out hkb)
        go_wp2_with (go_at_call 65; refine (bit_any _ _ _ x0 xm (by omega) (by omega)).mono ?_; rintro e w' ⟨rfl, rfl⟩)
        go_round
        case rel => exact ⟨k + 1, by omega, by go_num, congrArg (Value.int .u64) hst.out⟩
        case measure => simp [intOf]; omega
      · have Hk := Lib.hid (by omega : (k : Int) = b)
        go_wp2
        go_ret
        exact ⟨ret_int (accI_all b x n k Hk.out x0 X1.out), rfl⟩
end Go.Proofs.Ytmjbhmpogpagjaa
namespace Go.Proofs.Ytmjbhmpogpagjaa
open Go.RowKit
/-- Several turns of a word of 64 bits together. -/
def turnsL64 (x : Int) (l : List Int) : Int := l.foldl (fun a n => bits .xor .u64 a (rotI 64 x n)) 0
theorem turnsL64_succ (x : Int) (zs : List Int) (k : Nat) (hk : k < zs.length) : turnsL64 x (zs.take (k + 1)) = bits .xor .u64 (turnsL64 x (zs.take k)) (rotI 64 x (zs.getD k 0)) := by
  unfold turnsL64
  rw [List.take_succ_eq_append_getElem hk, List.foldl_append, getD_at zs k hk]; rfl
theorem turns64 (x : Int) (b off len cap : Nat) (zs : List Int) (w : World) (x0 : 0 ≤ x) (x1 : x < 18446744073709551616) (hl : len ≤ cap) (hm : cap ≤ maxLen) (hz : zs.length = cap)
    (hcell : ∀ i, i < zs.length → w.cell? ⟨b, off + i, none⟩ = some (.int .i64 (zs.getD i 0))) (h0 : 0 < len) :
    Calls Try.prog 38 #[.int .u64 x, .slice (some ⟨b, off, none⟩) len cap] w fun e w' => e = .returned (.int .u64 (turnsL64 x (zs.take len))) ∧ ∃ nq, w.drewN nq = w' := by
  unfold maxLen at hm
  have HZ := Lib.hid hz
  have HC := Lib.hid hcell
  have hc0 := hcell 0 (by omega)
  clear hz hcell
  go_enter Try.func38, Try.ntmps38
  go_wp2_with fail
  go_loopw [5, 10] (fun out i wr => ∃ k : Nat, k ≤ len ∧ i = .int .i64 k ∧ out = .int .u64 (turnsL64 x (zs.take k)) ∧ ∃ nq, w.drewN nq = wr) (fun _ i _ => len - (intOf i).toNat)
  case atStart => exact ⟨0, by omega, rfl, rfl, 0, rfl⟩
  case round =>
    obtain ⟨k, hk, rfl, rfl, nq, rfl⟩ := hrel
    by_cases hlt : k < len
    · have hck := HC.out k (by have := HZ.out; omega)
      obtain ⟨v, hv⟩ : ∃ v, v = zs.getD k 0 := ⟨_, rfl⟩
      have HS := Lib.hid (turnsL64_succ x zs k (by have := HZ.out; omega))
      rw [← hv] at hck
      have Hv := Lib.hid hv
      generalize turnsL64 x (zs.take k) = t at *
      clear hv hc0
      go_wp2_with (go_at_call 59; refine (right64 _ _ _ x0 x1).mono ?_; rintro e w' ⟨rfl, n2, rfl⟩)
      go_roundw
      case rel => exact ⟨k + 1, by omega, by go_num, congrArg (Value.int .u64) (by rw [HS.out, ← Hv.out]), nq + n2, by simp [World.drewN]⟩
      case measure => simp [intOf]; omega
    · obtain rfl : k = len := by omega
      go_wp2
      go_ret
      exact ⟨rfl, _, rfl⟩
/-- Several turns of a word of 32 bits together. -/
def turnsL32 (x : Int) (l : List Int) : Int := l.foldl (fun a n => bits .xor .u32 a (rotI 32 x n)) 0
theorem turnsL32_succ (x : Int) (zs : List Int) (k : Nat) (hk : k < zs.length) : turnsL32 x (zs.take (k + 1)) = bits .xor .u32 (turnsL32 x (zs.take k)) (rotI 32 x (zs.getD k 0)) := by
  unfold turnsL32
  rw [List.take_succ_eq_append_getElem hk, List.foldl_append, getD_at zs k hk]; rfl
theorem turns64_zero (x : Int) (a : Option Addr) (cap : Nat) (w : World) :
    Calls Try.prog 38 #[.int .u64 x, .slice a 0 cap] w fun e w' => e = .returned (.int .u64 0) ∧ w = w' := by
  go_enter Try.func38, Try.ntmps38
  go_wp2_with fail
  refine wp_loop_rounds 1 ?_
  rw [rounds_succ]
  go_wp2
  go_ret
  exact ⟨rfl, rfl⟩
theorem rot_a : rotI 32 1 1 = 2147483648 := by decide +kernel
/-- What is chosen, and what most have, of words of 32 bits. -/
def choose32 (x y z : Int) : Int := bits .or .u32 (bits .and .u32 x y) (bits .and .u32 (bits .xor .u32 IntKind.u32.max x) z)
def most32 (x y z : Int) : Int := bits .or .u32 (bits .or .u32 (bits .and .u32 x y) (bits .and .u32 x z)) (bits .and .u32 y z)
/-- What is chosen, and what most have, of words of 64 bits. -/
def choose64 (x y z : Int) : Int := bits .or .u64 (bits .and .u64 x y) (bits .and .u64 (bits .xor .u64 IntKind.u64.max x) z)
def most64 (x y z : Int) : Int := bits .or .u64 (bits .or .u64 (bits .and .u64 x y) (bits .and .u64 x z)) (bits .and .u64 y z)
theorem choose64_any (x y z : Int) (w : World) :
    Calls Try.prog 39 #[.int .u64 x, .int .u64 y, .int .u64 z] w fun e w' => e = .returned (.int .u64 (choose64 x y z)) ∧ w = w' := by
  have hs := s64
  go_enter Try.func39, Try.ntmps39
  go_wp2
  go_ret
  exact ⟨rfl, rfl⟩
theorem most64_any (x y z : Int) (w : World) :
    Calls Try.prog 40 #[.int .u64 x, .int .u64 y, .int .u64 z] w fun e w' => e = .returned (.int .u64 (most64 x y z)) ∧ w = w' := by
  go_enter Try.func40, Try.ntmps40
  go_wp2
  go_ret
  exact ⟨rfl, rfl⟩
theorem rotI_32 (s : Int) (s0 : 0 ≤ s) : rotI 32 s 32 = s := by
  unfold rotI
  rw [show ((32 : Int) % 32).toNat = 0 from rfl, rotN_zero]; omega
theorem rotI_64 (x : Int) (x0 : 0 ≤ x) : rotI 64 x 64 = x := by
  unfold rotI
  rw [show ((64 : Int) % 64).toNat = 0 from rfl, rotN_zero]; omega
theorem rotI_m64 (x : Int) (x0 : 0 ≤ x) : rotI 64 x (-64) = x := by
  unfold rotI
  rw [show ((-64 : Int) % 64).toNat = 0 from rfl, rotN_zero]; omega
end Go.Proofs.Ytmjbhmpogpagjaa
namespace Go.Proofs.Ytmjbhmpogpagjaa
open Go.RowKit
/-- The lowest bits of a word. -/
def accT (F : Int) (k : Nat) : Int := (F.toNat % 2 ^ k : Nat)
theorem accT_step (F nb : Int) (k : Nat) (hk : k < 64) (hn : nb = ((F.toNat.testBit k).toNat : Nat)) : IntKind.u64.wrap (accT F k + IntKind.u64.wrap (nb * 2 ^ k)) = accT F (k + 1) := by
  subst hn
  unfold accT
  generalize F.toNat = X
  have em : X % 2 ^ (k + 1) = X % 2 ^ k + 2 ^ k * (X.testBit k).toNat := by rw [Nat.pow_succ, Nat.mod_mul, Nat.toNat_testBit]
  rw [em]
  have hp : 2 ^ (k + 1) ≤ 2 ^ 64 := Nat.pow_le_pow_right (by decide) (by omega)
  have hp1 : 2 ^ (k + 1) = 2 * 2 ^ k := by rw [Nat.pow_succ]; omega
  have hm : X % 2 ^ k < 2 ^ k := Nat.mod_lt _ (Nat.two_pow_pos k)
  have hc : ((2 : Int) ^ k) = ((2 ^ k : Nat) : Int) := by rw [Int.natCast_pow]; rfl
  rw [hc]
  generalize 2 ^ k = q at *
  generalize X % q = m at *
  have hw : ∀ z : Int, 0 ≤ z → z < 18446744073709551616 → IntKind.u64.wrap z = z := fun z a b => by rw [IntKind.wrap_u64]; omega
  clear em hc
  cases X.testBit k
  · simp only [Bool.toNat_false, Nat.mul_zero, Nat.add_zero]
    have e0 : (((0 : Nat) : Int) * (q : Int)) = 0 := by simp
    rw [e0, hw 0 (by omega) (by omega), hw _ (by omega) (by omega)]
    omega
  · simp only [Bool.toNat_true, Nat.mul_one]
    have e0 : (((1 : Nat) : Int) * (q : Int)) = q := by simp
    rw [e0, hw q (by omega) (by omega), hw _ (by omega) (by omega)]
    omega
theorem accT_all (F : Int) (h0 : 0 ≤ F) (h1 : F < 18446744073709551616) : accT F 64 = F := by unfold accT; omega
def chooseN32 (X Y Z : Nat) : Nat := (X &&& Y) ||| ((2 ^ 32 - 1) ^^^ X) &&& Z
def mostN32 (X Y Z : Nat) : Nat := (X &&& Y) ||| (X &&& Z) ||| (Y &&& Z)
theorem choose32_nat (X Y Z : Nat) (hx : X < 4294967296) (hy : Y < 4294967296) (hz : Z < 4294967296) : choose32 X Y Z = (chooseN32 X Y Z : Nat) := by
  unfold choose32 chooseN32
  have e : IntKind.u32.max = ((4294967295 : Nat) : Int) := rfl
  have h1 : 4294967295 ^^^ X < 2 ^ 32 := Nat.xor_lt_two_pow (by decide) hx
  have h2 : X &&& Y < 2 ^ 32 := Nat.and_lt_two_pow _ hy
  have h3 : (4294967295 ^^^ X) &&& Z < 2 ^ 32 := Nat.and_lt_two_pow _ hz
  rw [e, u32_xor_nat _ _ (by decide) hx, u32_and_nat _ _ hx hy, u32_and_nat _ _ h1 hz, u32_or_nat _ _ h2 h3]
theorem most32_nat (X Y Z : Nat) (hx : X < 4294967296) (hy : Y < 4294967296) (hz : Z < 4294967296) : most32 X Y Z = (mostN32 X Y Z : Nat) := by
  unfold most32 mostN32
  have h2 : X &&& Y < 2 ^ 32 := Nat.and_lt_two_pow _ hy
  have h3 : X &&& Z < 2 ^ 32 := Nat.and_lt_two_pow _ hz
  have h4 : Y &&& Z < 2 ^ 32 := Nat.and_lt_two_pow _ hz
  have h5 : X &&& Y ||| X &&& Z < 2 ^ 32 := Nat.or_lt_two_pow h2 h3
  rw [u32_and_nat _ _ hx hy, u32_and_nat _ _ hx hz, u32_and_nat _ _ hy hz, u32_or_nat _ _ h2 h3, u32_or_nat _ _ h5 h4]
theorem chooseN32_lt (X Y Z : Nat) (hy : Y < 4294967296) (hz : Z < 4294967296) : chooseN32 X Y Z < 4294967296 := by
  have h2 : X &&& Y < 2 ^ 32 := Nat.and_lt_two_pow _ hy
  have h3 : ((2 ^ 32 - 1) ^^^ X) &&& Z < 2 ^ 32 := Nat.and_lt_two_pow _ hz
  exact Nat.or_lt_two_pow h2 h3
theorem mostN32_lt (X Y Z : Nat) (hy : Y < 4294967296) (hz : Z < 4294967296) : mostN32 X Y Z < 4294967296 := by
  have h2 : X &&& Y < 2 ^ 32 := Nat.and_lt_two_pow _ hy
  have h3 : X &&& Z < 2 ^ 32 := Nat.and_lt_two_pow _ hz
  have h4 : Y &&& Z < 2 ^ 32 := Nat.and_lt_two_pow _ hz
  exact Nat.or_lt_two_pow (Nat.or_lt_two_pow h2 h3) h4
def chooseN64 (X Y Z : Nat) : Nat := (X &&& Y) ||| ((2 ^ 64 - 1) ^^^ X) &&& Z
def mostN64 (X Y Z : Nat) : Nat := (X &&& Y) ||| (X &&& Z) ||| (Y &&& Z)
theorem choose64_nat (X Y Z : Nat) (hx : X < 18446744073709551616) (hy : Y < 18446744073709551616) (hz : Z < 18446744073709551616) : choose64 X Y Z = (chooseN64 X Y Z : Nat) := by
  unfold choose64 chooseN64
  have e : IntKind.u64.max = ((18446744073709551615 : Nat) : Int) := rfl
  have h1 : 18446744073709551615 ^^^ X < 2 ^ 64 := Nat.xor_lt_two_pow (by decide) hx
  have h2 : X &&& Y < 2 ^ 64 := Nat.and_lt_two_pow _ hy
  have h3 : (18446744073709551615 ^^^ X) &&& Z < 2 ^ 64 := Nat.and_lt_two_pow _ hz
  rw [e, u64_xor_nat _ _ (by decide) hx, u64_and_nat _ _ hx hy, u64_and_nat _ _ h1 hz, u64_or_nat _ _ h2 h3]
theorem most64_nat (X Y Z : Nat) (hx : X < 18446744073709551616) (hy : Y < 18446744073709551616) (hz : Z < 18446744073709551616) : most64 X Y Z = (mostN64 X Y Z : Nat) := by
  unfold most64 mostN64
  have h2 : X &&& Y < 2 ^ 64 := Nat.and_lt_two_pow _ hy
  have h3 : X &&& Z < 2 ^ 64 := Nat.and_lt_two_pow _ hz
  have h4 : Y &&& Z < 2 ^ 64 := Nat.and_lt_two_pow _ hz
  have h5 : X &&& Y ||| X &&& Z < 2 ^ 64 := Nat.or_lt_two_pow h2 h3
  rw [u64_and_nat _ _ hx hy, u64_and_nat _ _ hx hz, u64_and_nat _ _ hy hz, u64_or_nat _ _ h2 h3, u64_or_nat _ _ h5 h4]
theorem chooseN64_lt (X Y Z : Nat) (hy : Y < 18446744073709551616) (hz : Z < 18446744073709551616) : chooseN64 X Y Z < 18446744073709551616 := by
  have h2 : X &&& Y < 2 ^ 64 := Nat.and_lt_two_pow _ hy
  have h3 : ((2 ^ 64 - 1) ^^^ X) &&& Z < 2 ^ 64 := Nat.and_lt_two_pow _ hz
  exact Nat.or_lt_two_pow h2 h3
theorem mostN64_lt (X Y Z : Nat) (hy : Y < 18446744073709551616) (hz : Z < 18446744073709551616) : mostN64 X Y Z < 18446744073709551616 := by
  have h2 : X &&& Y < 2 ^ 64 := Nat.and_lt_two_pow _ hy
  have h3 : X &&& Z < 2 ^ 64 := Nat.and_lt_two_pow _ hz
  have h4 : Y &&& Z < 2 ^ 64 := Nat.and_lt_two_pow _ hz
  exact Nat.or_lt_two_pow (Nat.or_lt_two_pow h2 h3) h4
theorem choose_short (X Y Z : Nat) : chooseN32 (X % 4294967296) (Y % 4294967296) (Z % 4294967296) = chooseN64 X Y Z % 4294967296 := by
  apply Nat.eq_of_testBit_eq
  intro i
  unfold chooseN32 chooseN64
  have e : (4294967296 : Nat) = 2 ^ 32 := rfl
  rw [e]
  simp only [Nat.testBit_mod_two_pow, Nat.testBit_or, Nat.testBit_and, Nat.testBit_xor, Nat.testBit_two_pow_sub_one]
  by_cases h : i < 32
  · have h' : i < 64 := by omega
    simp [h, h']
  · simp [h]
theorem most_short (X Y Z : Nat) : mostN32 (X % 4294967296) (Y % 4294967296) (Z % 4294967296) = mostN64 X Y Z % 4294967296 := by
  apply Nat.eq_of_testBit_eq
  intro i
  unfold mostN32 mostN64
  have e : (4294967296 : Nat) = 2 ^ 32 := rfl
  rw [e]
  simp only [Nat.testBit_mod_two_pow, Nat.testBit_or, Nat.testBit_and]
  by_cases h : i < 32
  · simp [h]
  · simp [h]
theorem chooseN_bit (X Y Z i : Nat) (hi : i < 64) : (chooseN64 X Y Z).testBit i = if X.testBit i then Y.testBit i else Z.testBit i := by
  unfold chooseN64
  simp only [Nat.testBit_or, Nat.testBit_and, Nat.testBit_xor, Nat.testBit_two_pow_sub_one, hi]
  cases X.testBit i <;> simp
theorem mostN_bit (X Y Z i : Nat) : (mostN64 X Y Z).testBit i = (X.testBit i && Y.testBit i || X.testBit i && Z.testBit i || Y.testBit i && Z.testBit i) := by
  unfold mostN64
  simp only [Nat.testBit_or, Nat.testBit_and]
/-- What the facts on words say of numbers. -/
structure Joined (x y z : Int) : Prop where
  c0 : 0 ≤ choose64 x y z
  c1 : choose64 x y z < 18446744073709551616
  m0 : 0 ≤ most64 x y z
  m1 : most64 x y z < 18446744073709551616
  cs : choose32 (x % 4294967296) (y % 4294967296) (z % 4294967296) = choose64 x y z % 4294967296
  ms : most32 (x % 4294967296) (y % 4294967296) (z % 4294967296) = most64 x y z % 4294967296
  cb : ∀ k : Nat, k < 64 → ((((choose64 x y z).toNat.testBit k).toNat : Nat) : Int) = if (bitI x k == 1) = true then bitI y k else bitI z k
  mb : ∀ k : Nat, k < 64 → ((((most64 x y z).toNat.testBit k).toNat : Nat) : Int) = (bitI x k + bitI y k + bitI z k) / 2
theorem joined (x y z : Int) (x0 : 0 ≤ x) (x1 : x < 18446744073709551616) (y0 : 0 ≤ y) (y1 : y < 18446744073709551616) (z0 : 0 ≤ z) (z1 : z < 18446744073709551616) : Joined x y z := by
  obtain ⟨X, rfl⟩ := Int.eq_ofNat_of_zero_le x0
  obtain ⟨Y, rfl⟩ := Int.eq_ofNat_of_zero_le y0
  obtain ⟨Z, rfl⟩ := Int.eq_ofNat_of_zero_le z0
  have hX : X < 18446744073709551616 := by omega
  have hY : Y < 18446744073709551616 := by omega
  have hZ : Z < 18446744073709551616 := by omega
  have eX : ((X : Int) % 4294967296) = ((X % 4294967296 : Nat) : Int) := by omega
  have eY : ((Y : Int) % 4294967296) = ((Y % 4294967296 : Nat) : Int) := by omega
  have eZ : ((Z : Int) % 4294967296) = ((Z % 4294967296 : Nat) : Int) := by omega
  have lc := chooseN64_lt X Y Z hY hZ
  have lm := mostN64_lt X Y Z hY hZ
  refine ⟨?_, ?_, ?_, ?_, ?_, ?_, ?_, ?_⟩
  · rw [choose64_nat _ _ _ hX hY hZ]; omega
  · rw [choose64_nat _ _ _ hX hY hZ]; omega
  · rw [most64_nat _ _ _ hX hY hZ]; omega
  · rw [most64_nat _ _ _ hX hY hZ]; omega
  · rw [choose64_nat _ _ _ hX hY hZ, eX, eY, eZ, choose32_nat _ _ _ (Nat.mod_lt _ (by decide)) (Nat.mod_lt _ (by decide)) (Nat.mod_lt _ (by decide)), choose_short]; omega
  · rw [most64_nat _ _ _ hX hY hZ, eX, eY, eZ, most32_nat _ _ _ (Nat.mod_lt _ (by decide)) (Nat.mod_lt _ (by decide)) (Nat.mod_lt _ (by decide)), most_short]; omega
  · intro k hk
    rw [choose64_nat _ _ _ hX hY hZ, Int.toNat_natCast, chooseN_bit _ _ _ _ hk]
    unfold bitI
    simp only [Int.toNat_natCast]
    cases X.testBit k <;> simp
  · intro k hk
    rw [most64_nat _ _ _ hX hY hZ, Int.toNat_natCast, mostN_bit]
    unfold bitI
    simp only [Int.toNat_natCast]
    cases X.testBit k <;> cases Y.testBit k <;> cases Z.testBit k <;> rfl
theorem three0 (x y z : Int) (w : World) (x0 : 0 ≤ x) (x1 : x < 18446744073709551616) (y0 : 0 ≤ y) (y1 : y < 18446744073709551616) (z0 : 0 ≤ z) (z1 : z < 18446744073709551616) :
    Calls Try.prog 52 #[.int .u64 x, .int .u64 y, .int .u64 z, .int .i64 0] w fun e w' => e = .returned (.int .u64 (choose64 x y z)) ∧ w = w' := by
  have J := Lib.hid (joined x y z x0 x1 y0 y1 z0 z1)
  go_enter Try.func52, Try.ntmps52
  go_wp2_with fail
  go_loop [9, 10] (fun y1 i => ∃ k : Nat, k ≤ 64 ∧ i = .int .i64 k ∧ y1 = .int .u64 (accT (choose64 x y z) k)) (fun _ i => (64 - intOf i).toNat)
  case atStart => exact ⟨0, by omega, rfl, by simp [accT, Nat.mod_one]⟩
  case round =>
    obtain ⟨k, hk, rfl, rfl⟩ := hrel
    by_cases hlt : k < 64
    · obtain ⟨x2, x3⟩ := bitI_bd x k
      obtain ⟨y2, y3⟩ := bitI_bd y k
      obtain ⟨z2, z3⟩ := bitI_bd z k
      have S := accT_step (choose64 x y z) (if (bitI x k == 1) = true then bitI y k else bitI z k) k hlt (J.out.cb k hlt).symm
      by_cases hb : (bitI x k == 1) = true
      · rw [if_pos hb] at S
        have HS := Lib.hid S
        clear S
        go_wp2_with (first
          | (go_at_call_of 65 (x); refine (bit_any _ _ _ x0 x1 (by omega) (by omega)).mono ?_; rintro e w' ⟨rfl, rfl⟩)
          | (go_at_call_of 65 (y); refine (bit_any _ _ _ y0 y1 (by omega) (by omega)).mono ?_; rintro e w' ⟨rfl, rfl⟩)
          | (go_at_call_of 65 (z); refine (bit_any _ _ _ z0 z1 (by omega) (by omega)).mono ?_; rintro e w' ⟨rfl, rfl⟩))
        go_round
        case rel => exact ⟨k + 1, by omega, by go_num, congrArg (Value.int .u64) HS.out⟩
        case measure => simp [intOf]; omega
      · rw [if_neg hb] at S
        have HS := Lib.hid S
        have hb' : (bitI x k == 1) = false := Bool.eq_false_iff.2 hb
        clear S hb
        go_wp2_with (first
          | (go_at_call_of 65 (x); refine (bit_any _ _ _ x0 x1 (by omega) (by omega)).mono ?_; rintro e w' ⟨rfl, rfl⟩)
          | (go_at_call_of 65 (y); refine (bit_any _ _ _ y0 y1 (by omega) (by omega)).mono ?_; rintro e w' ⟨rfl, rfl⟩)
          | (go_at_call_of 65 (z); refine (bit_any _ _ _ z0 z1 (by omega) (by omega)).mono ?_; rintro e w' ⟨rfl, rfl⟩))
        go_round
        case rel => exact ⟨k + 1, by omega, by go_num, congrArg (Value.int .u64) HS.out⟩
        case measure => simp [intOf]; omega
    · obtain rfl : k = 64 := by omega
      have e := accT_all (choose64 x y z) J.out.c0 J.out.c1
      have E := Lib.hid e
      clear e
      go_wp2
      go_ret
      exact ⟨ret_int E.out, rfl⟩
theorem three1 (x y z : Int) (w : World) (x0 : 0 ≤ x) (x1 : x < 18446744073709551616) (y0 : 0 ≤ y) (y1 : y < 18446744073709551616) (z0 : 0 ≤ z) (z1 : z < 18446744073709551616) :
    Calls Try.prog 52 #[.int .u64 x, .int .u64 y, .int .u64 z, .int .i64 1] w fun e w' => e = .returned (.int .u64 (most64 x y z)) ∧ w = w' := by
  have J := Lib.hid (joined x y z x0 x1 y0 y1 z0 z1)
  go_enter Try.func52, Try.ntmps52
  go_wp2_with fail
  go_loop [9, 10] (fun y1 i => ∃ k : Nat, k ≤ 64 ∧ i = .int .i64 k ∧ y1 = .int .u64 (accT (most64 x y z) k)) (fun _ i => (64 - intOf i).toNat)
  case atStart => exact ⟨0, by omega, rfl, by simp [accT, Nat.mod_one]⟩
  case round =>
    obtain ⟨k, hk, rfl, rfl⟩ := hrel
    by_cases hlt : k < 64
    · obtain ⟨x2, x3⟩ := bitI_bd x k
      obtain ⟨y2, y3⟩ := bitI_bd y k
      obtain ⟨z2, z3⟩ := bitI_bd z k
      have HS := Lib.hid (accT_step (most64 x y z) ((bitI x k + bitI y k + bitI z k) / 2) k hlt (J.out.mb k hlt).symm)
      go_wp2_with (first
        | (go_at_call_of 65 (x); refine (bit_any _ _ _ x0 x1 (by omega) (by omega)).mono ?_; rintro e w' ⟨rfl, rfl⟩)
        | (go_at_call_of 65 (y); refine (bit_any _ _ _ y0 y1 (by omega) (by omega)).mono ?_; rintro e w' ⟨rfl, rfl⟩)
        | (go_at_call_of 65 (z); refine (bit_any _ _ _ z0 z1 (by omega) (by omega)).mono ?_; rintro e w' ⟨rfl, rfl⟩))
      go_round
      case rel => exact ⟨k + 1, by omega, by go_num, congrArg (Value.int .u64) HS.out⟩
      case measure => simp [intOf]; omega
    · obtain rfl : k = 64 := by omega
      have e := accT_all (most64 x y z) J.out.m0 J.out.m1
      have E := Lib.hid e
      clear e
      go_wp2
      go_ret
      exact ⟨ret_int E.out, rfl⟩
theorem sum64_3 (x y z : Int) (n : Nat) (w : World)
    (c0 : w.cell? ⟨n, 0, none⟩ = some (.int .u64 x)) (c1 : w.cell? ⟨n, 1, none⟩ = some (.int .u64 y)) (c2 : w.cell? ⟨n, 2, none⟩ = some (.int .u64 z)) (hx : IntKind.u64.wrap x = x) :
    Calls Try.prog 37 #[.slice (some ⟨n, 0, none⟩) 3 3] w fun e w' => e = .returned (.int .u64 (IntKind.u64.wrap (IntKind.u64.wrap (x + y) + z))) ∧ w = w' := by
  go_enter Try.func37, Try.ntmps37
  go_wp2_with fail
  refine wp_loop_rounds 4 ?_
  rw [rounds_succ]; go_wp2
  rw [rounds_succ]; go_wp2
  rw [rounds_succ]; go_wp2
  rw [rounds_succ]; go_wp2
  go_ret
  exact ⟨rfl, rfl⟩
theorem sum64_1 (x : Int) (n : Nat) (w : World) (c0 : w.cell? ⟨n, 0, none⟩ = some (.int .u64 x)) (hx : IntKind.u64.wrap x = x) :
    Calls Try.prog 37 #[.slice (some ⟨n, 0, none⟩) 1 1] w fun e w' => e = .returned (.int .u64 x) ∧ w = w' := by
  go_enter Try.func37, Try.ntmps37
  go_wp2_with fail
  refine wp_loop_rounds 2 ?_
  rw [rounds_succ]; go_wp2
  rw [rounds_succ]; go_wp2
  go_ret
  exact ⟨rfl, rfl⟩
end Go.Proofs.Ytmjbhmpogpagjaa
