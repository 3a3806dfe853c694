/- Words that are turned and mixed: contracts of the functions of layer 15. -/
import Derived.Test.YtoccoagkakeenagAid
import Derived.Laws.BitsAllLaws
import Derived.Laws.Bits64
import Derived.IntWalk
namespace Go.Proofs.Ytoccoagkakeenag
open Go.RowKit
theorem and_i64 (n : Int) (k : Nat) (hk : k < 63) : bits .and .i64 n ((2 ^ k - 1 : Nat) : Int) = n % ((2 ^ k : Nat) : Int) := by
  have h1 : 2 ^ k - 1 < 2 ^ 63 := by have := Nat.pow_lt_pow_right (a := 2) (by decide) hk; have := Nat.two_pow_pos k; omega
  show IntKind.i64.wrap ((BitVec.ofInt 64 n &&& BitVec.ofInt 64 ((2 ^ k - 1 : Nat) : Int)).toNat : Int) = _
  rw [BitVec.toNat_and, BitVec.ofInt_natCast, BitVec.toNat_ofNat, Nat.mod_eq_of_lt (a := 2 ^ k - 1) (by omega), Nat.and_two_pow_sub_one_eq_mod, BitVec.toNat_ofInt]
  have h2 : (n % ((2 ^ 64 : Nat) : Int)).toNat % 2 ^ k < 2 ^ k := Nat.mod_lt _ (Nat.two_pow_pos k)
  have h3 : 2 ^ k < 2 ^ 63 := Nat.pow_lt_pow_right (by decide) hk
  have e : (((n % ((2 ^ 64 : Nat) : Int)).toNat % 2 ^ k : Nat) : Int) = n % ((2 ^ k : Nat) : Int) := by
    rw [Int.natCast_emod, Int.toNat_of_nonneg (Int.emod_nonneg _ (by decide))]
    apply Int.emod_emod_of_dvd
    exact Int.natCast_dvd_natCast.2 (Nat.pow_dvd_pow 2 (by omega))
  rw [e] at *
  rw [IntKind.wrap_i64]
  have h4 : 0 ≤ n % ((2 ^ k : Nat) : Int) := Int.emod_nonneg _ (by have := Nat.two_pow_pos k; omega)
  have h5 : n % ((2 ^ k : Nat) : Int) < ((2 ^ k : Nat) : Int) := Int.emod_lt_of_pos _ (by have := Nat.two_pow_pos k; omega)
  omega
theorem and63 (n : Int) : bits .and .i64 n 63 = n % 64 := and_i64 n 6 (by decide)
theorem and31 (n : Int) : bits .and .i64 n 31 = n % 32 := and_i64 n 5 (by decide)
theorem m64 : bits .xor .u64 IntKind.u64.max 0 = 18446744073709551615 := by decide +kernel
theorem m32 : IntKind.u64.wrap (bits .xor .u32 IntKind.u32.max 0) = 4294967295 := by decide +kernel
theorem s64 : IntKind.u64.signed = false := rfl
theorem s32 : IntKind.u32.signed = false := rfl
set_option maxRecDepth 100000 in
theorem len64_c (w : World) :
    Calls Try.prog 27 #[.int .u64 18446744073709551615] w fun e w' => e = .returned (.int .i64 64) ∧ w = w' := by
  go_enter Try.func27, Try.ntmps27
  go_wp2
  go_ret
  exact ⟨ret_int (by decide +kernel), rfl⟩
set_option maxRecDepth 100000 in
theorem len32_c (w : World) :
    Calls Try.prog 27 #[.int .u64 4294967295] w fun e w' => e = .returned (.int .i64 32) ∧ w = w' := by
  go_enter Try.func27, Try.ntmps27
  go_wp2
  go_ret
  exact ⟨ret_int (by decide +kernel), rfl⟩
/-- A word of so many bits, turned right by r places. -/
def rotN (b X r : Nat) : Nat := X / 2 ^ r ||| (X * 2 ^ (b - r)) % 2 ^ b
theorem rotN_lt (b X r : Nat) (hX : X < 2 ^ b) : rotN b X r < 2 ^ b :=
  Nat.or_lt_two_pow (Nat.lt_of_le_of_lt (Nat.div_le_self _ _) hX) (Nat.mod_lt _ (Nat.two_pow_pos b))
theorem rotN_bit (b X r i : Nat) (hr : r < b) (hX : X < 2 ^ b) (hi : i < b) : (rotN b X r).testBit i = X.testBit ((i + r) % b) := by
  unfold rotN
  rw [Nat.testBit_or, Nat.testBit_div_two_pow, Nat.testBit_mod_two_pow, Nat.testBit_mul_two_pow]
  by_cases h : i + r < b
  · rw [Nat.mod_eq_of_lt h]
    have h1 : ¬ (b - r ≤ i) := by omega
    simp [h1]
  · have h1 : b - r ≤ i := by omega
    have h2 : (i + r) % b = i - (b - r) := by
      rw [Nat.mod_eq_sub_mod (by omega), Nat.mod_eq_of_lt (by omega)]; omega
    have h3 : X.testBit (i + r) = false := Nat.testBit_lt_two_pow (Nat.lt_of_lt_of_le hX (Nat.pow_le_pow_right (by decide) (by omega)))
    rw [h2, h3]
    simp [hi, h1]
theorem rotN_zero (b X : Nat) : rotN b X 0 = X := by
  simp [rotN]
/-- The same, of numbers. -/
def rotI (b x n : Int) : Int := (rotN b.toNat x.toNat (n % b).toNat : Nat)
def bitI (x i : Int) : Int := ((x.toNat.testBit i.toNat).toNat : Nat)
theorem bitI_eq (x i : Int) (hx : 0 ≤ x) : (x / 2 ^ i.toNat).tmod 2 = bitI x i := by
  obtain ⟨X, rfl⟩ := Int.eq_ofNat_of_zero_le hx
  have e : ((X : Int) / 2 ^ i.toNat) = ((X / 2 ^ i.toNat : Nat) : Int) := by
    rw [Int.natCast_ediv, Int.natCast_pow]; rfl
  rw [e, Int.tmod_eq_emod_of_nonneg (Int.natCast_nonneg _)]
  unfold bitI
  rw [Int.toNat_natCast, Nat.testBit_eq_decide_div_mod_eq]
  have : X / 2 ^ i.toNat % 2 < 2 := Nat.mod_lt _ (by decide)
  by_cases h : X / 2 ^ i.toNat % 2 = 1
  · simp [h]; omega
  · simp [h]; omega
theorem bitI_bd (x i : Int) : 0 ≤ bitI x i ∧ bitI x i ≤ 1 := by
  unfold bitI
  cases x.toNat.testBit i.toNat <;> simp
theorem rotI_bd64 (x n : Int) (h0 : 0 ≤ x) (h1 : x < 18446744073709551616) : 0 ≤ rotI 64 x n ∧ rotI 64 x n < 18446744073709551616 := by
  have := rotN_lt 64 x.toNat (n % 64).toNat (by omega)
  unfold rotI
  exact ⟨by omega, by show ((rotN 64 _ _ : Nat) : Int) < _; omega⟩
theorem rotI_bd32 (x n : Int) (h0 : 0 ≤ x) (h1 : x < 4294967296) : 0 ≤ rotI 32 x n ∧ rotI 32 x n < 4294967296 := by
  have := rotN_lt 32 x.toNat (n % 32).toNat (by omega)
  unfold rotI
  exact ⟨by omega, by show ((rotN 32 _ _ : Nat) : Int) < _; omega⟩
theorem rot_or64 (x n : Int) (h0 : 0 ≤ x) (h1 : x < 18446744073709551616) :
    bits .or .u64 (x / 2 ^ (n % 64).toNat) (IntKind.u64.wrap (x * 2 ^ (64 - n % 64).toNat)) = rotI 64 x n := by
  obtain ⟨X, rfl⟩ := Int.eq_ofNat_of_zero_le h0
  have hr : (n % 64).toNat < 64 := by omega
  have er : (64 - n % 64).toNat = 64 - (n % 64).toNat := by omega
  unfold rotI
  rw [er]
  generalize (n % 64).toNat = r at *
  have e1 : ((X : Int) / 2 ^ r) = ((X / 2 ^ r : Nat) : Int) := by rw [Int.natCast_ediv, Int.natCast_pow]; rfl
  have e2 : IntKind.u64.wrap ((X : Int) * 2 ^ (64 - r)) = ((X * 2 ^ (64 - r) % 2 ^ 64 : Nat) : Int) := by
    rw [IntKind.wrap_u64, Int.natCast_emod, Int.natCast_mul, Int.natCast_pow]; rfl
  rw [e1, e2, u64_or_nat _ _ (Nat.lt_of_le_of_lt (Nat.div_le_self _ _) (by omega)) (Nat.mod_lt _ (Nat.two_pow_pos 64))]
  rfl
theorem rot_or32 (x n : Int) (h0 : 0 ≤ x) (h1 : x < 4294967296) :
    bits .or .u32 (x / 2 ^ (n % 32).toNat) (IntKind.u32.wrap (x * 2 ^ (32 - n % 32).toNat)) = rotI 32 x n := by
  obtain ⟨X, rfl⟩ := Int.eq_ofNat_of_zero_le h0
  have hr : (n % 32).toNat < 32 := by omega
  have er : (32 - n % 32).toNat = 32 - (n % 32).toNat := by omega
  unfold rotI
  rw [er]
  generalize (n % 32).toNat = r at *
  have e1 : ((X : Int) / 2 ^ r) = ((X / 2 ^ r : Nat) : Int) := by rw [Int.natCast_ediv, Int.natCast_pow]; rfl
  have e2 : IntKind.u32.wrap ((X : Int) * 2 ^ (32 - r)) = ((X * 2 ^ (32 - r) % 2 ^ 32 : Nat) : Int) := by
    rw [IntKind.wrap_u32', Int.natCast_emod, Int.natCast_mul, Int.natCast_pow]; rfl
  rw [e1, e2, u32_or_nat _ _ (Nat.lt_of_le_of_lt (Nat.div_le_self _ _) (by omega)) (Nat.mod_lt _ (Nat.two_pow_pos 32))]
  rfl
theorem right64 (x n : Int) (w : World) (x0 : 0 ≤ x) (x1 : x < 18446744073709551616) :
    Calls Try.prog 9 #[.int .u64 x, .int .i64 n] w fun e w' => e = .returned (.int .u64 (rotI 64 x n)) ∧ ∃ nq, w.drewN nq = w' := by
  have hr := Lib.hid (rot_or64 x n x0 x1)
  have hs := s64
  have ha := and63 n
  have l0 : 0 ≤ n % 64 := by omega
  have l1 : n % 64 < 64 := by omega
  have l2 : IntKind.i64.wrap (64 - n % 64) = 64 - n % 64 := IntWalk.i64_in _ (by omega)
  have l3 : 0 ≤ 64 - n % 64 := by omega
  go_enter Try.func9, Try.ntmps9
  go_wp2_with fail
  rw [m64]
  refine (len64_c _).mono ?_
  rintro e w' ⟨rfl, rfl⟩
  go_wp2_with fail
  go_quiet (fail)
  go_wp2_with fail
  go_ret
  exact ⟨ret_int hr.out, _, rfl⟩
theorem right32 (x n : Int) (w : World) (x0 : 0 ≤ x) (x1 : x < 4294967296) :
    Calls Try.prog 8 #[.int .u32 x, .int .i64 n] w fun e w' => e = .returned (.int .u32 (rotI 32 x n)) ∧ ∃ nq, w.drewN nq = w' := by
  have hr := Lib.hid (rot_or32 x n x0 x1)
  have hs := s32
  have ha := and31 n
  have l0 : 0 ≤ n % 32 := by omega
  have l1 : n % 32 < 32 := by omega
  have l2 : IntKind.i64.wrap (32 - n % 32) = 32 - n % 32 := IntWalk.i64_in _ (by omega)
  have l3 : 0 ≤ 32 - n % 32 := by omega
  go_enter Try.func8, Try.ntmps8
  go_wp2_with fail
  rw [m32]
  refine (len32_c _).mono ?_
  rintro e w' ⟨rfl, rfl⟩
  go_wp2_with fail
  go_quiet (fail)
  go_wp2_with fail
  go_ret
  exact ⟨ret_int hr.out, _, rfl⟩
theorem bit_any (x i : Int) (w : World) (x0 : 0 ≤ x) (_x1 : x < 18446744073709551616) (i0 : 0 ≤ i) (i1 : i < 64) :
    Calls Try.prog 26 #[.int .u64 x, .int .i64 i] w fun e w' => e = .returned (.int .u64 (bitI x i)) ∧ w = w' := by
  have hr := Lib.hid (bitI_eq x i x0)
  go_enter Try.func26, Try.ntmps26
  go_wp2
  go_ret
  exact ⟨ret_int hr.out, rfl⟩
/-- One bit more of a word that is put together. -/
theorem rot_step (b x n : Int) (k : Nat) (hb : b = 32 ∨ b = 64) (h0 : 0 ≤ x) (h1 : x < 2 ^ b.toNat) (hk : (k : Int) < b) :
    IntKind.u64.wrap (((rotN b.toNat x.toNat (n % b).toNat % 2 ^ k : Nat) : Int) + IntKind.u64.wrap (bitI x ((k + n % b) % b) * 2 ^ k)) = ((rotN b.toNat x.toNat (n % b).toNat % 2 ^ (k + 1) : Nat) : Int) := by
  obtain ⟨X, rfl⟩ := Int.eq_ofNat_of_zero_le h0
  obtain ⟨B, rfl⟩ := Int.eq_ofNat_of_zero_le (by omega : 0 ≤ b)
  have hX : X < 2 ^ B := by have h2 : (X : Int) < ((2 ^ B : Nat) : Int) := by rw [Int.natCast_pow]; simpa using h1
                            exact Int.ofNat_lt.1 h2
  have hr : (n % (B : Int)).toNat < B := by have := Int.emod_lt_of_pos n (by omega : (0 : Int) < B); have := Int.emod_nonneg n (by omega : (B : Int) ≠ 0); omega
  have hn : n % (B : Int) = ((n % (B : Int)).toNat : Int) := by have := Int.emod_nonneg n (by omega : (B : Int) ≠ 0); omega
  generalize (n % (B : Int)).toNat = r at *
  rw [hn]
  simp only [Int.toNat_natCast]
  have hbit := rotN_bit B X r k hr hX (by omega)
  have e1 : bitI (X : Int) (((k : Int) + (r : Int)) % (B : Int)) = (((rotN B X r).testBit k).toNat : Int) := by
    unfold bitI
    rw [hbit]
    congr 2
  have em : rotN B X r % 2 ^ (k + 1) = rotN B X r % 2 ^ k + 2 ^ k * ((rotN B X r).testBit k).toNat := by rw [Nat.pow_succ, Nat.mod_mul, Nat.toNat_testBit]
  rw [e1, em]
  have hp : 2 ^ (k + 1) ≤ 2 ^ 64 := Nat.pow_le_pow_right (by decide) (by omega)
  have hp1 : 2 ^ (k + 1) = 2 * 2 ^ k := by rw [Nat.pow_succ]; omega
  have hm : rotN B X r % 2 ^ k < 2 ^ k := Nat.mod_lt _ (Nat.two_pow_pos k)
  have hc : ((2 : Int) ^ k) = ((2 ^ k : Nat) : Int) := by rw [Int.natCast_pow]; rfl
  rw [hc]
  generalize 2 ^ k = q at *
  generalize rotN B X r % q = m at *
  have hw : ∀ z : Int, 0 ≤ z → z < 18446744073709551616 → IntKind.u64.wrap z = z := fun z a b => by rw [IntKind.wrap_u64]; omega
  clear em e1 hbit hc
  cases (rotN B X r).testBit k
  · simp only [Bool.toNat_false, Nat.mul_zero, Nat.add_zero]
    have e0 : (((0 : Nat) : Int) * (q : Int)) = 0 := by simp
    rw [e0, hw 0 (by omega) (by omega), hw _ (by omega) (by omega)]
    omega
  · simp only [Bool.toNat_true, Nat.mul_one]
    have e0 : (((1 : Nat) : Int) * (q : Int)) = q := by simp
    rw [e0, hw q (by omega) (by omega), hw _ (by omega) (by omega)]
    omega
theorem tmod_cases (n b : Int) (hb : b = 32 ∨ b = 64) : (0 ≤ n.tmod b ∧ n.tmod b = n % b) ∨ (n.tmod b < 0 ∧ n.tmod b + b = n % b) := by
  by_cases h : 0 ≤ n
  · have e : n.tmod b = n % b := Int.tmod_eq_emod_of_nonneg h
    rw [e]
    left
    exact ⟨Int.emod_nonneg _ (by omega), rfl⟩
  · obtain ⟨m, rfl⟩ : ∃ m, n = -m := ⟨-n, by omega⟩
    have e : (-m).tmod b = -(m % b) := by rw [Int.neg_tmod, Int.tmod_eq_emod_of_nonneg (by omega)]
    rw [e]
    rcases hb with rfl | rfl <;> omega
/-- The lowest bits of the word that is put together. -/
def accI (b x n : Int) (k : Nat) : Int := (rotN b.toNat x.toNat (n % b).toNat % 2 ^ k : Nat)
theorem accI_step (b x n r : Int) (k : Nat) (hr : r = n % b) (hb : b = 32 ∨ b = 64) (h0 : 0 ≤ x) (h1 : x < 2 ^ b.toNat) (hk : (k : Int) < b) :
    IntKind.u64.wrap (accI b x n k + IntKind.u64.wrap (bitI x ((k + r) % b) * 2 ^ k)) = accI b x n (k + 1) := by
  subst hr; exact rot_step b x n k hb h0 h1 hk
theorem accI_all (b x n : Int) (k : Nat) (hk : (k : Int) = b) (h0 : 0 ≤ x) (h1 : x < 2 ^ b.toNat) : accI b x n k = rotI b x n := by
  subst hk
  obtain ⟨X, rfl⟩ := Int.eq_ofNat_of_zero_le h0
  have hX : X < 2 ^ k := by have h2 : (X : Int) < ((2 ^ k : Nat) : Int) := by rw [Int.natCast_pow]; simpa using h1
                            exact Int.ofNat_lt.1 h2
  unfold accI rotI
  simp only [Int.toNat_natCast]
  rw [Nat.mod_eq_of_lt (rotN_lt k X _ hX)]
/-- The reference's Right. -/
theorem rright (x n b : Int) (w : World) (hb : b = 32 ∨ b = 64) (x0 : 0 ≤ x) (x1 : x < 2 ^ b.toNat) (xm : x < 18446744073709551616) :
    Calls Try.prog 7 #[.int .u64 x, .int .i64 n, .int .i64 b] w fun e w' => e = .returned (.int .u64 (rotI b x n)) ∧ w = w' := by
  have b0 : 32 ≤ b := by omega
  have b1 : b ≤ 64 := by omega
  obtain ⟨r, hr⟩ : ∃ r, r = n % b := ⟨_, rfl⟩
  have r0 : 0 ≤ r := by rw [hr]; exact Int.emod_nonneg _ (by omega)
  have r1 : r < b := by rw [hr]; exact Int.emod_lt_of_pos _ (by omega)
  have hc := tmod_cases n b hb
  rw [← hr] at hc
  have hbd : -64 ≤ n.tmod b ∧ n.tmod b ≤ 64 := by omega
  obtain ⟨t0, t1⟩ := hbd
  have hb0 : ¬ b = 0 := by omega
  have Hb := Lib.hid hb
  have Hr := Lib.hid hr
  have X1 := Lib.hid x1
  clear hb hr x1
  rcases hc with ⟨_, hn⟩ | ⟨hlt, hn⟩
  · clear t0 t1
    go_enter Try.func7, Try.ntmps7
    go_wp2_with fail
    go_loop [8, 9] (fun y i => ∃ k : Nat, (k : Int) ≤ b ∧ i = .int .i64 k ∧ y = .int .u64 (accI b x n k)) (fun _ i => (b - intOf i).toNat)
    case atStart => exact ⟨0, by omega, rfl, by simp [accI, Nat.mod_one]⟩
    case round =>
      obtain ⟨k, hk, rfl, rfl⟩ := hrel
      by_cases hkb : (k : Int) < b
      · have i0 : 0 ≤ ((k : Int) + r) % b := Int.emod_nonneg _ (by omega)
        have i1 : ((k : Int) + r) % b < b := Int.emod_lt_of_pos _ (by omega)
        have hst := Lib.hid (accI_step b x n r k Hr.out Hb.out x0 X1.out hkb)
        go_wp2_with (go_at_call 26; refine (bit_any _ _ _ x0 xm (by omega) (by omega)).mono ?_; rintro e w' ⟨rfl, rfl⟩)
        go_round
        case rel => exact ⟨k + 1, by omega, by go_num, congrArg (Value.int .u64) hst.out⟩
        case measure => simp [intOf]; omega
      · have Hk := Lib.hid (by omega : (k : Int) = b)
        go_wp2
        go_ret
        exact ⟨ret_int (accI_all b x n k Hk.out x0 X1.out), rfl⟩
  · have hw : IntKind.i64.wrap (n.tmod b + b) = r := by rw [hn]; exact IntWalk.i64_in _ (by omega)
    clear hn
    go_enter Try.func7, Try.ntmps7
    go_wp2_with fail
    go_loop [8, 9] (fun y i => ∃ k : Nat, (k : Int) ≤ b ∧ i = .int .i64 k ∧ y = .int .u64 (accI b x n k)) (fun _ i => (b - intOf i).toNat)
    case atStart => exact ⟨0, by omega, rfl, by simp [accI, Nat.mod_one]⟩
    case round =>
      obtain ⟨k, hk, rfl, rfl⟩ := hrel
      by_cases hkb : (k : Int) < b
      · have i0 : 0 ≤ ((k : Int) + r) % b := Int.emod_nonneg _ (by omega)
        have i1 : ((k : Int) + r) % b < b := Int.emod_lt_of_pos _ (by omega)
        have hst := Lib.hid (accI_step b x n r k Hr.out Hb.out x0 X1.out hkb)
        go_wp2_with (go_at_call 26; refine (bit_any _ _ _ x0 xm (by omega) (by omega)).mono ?_; rintro e w' ⟨rfl, rfl⟩)
        go_round
        case rel => exact ⟨k + 1, by omega, by go_num, congrArg (Value.int .u64) hst.out⟩
        case measure => simp [intOf]; omega
      · have Hk := Lib.hid (by omega : (k : Int) = b)
        go_wp2
        go_ret
        exact ⟨ret_int (accI_all b x n k Hk.out x0 X1.out), rfl⟩
end Go.Proofs.Ytoccoagkakeenag
