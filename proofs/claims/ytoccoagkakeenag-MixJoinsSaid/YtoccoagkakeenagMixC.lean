/- The reference's Three, sums, and the law MixJoins: it returns true. -/
import Derived.Test.YtoccoagkakeenagMixB
namespace Go.Proofs.Ytoccoagkakeenag
open Go.RowKit
/-- The lowest bits of a word. -/
def accT (F : Int) (k : Nat) : Int := (F.toNat % 2 ^ k : Nat)
theorem accT_step (F nb : Int) (k : Nat) (hk : k < 64) (hn : nb = ((F.toNat.testBit k).toNat : Nat)) : IntKind.u64.wrap (accT F k + IntKind.u64.wrap (nb * 2 ^ k)) = accT F (k + 1) := by
  subst hn
  unfold accT
  generalize F.toNat = X
  have em : X % 2 ^ (k + 1) = X % 2 ^ k + 2 ^ k * (X.testBit k).toNat := by rw [Nat.pow_succ, Nat.mod_mul, Nat.toNat_testBit]
  rw [em]
  have hp : 2 ^ (k + 1) ≤ 2 ^ 64 := Nat.pow_le_pow_right (by decide) (by omega)
  have hp1 : 2 ^ (k + 1) = 2 * 2 ^ k := by rw [Nat.pow_succ]; omega
  have hm : X % 2 ^ k < 2 ^ k := Nat.mod_lt _ (Nat.two_pow_pos k)
  have hc : ((2 : Int) ^ k) = ((2 ^ k : Nat) : Int) := by rw [Int.natCast_pow]; rfl
  rw [hc]
  generalize 2 ^ k = q at *
  generalize X % q = m at *
  have hw : ∀ z : Int, 0 ≤ z → z < 18446744073709551616 → IntKind.u64.wrap z = z := fun z a b => by rw [IntKind.wrap_u64]; omega
  clear em hc
  cases X.testBit k
  · simp only [Bool.toNat_false, Nat.mul_zero, Nat.add_zero]
    have e0 : (((0 : Nat) : Int) * (q : Int)) = 0 := by simp
    rw [e0, hw 0 (by omega) (by omega), hw _ (by omega) (by omega)]
    omega
  · simp only [Bool.toNat_true, Nat.mul_one]
    have e0 : (((1 : Nat) : Int) * (q : Int)) = q := by simp
    rw [e0, hw q (by omega) (by omega), hw _ (by omega) (by omega)]
    omega
theorem accT_all (F : Int) (h0 : 0 ≤ F) (h1 : F < 18446744073709551616) : accT F 64 = F := by unfold accT; omega
def chooseN32 (X Y Z : Nat) : Nat := (X &&& Y) ||| ((2 ^ 32 - 1) ^^^ X) &&& Z
def mostN32 (X Y Z : Nat) : Nat := (X &&& Y) ||| (X &&& Z) ||| (Y &&& Z)
theorem choose32_nat (X Y Z : Nat) (hx : X < 4294967296) (hy : Y < 4294967296) (hz : Z < 4294967296) : choose32 X Y Z = (chooseN32 X Y Z : Nat) := by
  unfold choose32 chooseN32
  have e : IntKind.u32.max = ((4294967295 : Nat) : Int) := rfl
  have h1 : 4294967295 ^^^ X < 2 ^ 32 := Nat.xor_lt_two_pow (by decide) hx
  have h2 : X &&& Y < 2 ^ 32 := Nat.and_lt_two_pow _ hy
  have h3 : (4294967295 ^^^ X) &&& Z < 2 ^ 32 := Nat.and_lt_two_pow _ hz
  rw [e, u32_xor_nat _ _ (by decide) hx, u32_and_nat _ _ hx hy, u32_and_nat _ _ h1 hz, u32_or_nat _ _ h2 h3]
theorem most32_nat (X Y Z : Nat) (hx : X < 4294967296) (hy : Y < 4294967296) (hz : Z < 4294967296) : most32 X Y Z = (mostN32 X Y Z : Nat) := by
  unfold most32 mostN32
  have h2 : X &&& Y < 2 ^ 32 := Nat.and_lt_two_pow _ hy
  have h3 : X &&& Z < 2 ^ 32 := Nat.and_lt_two_pow _ hz
  have h4 : Y &&& Z < 2 ^ 32 := Nat.and_lt_two_pow _ hz
  have h5 : X &&& Y ||| X &&& Z < 2 ^ 32 := Nat.or_lt_two_pow h2 h3
  rw [u32_and_nat _ _ hx hy, u32_and_nat _ _ hx hz, u32_and_nat _ _ hy hz, u32_or_nat _ _ h2 h3, u32_or_nat _ _ h5 h4]
theorem chooseN32_lt (X Y Z : Nat) (hy : Y < 4294967296) (hz : Z < 4294967296) : chooseN32 X Y Z < 4294967296 := by
  have h2 : X &&& Y < 2 ^ 32 := Nat.and_lt_two_pow _ hy
  have h3 : ((2 ^ 32 - 1) ^^^ X) &&& Z < 2 ^ 32 := Nat.and_lt_two_pow _ hz
  exact Nat.or_lt_two_pow h2 h3
theorem mostN32_lt (X Y Z : Nat) (hy : Y < 4294967296) (hz : Z < 4294967296) : mostN32 X Y Z < 4294967296 := by
  have h2 : X &&& Y < 2 ^ 32 := Nat.and_lt_two_pow _ hy
  have h3 : X &&& Z < 2 ^ 32 := Nat.and_lt_two_pow _ hz
  have h4 : Y &&& Z < 2 ^ 32 := Nat.and_lt_two_pow _ hz
  exact Nat.or_lt_two_pow (Nat.or_lt_two_pow h2 h3) h4
def chooseN64 (X Y Z : Nat) : Nat := (X &&& Y) ||| ((2 ^ 64 - 1) ^^^ X) &&& Z
def mostN64 (X Y Z : Nat) : Nat := (X &&& Y) ||| (X &&& Z) ||| (Y &&& Z)
theorem choose64_nat (X Y Z : Nat) (hx : X < 18446744073709551616) (hy : Y < 18446744073709551616) (hz : Z < 18446744073709551616) : choose64 X Y Z = (chooseN64 X Y Z : Nat) := by
  unfold choose64 chooseN64
  have e : IntKind.u64.max = ((18446744073709551615 : Nat) : Int) := rfl
  have h1 : 18446744073709551615 ^^^ X < 2 ^ 64 := Nat.xor_lt_two_pow (by decide) hx
  have h2 : X &&& Y < 2 ^ 64 := Nat.and_lt_two_pow _ hy
  have h3 : (18446744073709551615 ^^^ X) &&& Z < 2 ^ 64 := Nat.and_lt_two_pow _ hz
  rw [e, u64_xor_nat _ _ (by decide) hx, u64_and_nat _ _ hx hy, u64_and_nat _ _ h1 hz, u64_or_nat _ _ h2 h3]
theorem most64_nat (X Y Z : Nat) (hx : X < 18446744073709551616) (hy : Y < 18446744073709551616) (hz : Z < 18446744073709551616) : most64 X Y Z = (mostN64 X Y Z : Nat) := by
  unfold most64 mostN64
  have h2 : X &&& Y < 2 ^ 64 := Nat.and_lt_two_pow _ hy
  have h3 : X &&& Z < 2 ^ 64 := Nat.and_lt_two_pow _ hz
  have h4 : Y &&& Z < 2 ^ 64 := Nat.and_lt_two_pow _ hz
  have h5 : X &&& Y ||| X &&& Z < 2 ^ 64 := Nat.or_lt_two_pow h2 h3
  rw [u64_and_nat _ _ hx hy, u64_and_nat _ _ hx hz, u64_and_nat _ _ hy hz, u64_or_nat _ _ h2 h3, u64_or_nat _ _ h5 h4]
theorem chooseN64_lt (X Y Z : Nat) (hy : Y < 18446744073709551616) (hz : Z < 18446744073709551616) : chooseN64 X Y Z < 18446744073709551616 := by
  have h2 : X &&& Y < 2 ^ 64 := Nat.and_lt_two_pow _ hy
  have h3 : ((2 ^ 64 - 1) ^^^ X) &&& Z < 2 ^ 64 := Nat.and_lt_two_pow _ hz
  exact Nat.or_lt_two_pow h2 h3
theorem mostN64_lt (X Y Z : Nat) (hy : Y < 18446744073709551616) (hz : Z < 18446744073709551616) : mostN64 X Y Z < 18446744073709551616 := by
  have h2 : X &&& Y < 2 ^ 64 := Nat.and_lt_two_pow _ hy
  have h3 : X &&& Z < 2 ^ 64 := Nat.and_lt_two_pow _ hz
  have h4 : Y &&& Z < 2 ^ 64 := Nat.and_lt_two_pow _ hz
  exact Nat.or_lt_two_pow (Nat.or_lt_two_pow h2 h3) h4
theorem choose_short (X Y Z : Nat) : chooseN32 (X % 4294967296) (Y % 4294967296) (Z % 4294967296) = chooseN64 X Y Z % 4294967296 := by
  apply Nat.eq_of_testBit_eq
  intro i
  unfold chooseN32 chooseN64
  have e : (4294967296 : Nat) = 2 ^ 32 := rfl
  rw [e]
  simp only [Nat.testBit_mod_two_pow, Nat.testBit_or, Nat.testBit_and, Nat.testBit_xor, Nat.testBit_two_pow_sub_one]
  by_cases h : i < 32
  · have h' : i < 64 := by omega
    simp [h, h']
  · simp [h]
theorem most_short (X Y Z : Nat) : mostN32 (X % 4294967296) (Y % 4294967296) (Z % 4294967296) = mostN64 X Y Z % 4294967296 := by
  apply Nat.eq_of_testBit_eq
  intro i
  unfold mostN32 mostN64
  have e : (4294967296 : Nat) = 2 ^ 32 := rfl
  rw [e]
  simp only [Nat.testBit_mod_two_pow, Nat.testBit_or, Nat.testBit_and]
  by_cases h : i < 32
  · simp [h]
  · simp [h]
theorem chooseN_bit (X Y Z i : Nat) (hi : i < 64) : (chooseN64 X Y Z).testBit i = if X.testBit i then Y.testBit i else Z.testBit i := by
  unfold chooseN64
  simp only [Nat.testBit_or, Nat.testBit_and, Nat.testBit_xor, Nat.testBit_two_pow_sub_one, hi]
  cases X.testBit i <;> simp
theorem mostN_bit (X Y Z i : Nat) : (mostN64 X Y Z).testBit i = (X.testBit i && Y.testBit i || X.testBit i && Z.testBit i || Y.testBit i && Z.testBit i) := by
  unfold mostN64
  simp only [Nat.testBit_or, Nat.testBit_and]
/-- What the facts on words say of numbers. -/
structure Joined (x y z : Int) : Prop where
  c0 : 0 ≤ choose64 x y z
  c1 : choose64 x y z < 18446744073709551616
  m0 : 0 ≤ most64 x y z
  m1 : most64 x y z < 18446744073709551616
  cs : choose32 (x % 4294967296) (y % 4294967296) (z % 4294967296) = choose64 x y z % 4294967296
  ms : most32 (x % 4294967296) (y % 4294967296) (z % 4294967296) = most64 x y z % 4294967296
  cb : ∀ k : Nat, k < 64 → ((((choose64 x y z).toNat.testBit k).toNat : Nat) : Int) = if (bitI x k == 1) = true then bitI y k else bitI z k
  mb : ∀ k : Nat, k < 64 → ((((most64 x y z).toNat.testBit k).toNat : Nat) : Int) = (bitI x k + bitI y k + bitI z k) / 2
theorem joined (x y z : Int) (x0 : 0 ≤ x) (x1 : x < 18446744073709551616) (y0 : 0 ≤ y) (y1 : y < 18446744073709551616) (z0 : 0 ≤ z) (z1 : z < 18446744073709551616) : Joined x y z := by
  obtain ⟨X, rfl⟩ := Int.eq_ofNat_of_zero_le x0
  obtain ⟨Y, rfl⟩ := Int.eq_ofNat_of_zero_le y0
  obtain ⟨Z, rfl⟩ := Int.eq_ofNat_of_zero_le z0
  have hX : X < 18446744073709551616 := by omega
  have hY : Y < 18446744073709551616 := by omega
  have hZ : Z < 18446744073709551616 := by omega
  have eX : ((X : Int) % 4294967296) = ((X % 4294967296 : Nat) : Int) := by omega
  have eY : ((Y : Int) % 4294967296) = ((Y % 4294967296 : Nat) : Int) := by omega
  have eZ : ((Z : Int) % 4294967296) = ((Z % 4294967296 : Nat) : Int) := by omega
  have lc := chooseN64_lt X Y Z hY hZ
  have lm := mostN64_lt X Y Z hY hZ
  refine ⟨?_, ?_, ?_, ?_, ?_, ?_, ?_, ?_⟩
  · rw [choose64_nat _ _ _ hX hY hZ]; omega
  · rw [choose64_nat _ _ _ hX hY hZ]; omega
  · rw [most64_nat _ _ _ hX hY hZ]; omega
  · rw [most64_nat _ _ _ hX hY hZ]; omega
  · rw [choose64_nat _ _ _ hX hY hZ, eX, eY, eZ, choose32_nat _ _ _ (Nat.mod_lt _ (by decide)) (Nat.mod_lt _ (by decide)) (Nat.mod_lt _ (by decide)), choose_short]; omega
  · rw [most64_nat _ _ _ hX hY hZ, eX, eY, eZ, most32_nat _ _ _ (Nat.mod_lt _ (by decide)) (Nat.mod_lt _ (by decide)) (Nat.mod_lt _ (by decide)), most_short]; omega
  · intro k hk
    rw [choose64_nat _ _ _ hX hY hZ, Int.toNat_natCast, chooseN_bit _ _ _ _ hk]
    unfold bitI
    simp only [Int.toNat_natCast]
    cases X.testBit k <;> simp
  · intro k hk
    rw [most64_nat _ _ _ hX hY hZ, Int.toNat_natCast, mostN_bit]
    unfold bitI
    simp only [Int.toNat_natCast]
    cases X.testBit k <;> cases Y.testBit k <;> cases Z.testBit k <;> rfl
theorem three0 (x y z : Int) (w : World) (x0 : 0 ≤ x) (x1 : x < 18446744073709551616) (y0 : 0 ≤ y) (y1 : y < 18446744073709551616) (z0 : 0 ≤ z) (z1 : z < 18446744073709551616) :
    Calls Try.prog 12 #[.int .u64 x, .int .u64 y, .int .u64 z, .int .i64 0] w fun e w' => e = .returned (.int .u64 (choose64 x y z)) ∧ w = w' := by
  have J := Lib.hid (joined x y z x0 x1 y0 y1 z0 z1)
  go_enter Try.func12, Try.ntmps12
  go_wp2_with fail
  go_loop [9, 10] (fun y1 i => ∃ k : Nat, k ≤ 64 ∧ i = .int .i64 k ∧ y1 = .int .u64 (accT (choose64 x y z) k)) (fun _ i => (64 - intOf i).toNat)
  case atStart => exact ⟨0, by omega, rfl, by simp [accT, Nat.mod_one]⟩
  case round =>
    obtain ⟨k, hk, rfl, rfl⟩ := hrel
    by_cases hlt : k < 64
    · obtain ⟨x2, x3⟩ := bitI_bd x k
      obtain ⟨y2, y3⟩ := bitI_bd y k
      obtain ⟨z2, z3⟩ := bitI_bd z k
      have S := accT_step (choose64 x y z) (if (bitI x k == 1) = true then bitI y k else bitI z k) k hlt (J.out.cb k hlt).symm
      by_cases hb : (bitI x k == 1) = true
      · rw [if_pos hb] at S
        have HS := Lib.hid S
        clear S
        go_wp2_with (first
          | (go_at_call_of 26 (x); refine (bit_any _ _ _ x0 x1 (by omega) (by omega)).mono ?_; rintro e w' ⟨rfl, rfl⟩)
          | (go_at_call_of 26 (y); refine (bit_any _ _ _ y0 y1 (by omega) (by omega)).mono ?_; rintro e w' ⟨rfl, rfl⟩)
          | (go_at_call_of 26 (z); refine (bit_any _ _ _ z0 z1 (by omega) (by omega)).mono ?_; rintro e w' ⟨rfl, rfl⟩))
        go_round
        case rel => exact ⟨k + 1, by omega, by go_num, congrArg (Value.int .u64) HS.out⟩
        case measure => simp [intOf]; omega
      · rw [if_neg hb] at S
        have HS := Lib.hid S
        have hb' : (bitI x k == 1) = false := Bool.eq_false_iff.2 hb
        clear S hb
        go_wp2_with (first
          | (go_at_call_of 26 (x); refine (bit_any _ _ _ x0 x1 (by omega) (by omega)).mono ?_; rintro e w' ⟨rfl, rfl⟩)
          | (go_at_call_of 26 (y); refine (bit_any _ _ _ y0 y1 (by omega) (by omega)).mono ?_; rintro e w' ⟨rfl, rfl⟩)
          | (go_at_call_of 26 (z); refine (bit_any _ _ _ z0 z1 (by omega) (by omega)).mono ?_; rintro e w' ⟨rfl, rfl⟩))
        go_round
        case rel => exact ⟨k + 1, by omega, by go_num, congrArg (Value.int .u64) HS.out⟩
        case measure => simp [intOf]; omega
    · obtain rfl : k = 64 := by omega
      have e := accT_all (choose64 x y z) J.out.c0 J.out.c1
      have E := Lib.hid e
      clear e
      go_wp2
      go_ret
      exact ⟨ret_int E.out, rfl⟩
theorem three1 (x y z : Int) (w : World) (x0 : 0 ≤ x) (x1 : x < 18446744073709551616) (y0 : 0 ≤ y) (y1 : y < 18446744073709551616) (z0 : 0 ≤ z) (z1 : z < 18446744073709551616) :
    Calls Try.prog 12 #[.int .u64 x, .int .u64 y, .int .u64 z, .int .i64 1] w fun e w' => e = .returned (.int .u64 (most64 x y z)) ∧ w = w' := by
  have J := Lib.hid (joined x y z x0 x1 y0 y1 z0 z1)
  go_enter Try.func12, Try.ntmps12
  go_wp2_with fail
  go_loop [9, 10] (fun y1 i => ∃ k : Nat, k ≤ 64 ∧ i = .int .i64 k ∧ y1 = .int .u64 (accT (most64 x y z) k)) (fun _ i => (64 - intOf i).toNat)
  case atStart => exact ⟨0, by omega, rfl, by simp [accT, Nat.mod_one]⟩
  case round =>
    obtain ⟨k, hk, rfl, rfl⟩ := hrel
    by_cases hlt : k < 64
    · obtain ⟨x2, x3⟩ := bitI_bd x k
      obtain ⟨y2, y3⟩ := bitI_bd y k
      obtain ⟨z2, z3⟩ := bitI_bd z k
      have HS := Lib.hid (accT_step (most64 x y z) ((bitI x k + bitI y k + bitI z k) / 2) k hlt (J.out.mb k hlt).symm)
      go_wp2_with (first
        | (go_at_call_of 26 (x); refine (bit_any _ _ _ x0 x1 (by omega) (by omega)).mono ?_; rintro e w' ⟨rfl, rfl⟩)
        | (go_at_call_of 26 (y); refine (bit_any _ _ _ y0 y1 (by omega) (by omega)).mono ?_; rintro e w' ⟨rfl, rfl⟩)
        | (go_at_call_of 26 (z); refine (bit_any _ _ _ z0 z1 (by omega) (by omega)).mono ?_; rintro e w' ⟨rfl, rfl⟩))
      go_round
      case rel => exact ⟨k + 1, by omega, by go_num, congrArg (Value.int .u64) HS.out⟩
      case measure => simp [intOf]; omega
    · obtain rfl : k = 64 := by omega
      have e := accT_all (most64 x y z) J.out.m0 J.out.m1
      have E := Lib.hid e
      clear e
      go_wp2
      go_ret
      exact ⟨ret_int E.out, rfl⟩
theorem sum32_3 (x y z : Int) (n : Nat) (w : World)
    (c0 : w.cell? ⟨n, 0, none⟩ = some (.int .u32 x)) (c1 : w.cell? ⟨n, 1, none⟩ = some (.int .u32 y)) (c2 : w.cell? ⟨n, 2, none⟩ = some (.int .u32 z)) (hx : IntKind.u32.wrap x = x) :
    Calls Try.prog 18 #[.slice (some ⟨n, 0, none⟩) 3 3] w fun e w' => e = .returned (.int .u32 (IntKind.u32.wrap (IntKind.u32.wrap (x + y) + z))) ∧ w = w' := by
  go_enter Try.func18, Try.ntmps18
  go_wp2_with fail
  refine wp_loop_rounds 4 ?_
  rw [rounds_succ]; go_wp2
  rw [rounds_succ]; go_wp2
  rw [rounds_succ]; go_wp2
  rw [rounds_succ]; go_wp2
  go_ret
  exact ⟨rfl, rfl⟩
theorem sum64_3 (x y z : Int) (n : Nat) (w : World)
    (c0 : w.cell? ⟨n, 0, none⟩ = some (.int .u64 x)) (c1 : w.cell? ⟨n, 1, none⟩ = some (.int .u64 y)) (c2 : w.cell? ⟨n, 2, none⟩ = some (.int .u64 z)) (hx : IntKind.u64.wrap x = x) :
    Calls Try.prog 17 #[.slice (some ⟨n, 0, none⟩) 3 3] w fun e w' => e = .returned (.int .u64 (IntKind.u64.wrap (IntKind.u64.wrap (x + y) + z))) ∧ w = w' := by
  go_enter Try.func17, Try.ntmps17
  go_wp2_with fail
  refine wp_loop_rounds 4 ?_
  rw [rounds_succ]; go_wp2
  rw [rounds_succ]; go_wp2
  rw [rounds_succ]; go_wp2
  rw [rounds_succ]; go_wp2
  go_ret
  exact ⟨rfl, rfl⟩
theorem sum32_0 (a : Option Addr) (cap : Nat) (w : World) :
    Calls Try.prog 18 #[.slice a 0 cap] w fun e w' => e = .returned (.int .u32 0) ∧ w = w' := by
  go_enter Try.func18, Try.ntmps18
  go_wp2_with fail
  refine wp_loop_rounds 1 ?_
  rw [rounds_succ]; go_wp2
  go_ret
  exact ⟨rfl, rfl⟩
theorem sum64_1 (x : Int) (n : Nat) (w : World) (c0 : w.cell? ⟨n, 0, none⟩ = some (.int .u64 x)) (hx : IntKind.u64.wrap x = x) :
    Calls Try.prog 17 #[.slice (some ⟨n, 0, none⟩) 1 1] w fun e w' => e = .returned (.int .u64 x) ∧ w = w' := by
  go_enter Try.func17, Try.ntmps17
  go_wp2_with fail
  refine wp_loop_rounds 2 ?_
  rw [rounds_succ]; go_wp2
  rw [rounds_succ]; go_wp2
  go_ret
  exact ⟨rfl, rfl⟩
theorem mixJoins_walk (x y z : Int) (w : World) (wx : (Lit.int .u64 x).wf = true) (wy : (Lit.int .u64 y).wf = true) (wz : (Lit.int .u64 z).wf = true) :
    Calls Try.prog 4 #[.int .u64 x, .int .u64 y, .int .u64 z] w fun e w' => e = .returned (.bool true) ∧ Below w.heap.size w w' := by
  have hx : 0 ≤ x ∧ x ≤ 18446744073709551615 := by simpa [Lit.wf, IntKind.min, IntKind.max, IntKind.signed, IntKind.bits] using wx
  have hy : 0 ≤ y ∧ y ≤ 18446744073709551615 := by simpa [Lit.wf, IntKind.min, IntKind.max, IntKind.signed, IntKind.bits] using wy
  have hz : 0 ≤ z ∧ z ≤ 18446744073709551615 := by simpa [Lit.wf, IntKind.min, IntKind.max, IntKind.signed, IntKind.bits] using wz
  obtain ⟨x0, x1⟩ := hx
  obtain ⟨y0, y1⟩ := hy
  obtain ⟨z0, z1⟩ := hz
  have J := joined x y z x0 (by omega) y0 (by omega) z0 (by omega)
  have j1 := J.c0
  have j2 := J.c1
  have j3 := J.m0
  have j4 := J.m1
  have j5 := J.cs
  have j6 := J.ms
  have hw : IntKind.u64.wrap x = x := by rw [IntKind.wrap_u64]; omega
  have hw2 : IntKind.u32.wrap (x % 4294967296) = x % 4294967296 := by rw [IntKind.wrap_u32']; omega
  clear J wx wy wz
  go_enter Try.func4, Try.ntmps4
  go_wp2_with fail
  refine (three0 x y z _ x0 (by omega) y0 (by omega) z0 (by omega)).mono ?_
  rintro e w' ⟨rfl, rfl⟩
  go_wp2_with fail
  refine (three1 x y z _ x0 (by omega) y0 (by omega) z0 (by omega)).mono ?_
  rintro e w' ⟨rfl, rfl⟩
  go_wp2_with (first
    | (go_at_call 13; refine (choose64_any _ _ _ _).mono ?_; rintro e w' ⟨rfl, rfl⟩)
    | (go_at_call 14; refine (most64_any _ _ _ _).mono ?_; rintro e w' ⟨rfl, rfl⟩)
    | (go_at_call 15; refine (choose32_any _ _ _ _).mono ?_; rintro e w' ⟨rfl, rfl⟩)
    | (go_at_call 16; refine (most32_any _ _ _ _).mono ?_; rintro e w' ⟨rfl, rfl⟩)
    | (go_at_call 6; refine (lives15 _).mono ?_; rintro e w' ⟨rfl, hl2⟩))
  refine (sum64_3 x y z _ _ (by simp [go_sem]) (by simp [go_sem]) (by simp [go_sem]) hw).mono ?_
  rintro e w' ⟨rfl, rfl⟩
  go_wp2_with fail
  refine (sum32_3 (x % 4294967296) (y % 4294967296) (z % 4294967296) _ _ (by simp [go_sem]) (by simp [go_sem]) (by simp [go_sem]) hw2).mono ?_
  rintro e w' ⟨rfl, rfl⟩
  go_wp2_with fail
  refine (sum32_0 none 0 _).mono ?_
  rintro e w' ⟨rfl, rfl⟩
  go_wp2_with fail
  refine (sum64_1 x _ _ (by simp [go_sem]) hw).mono ?_
  rintro e w' ⟨rfl, rfl⟩
  go_wp2_with (go_at_call 6; refine (lives15 _).mono ?_; rintro e w' ⟨rfl, hl2⟩)
  go_ret
  refine ⟨rfl, gr_step ?_ hl2⟩
  repeat (first | exact Below.refl _ _ | apply gr_alloc | apply below_drewN)
end Go.Proofs.Ytoccoagkakeenag
