/- The law of bytes of numbers below p (layer 19): its walk. -/
import Derived.Test.YtjjpnoahicnipaaPriO
namespace Go.Proofs.Ytjjpnoahicnipaa
open Go.RowKit
theorem leN_digits (n : Nat) : ∀ k m, leN ((List.range k).map fun i => UInt8.ofNat (n / 256 ^ (m + i) % 256)) = n / 256 ^ m % 256 ^ k
  | 0, m => by simp [leN, Nat.mod_one]
  | k + 1, m => by
    rw [List.range_succ_eq_map, List.map_cons, List.map_map, leN]
    have h := leN_digits n k (m + 1)
    have e : (fun i => UInt8.ofNat (n / 256 ^ (m + i) % 256)) ∘ Nat.succ = fun i => UInt8.ofNat (n / 256 ^ (m + 1 + i) % 256) := by
      funext i
      simp only [Function.comp]
      rw [show m + Nat.succ i = m + 1 + i by omega]
    rw [e, h, Nat.add_zero, UInt8.toNat_ofNat', show (256 : Nat) ^ (k + 1) = 256 * 256 ^ k by rw [Nat.pow_succ, Nat.mul_comm], Nat.mod_mul, Nat.pow_succ 256 m, ← Nat.div_div_eq_div_mul]
    have h8 : n / 256 ^ m % 256 % 2 ^ 8 = n / 256 ^ m % 256 := Nat.mod_eq_of_lt (Nat.mod_lt _ (by decide))
    rw [h8]
theorem leN_byL (n : Nat) (h : n < B64 ^ 4) : leN (byL n) = n := by
  have := leN_digits n 32 0
  simp only [Nat.zero_add, Nat.pow_zero, Nat.div_one] at this
  unfold byL
  rw [this, Nat.mod_eq_of_lt (by rw [show 256 ^ 32 = B64 ^ 4 by decide]; exact h)]
theorem eql_arrI (w : World) (x0 x1 x2 x3 y0 y1 y2 y3 : Int) : (Op.equalIn 10000 23 (.agg #[.int .u64 x0, .int .u64 x1, .int .u64 x2, .int .u64 x3]) (.agg #[.int .u64 y0, .int .u64 y1, .int .u64 y2, .int .u64 y3])).run Try.prog w = .ok (x0 == y0 && (x1 == y1 && (x2 == y2 && x3 == y3))) w := by
  have he : ∀ (a b : Int) (w : World), (Op.equalIn 9999 22 (.int .u64 a) (.int .u64 b)).run Try.prog w = .ok (a == b) w := fun a b w => run_equalIn_int w 9998 22 .u64 .u64 a b Try.underlying22
  rw [show (10000 : Nat) = 9999 + 1 from rfl, Op.equalIn]
  simp only [Sem.run_bind, run_underlying Try.underlying23, Result.andThen_ok]
  have hp : ∀ (v : Value) (k : Nat) (xs : Array Value) (w : World), xs[k]? = some v → (part 22 xs k).run Try.prog w = .ok v w := fun v k xs w h => by
    simp only [part]
    go_simp
  have hz : ∀ w, (sizeOf 22).run Try.prog w = .ok 1 w := Try.sizeOf22
  rw [hz]
  simp only [Result.andThen_ok]
  rw [Std.Legacy.Range.forIn_eq_forIn_range']
  simp [Std.Legacy.Range.size, List.range']
  have a0 := fun w => hp (.int .u64 x0) 0 #[.int .u64 x0, .int .u64 x1, .int .u64 x2, .int .u64 x3] w rfl
  have b0 := fun w => hp (.int .u64 y0) 0 #[.int .u64 y0, .int .u64 y1, .int .u64 y2, .int .u64 y3] w rfl
  have a1 := fun w => hp (.int .u64 x1) 1 #[.int .u64 x0, .int .u64 x1, .int .u64 x2, .int .u64 x3] w rfl
  have b1 := fun w => hp (.int .u64 y1) 1 #[.int .u64 y0, .int .u64 y1, .int .u64 y2, .int .u64 y3] w rfl
  have a2 := fun w => hp (.int .u64 x2) 2 #[.int .u64 x0, .int .u64 x1, .int .u64 x2, .int .u64 x3] w rfl
  have b2 := fun w => hp (.int .u64 y2) 2 #[.int .u64 y0, .int .u64 y1, .int .u64 y2, .int .u64 y3] w rfl
  have a3 := fun w => hp (.int .u64 x3) 3 #[.int .u64 x0, .int .u64 x1, .int .u64 x2, .int .u64 x3] w rfl
  have b3 := fun w => hp (.int .u64 y3) 3 #[.int .u64 y0, .int .u64 y1, .int .u64 y2, .int .u64 y3] w rfl
  simp only [a0, b0, a1, b1, a2, b2, a3, b3, he, Result.andThen_ok]
  generalize (x0 == y0) = c0
  generalize (x1 == y1) = c1
  generalize (x2 == y2) = c2
  generalize (x3 == y3) = c3
  cases c0 <;> cases c1 <;> cases c2 <;> cases c3 <;> simp
theorem eql_ar (a b : Nat) (w : World) (ha : a < B64 ^ 4) (hb : b < B64 ^ 4) : (Op.equalIn 10000 23 (.agg #[.int .u64 (wd a 0 : Int), .int .u64 (wd a 1 : Int), .int .u64 (wd a 2 : Int), .int .u64 (wd a 3 : Int)]) (.agg #[.int .u64 (wd b 0 : Int), .int .u64 (wd b 1 : Int), .int .u64 (wd b 2 : Int), .int .u64 (wd b 3 : Int)])).run Try.prog w = .ok (decide (a = b)) w := by
  rw [eql_arrI, wd_same a b ha hb]
theorem eql_z (w : World) : (Op.equalIn 10000 27 (.agg #[.int .u64 0, .int .u64 0, .int .u64 0, .int .u64 0]) (.agg #[.int .u64 0, .int .u64 0, .int .u64 0, .int .u64 0])).run Try.prog w = .ok true w := by
  rw [eql_elI]
  rfl
theorem odd_word (X : Nat) : wd X 0 % 2 = X % 2 := by
  unfold wd
  rw [Nat.pow_zero, Nat.div_one]
  exact Nat.mod_mod_of_dvd X (by decide)
set_option maxRecDepth 20000 in
set_option maxHeartbeats 16000000 in
theorem primeBytes_w (a : Nat) (s : ByteArray) (Y N : Nat) (F H : Int) (w : World) (ha : a < B64 ^ 4)
    (hKO : ∀ w, Calls Try.prog 8 #[.string s] w fun e w' => e = .returned (.tuple #[numV Y, .int .i64 F]) ∧ Below w.heap.size w w')
    (hKW : ∀ w, Calls Try.prog 15 #[.string s] w fun e w' => e = .returned (.tuple #[numV N, .int .i64 H]) ∧ Below w.heap.size w w')
    (hN : N < B64 ^ 4) (hc : (H = 1 ∧ F = 1 ∧ Y = 0) ∨ (H = 0 ∧ PN ≤ N ∧ F = 2 ∧ Y = 0) ∨ (H = 0 ∧ N < PN ∧ F = 0 ∧ Y = N)) :
    Calls Try.prog 3 #[numV a, .string s] w fun e w' => e = .returned (.bool true) ∧ Below w.heap.size w w' := by
  have HMIX := Lib.hid (show Try.prog.follows .mixedOrders = true by kernel_rfl)
  have KO := Lib.hid hKO
  have KW := Lib.hid hKW
  have HC := Lib.hid hc
  have HN := Lib.hid hN
  have KMod := Lib.hid (fun w => rmod_any a w ha)
  have KEl := Lib.hid (fun w => el_any a w ha)
  have hXP : a % PN < PN := Nat.mod_lt _ PN_pos
  have KB := Lib.hid (fun w => pbytes_any (a % PN) w)
  have KRB := Lib.hid (fun w => rbytes_any (a % PN) w)
  have KOd := Lib.hid (fun w => podd_any (a % PN) w)
  have KIs := Lib.hid (fun w => is_any (a % PN) (a % PN) w (of_PN hXP) (of_PN hXP))
  have kx := fun w => eql_el (a % PN) (a % PN) w (of_PN hXP) (of_PN hXP)
  have KOb : Hid (∀ w, Calls Try.prog 8 #[.string ⟨(byL (a % PN)).toArray⟩] w fun e w' => e = .returned (.tuple #[numV (a % PN), .int .i64 0]) ∧ Below w.heap.size w w') := fun w => by
    have h := pof_any ⟨(byL (a % PN)).toArray⟩ w (show ((byL (a % PN)).toArray).size = 32 by simp [byL])
    rw [show (⟨(byL (a % PN)).toArray⟩ : ByteArray).data.toList = byL (a % PN) from rfl, leN_byL _ (of_PN hXP), if_pos hXP] at h
    exact h
  have hod := odd_word (a % PN)
  obtain ⟨X, hX⟩ : ∃ X, a % PN = X := ⟨_, rfl⟩
  rw [hX] at KMod KEl KB KRB KOd KIs kx KOb hod
  obtain ⟨S, hS⟩ : ∃ S : ByteArray, (⟨(byL X).toArray⟩ : ByteArray) = S := ⟨_, rfl⟩
  rw [hS] at KB KRB KOb
  have KP := Lib.hid p_any
  have KRP := Lib.hid rp_any
  have kp := fun w => eql_nu PN PN w PN_B PN_B
  obtain ⟨p, hp⟩ : ∃ p, PN = p := ⟨_, rfl⟩
  rw [hp] at KP KRP kp
  simp only [decide_true] at KIs kx kp
  obtain ⟨O, hO⟩ : ∃ O, decide (X % 2 = 1) = O := ⟨_, rfl⟩
  rw [hO] at KOd
  have ho1 : (((wd X 0 : Int) % 2) == 1) = O := by
    rw [← hO, ← hod]
    have h2 := Nat.mod_lt (wd X 0) (show 0 < 2 by decide)
    have h3 : wd X 0 % 2 = 0 ∨ wd X 0 % 2 = 1 := by omega
    rcases h3 with h | h
    · have : (wd X 0 : Int) % 2 = 0 := by omega
      rw [this, h]; rfl
    · have : (wd X 0 : Int) % 2 = 1 := by omega
      rw [this, h]; rfl
  have ho2 : ((Int.tmod (wd X 0 : Int) 2) == 1) = O := by
    rw [Int.tmod_eq_emod_of_nonneg (by omega)]
    exact ho1
  simp only [numV_agg] at KO KW KMod KEl KB KRB KOd KIs KOb KP KRP ⊢
  have HPP := Lib.hid hp
  clear hKO hKW hc hN hod hX hS hO hXP hp
  obtain ⟨xa, xz, xB⟩ := a1_at a 23 w
  obtain ⟨⟨p0, p1, p2, p3⟩, _⟩ := fourV xa
  go_enter Try.func3, Try.ntmps3
  go_wp2_with fail
  change Calls _ _ _ (A1 a 23 w) _
  generalize A1 a 23 w = V0 at *
  refine (KMod.out V0).mono ?_
  rintro e w1 ⟨rfl, hb1⟩
  have xa1 := (isA_calls hb1 xa (Nat.le_refl _)).alloc (.cells #[.int .u64 (wd X 0 : Int), .int .u64 (wd X 1 : Int), .int .u64 (wd X 2 : Int), .int .u64 (wd X 3 : Int)] 23)
  have XB1 := Lib.hid (b_alloc (b_callsS hb1 xB (Nat.le_refl _)) (.cells #[.int .u64 (wd X 0 : Int), .int .u64 (wd X 1 : Int), .int .u64 (wd X 2 : Int), .int .u64 (wd X 3 : Int)] 23))
  have N1 : Hid (IsA (w1.alloc (.cells #[.int .u64 (wd X 0 : Int), .int .u64 (wd X 1 : Int), .int .u64 (wd X 2 : Int), .int .u64 (wd X 3 : Int)] 23)) w1.heap.size X 23) := (alloc_new w1 _ :)
  clear xa xz xB hb1 p0 p1 p2 p3
  obtain ⟨⟨p0, p1, p2, p3⟩, _⟩ := fourV xa1
  clear xa1
  go_wp2_with fail
  generalize w1.alloc (.cells #[.int .u64 (wd X 0 : Int), .int .u64 (wd X 1 : Int), .int .u64 (wd X 2 : Int), .int .u64 (wd X 3 : Int)] 23) = V1 at *
  generalize w1.heap.size = b1 at *
  refine (KEl.out V1).mono ?_
  rintro e w2 ⟨rfl, hb2⟩
  have N1b := Lib.hid ((isA_calls hb2 N1.out (Nat.le_refl _)).alloc (.cells #[.int .u64 (wd X 0 : Int), .int .u64 (wd X 1 : Int), .int .u64 (wd X 2 : Int), .int .u64 (wd X 3 : Int)] 27))
  have XB2 := Lib.hid (b_alloc (b_callsS hb2 XB1.out (Nat.le_refl _)) (.cells #[.int .u64 (wd X 0 : Int), .int .u64 (wd X 1 : Int), .int .u64 (wd X 2 : Int), .int .u64 (wd X 3 : Int)] 27))
  have N2 : Hid (IsA (w2.alloc (.cells #[.int .u64 (wd X 0 : Int), .int .u64 (wd X 1 : Int), .int .u64 (wd X 2 : Int), .int .u64 (wd X 3 : Int)] 27)) w2.heap.size X 27) := (alloc_new w2 _ :)
  clear N1 XB1 hb2 p0 p1 p2 p3
  go_wp2_with fail
  generalize w2.alloc (.cells #[.int .u64 (wd X 0 : Int), .int .u64 (wd X 1 : Int), .int .u64 (wd X 2 : Int), .int .u64 (wd X 3 : Int)] 27) = V2 at *
  generalize w2.heap.size = b2 at *
  refine (KO.out V2).mono ?_
  rintro e w3 ⟨rfl, hb3⟩
  have N1c := Lib.hid ((isA_calls hb3 N1b.out (Nat.le_refl _)).alloc (.cells #[.int .u64 (wd Y 0 : Int), .int .u64 (wd Y 1 : Int), .int .u64 (wd Y 2 : Int), .int .u64 (wd Y 3 : Int)] 27))
  have n2c := (isA_calls hb3 N2.out (Nat.le_refl _)).alloc (.cells #[.int .u64 (wd Y 0 : Int), .int .u64 (wd Y 1 : Int), .int .u64 (wd Y 2 : Int), .int .u64 (wd Y 3 : Int)] 27)
  have XB3 := Lib.hid (b_alloc (b_callsS hb3 XB2.out (Nat.le_refl _)) (.cells #[.int .u64 (wd Y 0 : Int), .int .u64 (wd Y 1 : Int), .int .u64 (wd Y 2 : Int), .int .u64 (wd Y 3 : Int)] 27))
  have N3 : Hid (IsA (w3.alloc (.cells #[.int .u64 (wd Y 0 : Int), .int .u64 (wd Y 1 : Int), .int .u64 (wd Y 2 : Int), .int .u64 (wd Y 3 : Int)] 27)) w3.heap.size Y 27) := (alloc_new w3 _ :)
  obtain ⟨⟨p0, p1, p2, p3⟩, _⟩ := fourV n2c
  have N2c := Lib.hid n2c
  clear N1b N2 XB2 hb3 n2c
  go_wp2_with fail
  generalize w3.alloc (.cells #[.int .u64 (wd Y 0 : Int), .int .u64 (wd Y 1 : Int), .int .u64 (wd Y 2 : Int), .int .u64 (wd Y 3 : Int)] 27) = V3 at *
  generalize w3.heap.size = b3 at *
  refine (KB.out V3).mono ?_
  rintro e w4 ⟨rfl, hb4⟩
  go_wp2_with fail
  refine (KOb.out w4).mono ?_
  rintro e w5 ⟨rfl, hb5⟩
  have hb45 := b_callsS hb5 hb4 (Nat.le_refl _)
  have n1 := (isA_calls hb45 N1c.out (Nat.le_refl _)).alloc (.cells #[.int .u64 (wd X 0 : Int), .int .u64 (wd X 1 : Int), .int .u64 (wd X 2 : Int), .int .u64 (wd X 3 : Int)] 27)
  have n2 := (isA_calls hb45 N2c.out (Nat.le_refl _)).alloc (.cells #[.int .u64 (wd X 0 : Int), .int .u64 (wd X 1 : Int), .int .u64 (wd X 2 : Int), .int .u64 (wd X 3 : Int)] 27)
  have N3d := Lib.hid ((isA_calls hb45 N3.out (Nat.le_refl _)).alloc (.cells #[.int .u64 (wd X 0 : Int), .int .u64 (wd X 1 : Int), .int .u64 (wd X 2 : Int), .int .u64 (wd X 3 : Int)] 27))
  have XB5 := Lib.hid (b_alloc (b_callsS hb45 XB3.out (Nat.le_refl _)) (.cells #[.int .u64 (wd X 0 : Int), .int .u64 (wd X 1 : Int), .int .u64 (wd X 2 : Int), .int .u64 (wd X 3 : Int)] 27))
  have n5 : IsA (w5.alloc (.cells #[.int .u64 (wd X 0 : Int), .int .u64 (wd X 1 : Int), .int .u64 (wd X 2 : Int), .int .u64 (wd X 3 : Int)] 27)) w5.heap.size X 27 := alloc_new w5 _
  clear N1c N2c N3 XB3 hb4 hb5 hb45 p0 p1 p2 p3
  obtain ⟨⟨p0, p1, p2, p3⟩, _⟩ := fourV n1
  obtain ⟨⟨q0, q1, q2, q3⟩, _⟩ := fourV n2
  obtain ⟨⟨r0, r1, r2, r3⟩, _⟩ := fourV n5
  have DP0 := fun d os => cell_regrown p0 d os
  have DP1 := fun d os => cell_regrown p1 d os
  have DP2 := fun d os => cell_regrown p2 d os
  have DP3 := fun d os => cell_regrown p3 d os
  have DQ0 := fun d os => cell_regrown q0 d os
  have DQ1 := fun d os => cell_regrown q1 d os
  have DQ2 := fun d os => cell_regrown q2 d os
  have DQ3 := fun d os => cell_regrown q3 d os
  have DR0 := fun d os => cell_regrown r0 d os
  have DR1 := fun d os => cell_regrown r1 d os
  have DR2 := fun d os => cell_regrown r2 d os
  have DR3 := fun d os => cell_regrown r3 d os
  clear p0 p1 p2 p3 q0 q1 q2 q3 r0 r1 r2 r3 n1 n2 n5
  go_wp2_with fail
  generalize w5.alloc (.cells #[.int .u64 (wd X 0 : Int), .int .u64 (wd X 1 : Int), .int .u64 (wd X 2 : Int), .int .u64 (wd X 3 : Int)] 27) = V5 at *
  generalize w5.heap.size = b5 at *
  refine wp_region_quiet_below HMIX.out (by kernel_rfl) ?_
  repeat (go_big_quiet_step (first
    | (go_at_call 10; exact Calls.regrown_of (KIs.out _))
    | (go_at_call 9; exact Calls.regrown_of (KB.out _))
    | (go_at_call 11; exact Calls.regrown_of (KRB.out _))
    | (go_at_call 12; exact Calls.regrown_of (KOd.out _))
    | (go_at_call 13; exact Calls.regrown_of (KP.out _))
    | (go_at_call 14; exact Calls.regrown_of (KRP.out _))))
  refine wpQuiet_nil ?_
  intro _ hw'
  obtain ⟨⟨nq1, os1⟩, hw''⟩ := hw'
  subst hw''
  have N3e := Lib.hid (isA_calls (below_regrown V5 nq1 os1) N3d.out (Nat.le_refl _))
  have XB6 := Lib.hid (b_callsS (below_regrown V5 nq1 os1) XB5.out (Nat.le_refl _))
  clear DP0 DP1 DP2 DP3 DQ0 DQ1 DQ2 DQ3 DR0 DR1 DR2 DR3 N3d XB5 KIs KB KRB KOd KP KRP KOb kp ho1 ho2 KMod KEl
  go_wp2_with fail
  generalize Sort.grow (redrawn V5 nq1) os1 = V6 at *
  refine (KW.out V6).mono ?_
  rintro e w7 ⟨rfl, hb7⟩
  have N3f := Lib.hid ((isA_calls hb7 N3e.out (Nat.le_refl _)).alloc (.cells #[.int .u64 (wd N 0 : Int), .int .u64 (wd N 1 : Int), .int .u64 (wd N 2 : Int), .int .u64 (wd N 3 : Int)] 25))
  have XB7 := Lib.hid (b_alloc (b_callsS hb7 XB6.out (Nat.le_refl _)) (.cells #[.int .u64 (wd N 0 : Int), .int .u64 (wd N 1 : Int), .int .u64 (wd N 2 : Int), .int .u64 (wd N 3 : Int)] 25))
  have n7 : IsA (w7.alloc (.cells #[.int .u64 (wd N 0 : Int), .int .u64 (wd N 1 : Int), .int .u64 (wd N 2 : Int), .int .u64 (wd N 3 : Int)] 25)) w7.heap.size N 25 := alloc_new w7 _
  have N7 := Lib.hid n7
  clear N3e XB6 hb7 n7
  have KLv := Lib.hid lives19
  have kz := eql_z
  rcases HC.out with ⟨rfl, rfl, rfl⟩ | ⟨rfl, hge, rfl, rfl⟩ | ⟨rfl, hlt, rfl, rfl⟩
  · have y3 := isA_zero' N3f.out
    obtain ⟨⟨c0, c1, c2, c3⟩, _⟩ := fourV y3
    clear y3 HC
    go_wp2_with fail
    refine (KLv.out _).mono ?_
    rintro e w8 ⟨rfl, hb8⟩
    go_wp2_with fail
    go_ret
    exact ⟨rfl, b_callsS hb8 XB7.out (Nat.le_refl _)⟩
  · have y3 := isA_zero' N3f.out
    obtain ⟨⟨c0, c1, c2, c3⟩, _⟩ := fourV y3
    obtain ⟨⟨p0, p1, p2, p3⟩, _⟩ := fourV N7.out
    have KMN := Lib.hid (fun w => rmod_any N w HN.out)
    have kn := fun w => eql_ar (N % PN) N w (mod_B N) HN.out
    have hne : decide (N % PN = N) = false := decide_eq_false (fun h => by have := Nat.mod_lt N PN_pos; omega)
    rw [hne] at kn
    obtain ⟨M, hM⟩ : ∃ M, N % PN = M := ⟨_, rfl⟩
    rw [hM] at KMN kn
    simp only [numV_agg] at KMN
    have XB := Lib.hid XB7.out
    have DP0 := fun d os => cell_regrown p0 d os
    have DP1 := fun d os => cell_regrown p1 d os
    have DP2 := fun d os => cell_regrown p2 d os
    have DP3 := fun d os => cell_regrown p3 d os
    clear y3 HC hge hne hM p0 p1 p2 p3 kx
    have C3 := Lib.hid (And.intro c0 (And.intro c1 (And.intro c2 c3)))
    clear c0 c1 c2 c3
    go_wp2_with fail
    generalize w7.alloc (.cells #[.int .u64 (wd N 0 : Int), .int .u64 (wd N 1 : Int), .int .u64 (wd N 2 : Int), .int .u64 (wd N 3 : Int)] 25) = V7 at *
    refine wp_region_quiet_below HMIX.out (by kernel_rfl) ?_
    repeat (go_big_quiet_step (first
      | (go_at_call 6; exact Calls.regrown_of (KMN.out _))))
    refine wpQuiet_nil ?_
    intro _ hw'
    obtain ⟨⟨nq2, os2⟩, hw''⟩ := hw'
    subst hw''
    obtain ⟨c0', c1', c2', c3'⟩ := C3.out
    have c0 := cell_regrown c0' nq2 os2
    have c1 := cell_regrown c1' nq2 os2
    have c2 := cell_regrown c2' nq2 os2
    have c3 := cell_regrown c3' nq2 os2
    have XB8 := Lib.hid (b_callsS (below_regrown V7 nq2 os2) XB.out (Nat.le_refl _))
    clear c0' c1' c2' c3' C3 DP0 DP1 DP2 DP3 kn
    generalize Sort.grow (redrawn V7 nq2) os2 = V8 at *
    go_wp2_with fail
    refine (KLv.out _).mono ?_
    rintro e w8 ⟨rfl, hb8⟩
    go_wp2_with fail
    go_ret
    exact ⟨rfl, b_callsS hb8 XB8.out (Nat.le_refl _)⟩
  · obtain ⟨⟨p0, p1, p2, p3⟩, _⟩ := fourV N7.out
    obtain ⟨⟨q0, q1, q2, q3⟩, _⟩ := fourV N3f.out
    have KMN := Lib.hid (fun w => rmod_any Y w HN.out)
    have kn := fun w => eql_ar (Y % PN) Y w (mod_B Y) HN.out
    have hme : Y % PN = Y := Nat.mod_eq_of_lt hlt
    rw [hme] at KMN kn
    have kn2 := fun w => eql_nu Y Y w HN.out HN.out
    have KN := Lib.hid (fun w => pnum_any Y w)
    simp only [decide_true] at kn kn2
    simp only [numV_agg] at KMN KN
    have XB := Lib.hid XB7.out
    have DP0 := fun d os => cell_regrown p0 d os
    have DP1 := fun d os => cell_regrown p1 d os
    have DP2 := fun d os => cell_regrown p2 d os
    have DP3 := fun d os => cell_regrown p3 d os
    have DQ0 := fun d os => cell_regrown q0 d os
    have DQ1 := fun d os => cell_regrown q1 d os
    have DQ2 := fun d os => cell_regrown q2 d os
    have DQ3 := fun d os => cell_regrown q3 d os
    clear HC hlt hme p0 p1 p2 p3 q0 q1 q2 q3 kx
    go_wp2_with fail
    generalize w7.alloc (.cells #[.int .u64 (wd Y 0 : Int), .int .u64 (wd Y 1 : Int), .int .u64 (wd Y 2 : Int), .int .u64 (wd Y 3 : Int)] 25) = V7 at *
    refine wp_region_quiet_below HMIX.out (by kernel_rfl) ?_
    repeat (go_big_quiet_step (first
      | (go_at_call 6; exact Calls.regrown_of (KMN.out _))))
    refine wpQuiet_nil ?_
    intro _ hw'
    obtain ⟨⟨nq2, os2⟩, hw''⟩ := hw'
    subst hw''
    have hb8 := below_regrown V7 nq2 os2
    have XB8 := Lib.hid (b_callsS hb8 XB.out (Nat.le_refl _))
    have P8 := isA_calls hb8 N7.out (Nat.le_refl _)
    have Q8 := isA_calls hb8 N3f.out (Nat.le_refl _)
    clear DP0 DP1 DP2 DP3 DQ0 DQ1 DQ2 DQ3 kn hb8
    generalize Sort.grow (redrawn V7 nq2) os2 = V8 at *
    obtain ⟨⟨p0, p1, p2, p3⟩, _⟩ := fourV P8
    obtain ⟨⟨q0, q1, q2, q3⟩, _⟩ := fourV Q8
    have DP0 := fun d os => cell_regrown p0 d os
    have DP1 := fun d os => cell_regrown p1 d os
    have DP2 := fun d os => cell_regrown p2 d os
    have DP3 := fun d os => cell_regrown p3 d os
    have DQ0 := fun d os => cell_regrown q0 d os
    have DQ1 := fun d os => cell_regrown q1 d os
    have DQ2 := fun d os => cell_regrown q2 d os
    have DQ3 := fun d os => cell_regrown q3 d os
    clear p0 p1 p2 p3 q0 q1 q2 q3 P8 Q8
    go_wp2_with fail
    refine wp_region_quiet_below HMIX.out (by kernel_rfl) ?_
    repeat (go_big_quiet_step (first
      | (go_at_call 17; exact Calls.regrown_of (KN.out _))
      | (go_at_call 16; exact Calls.regrown_of (KLv.out _))))
    refine wpQuiet_nil ?_
    intro _ hw'
    obtain ⟨⟨nq3, os3⟩, hw''⟩ := hw'
    subst hw''
    go_wp2_with fail
    go_ret
    exact ⟨rfl, b_callsS (below_regrown V8 nq3 os3) XB8.out (Nat.le_refl _)⟩
theorem primeBytes_walk (a : Nat) (s : ByteArray) (w : World) (ha : a < B64 ^ 4) (_hs : s.size ≤ maxLen) :
    Calls Try.prog 3 #[numV a, .string s] w fun e w' => e = .returned (.bool true) ∧ Below w.heap.size w w' := by
  by_cases hs : s.size = 32
  · have hN := leN_B s hs
    by_cases hlt : leN s.data.toList < PN
    · exact primeBytes_w a s (leN s.data.toList) (leN s.data.toList) 0 0 w ha (fun w => by have h := pof_any s w hs; rw [if_pos hlt] at h; exact h) (fun w => of_any s w hs) hN (.inr (.inr ⟨rfl, hlt, rfl, rfl⟩))
    · exact primeBytes_w a s 0 (leN s.data.toList) 2 0 w ha (fun w => by have h := pof_any s w hs; rw [if_neg hlt] at h; exact h) (fun w => of_any s w hs) hN (.inr (.inl ⟨rfl, Nat.le_of_not_lt hlt, rfl, rfl⟩))
  · exact primeBytes_w a s 0 0 1 1 w ha (fun w => pof_short s w hs) (fun w => of_short s w hs) (by decide) (.inl ⟨rfl, rfl, rfl⟩)
end Go.Proofs.Ytjjpnoahicnipaa
