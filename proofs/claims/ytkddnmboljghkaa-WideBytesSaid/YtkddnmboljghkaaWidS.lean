/- The law of bytes and bits, layer 13. -/
import Derived.Test.YtkddnmboljghkaaWidR
import Derived.Test.YtkddnmboljghkaaWidO
import Derived.Test.YtkddnmboljghkaaWidJ
namespace Go.Proofs.Ytkddnmboljghkaa
open Go.RowKit
theorem leN_digits (n : Nat) : ∀ k m, leN ((List.range k).map fun i => UInt8.ofNat (n / 256 ^ (m + i) % 256)) = n / 256 ^ m % 256 ^ k
  | 0, m => by simp [leN, Nat.mod_one]
  | k + 1, m => by
    rw [List.range_succ_eq_map, List.map_cons, List.map_map, leN]
    have h := leN_digits n k (m + 1)
    have e : (fun i => UInt8.ofNat (n / 256 ^ (m + i) % 256)) ∘ Nat.succ = fun i => UInt8.ofNat (n / 256 ^ (m + 1 + i) % 256) := by
      funext i
      simp only [Function.comp]
      rw [show m + Nat.succ i = m + 1 + i by omega]
    rw [e, h, Nat.add_zero, UInt8.toNat_ofNat', show (256 : Nat) ^ (k + 1) = 256 * 256 ^ k by rw [Nat.pow_succ, Nat.mul_comm], Nat.mod_mul, Nat.pow_succ 256 m, ← Nat.div_div_eq_div_mul]
    have h8 : n / 256 ^ m % 256 % 2 ^ 8 = n / 256 ^ m % 256 := Nat.mod_eq_of_lt (Nat.mod_lt _ (by decide))
    rw [h8]
theorem leN_byL (n : Nat) (h : n < B64 ^ 4) : leN (byL n) = n := by
  have := leN_digits n 32 0
  simp only [Nat.zero_add, Nat.pow_zero, Nat.div_one] at this
  unfold byL
  rw [this, Nat.mod_eq_of_lt (by rw [show 256 ^ 32 = B64 ^ 4 by decide]; exact h)]
theorem byL_leN (l : List UInt8) (h : l.length = 32) : byL (leN l) = l := by
  unfold byL
  refine List.ext_getElem (by simp [h]) fun i h1 h2 => ?_
  simp only [List.getElem_map, List.getElem_range]
  rw [leN_at, List.getD_eq_getElem?_getD, List.getElem?_eq_getElem h2]
  simp
theorem high_step (n k : Nat) : Go.bitLen (n % 2 ^ (k + 1)) = if n / 2 ^ k % 2 = 1 then k + 1 else Go.bitLen (n % 2 ^ k) := by
  have hm : n % 2 ^ (k + 1) = n % 2 ^ k + 2 ^ k * (n / 2 ^ k % 2) := by rw [Nat.pow_succ, Nat.mod_mul]
  have hlt := Nat.mod_lt n (Nat.pow_pos (n := k) (by decide : 0 < 2))
  split
  · rename_i h
    rw [hm, h, Nat.mul_one]
    have h0 : n % 2 ^ k + 2 ^ k ≠ 0 := by omega
    obtain ⟨h1, h2⟩ := bitLen_spec (n % 2 ^ k + 2 ^ k)
    have h2 := h2 h0
    generalize Go.bitLen (n % 2 ^ k + 2 ^ k) = L at *
    have a1 : k < L := (Nat.pow_lt_pow_iff_right (by decide : 1 < 2)).1 (Nat.lt_of_le_of_lt (Nat.le_add_left _ _) h1)
    have a2 : L - 1 < k + 1 := (Nat.pow_lt_pow_iff_right (by decide : 1 < 2)).1 (Nat.lt_of_le_of_lt h2 (by rw [Nat.pow_succ]; omega))
    omega
  · rename_i h
    have : n / 2 ^ k % 2 = 0 := by omega
    rw [hm, this, Nat.mul_zero, Nat.add_zero]
set_option maxHeartbeats 1000000 in
theorem wideBytes_short (a : Nat) (s : ByteArray) (i : Int) (w : World) (hs : s.size ≠ 32) :
    Calls Try.prog 3 #[numV a, .string s, .int .i64 i] w fun e w' => e = .returned (.bool true) ∧ Below w.heap.size w w' := by
  rw [show numV a = .agg #[.int .u64 (wd a 0 : Int), .int .u64 (wd a 1 : Int), .int .u64 (wd a 2 : Int), .int .u64 (wd a 3 : Int)] from rfl]
  have q1 : ¬ (s.size : Int) = 32 := by omega
  have q2 : decide ((s.size : Int) = 32) = false := by simp; omega
  have q3 : ((s.size : Int) == 32) = false := by simp; omega
  have KO := Lib.hid (fun w => of_short s w hs)
  have KZ := isz0
  go_enter Try.func3, Try.ntmps3
  go_wp2_with fail
  refine (KO.out _).mono ?_
  rintro e w1 ⟨rfl, hb1⟩
  rw [num_0]
  go_wp2_with fail
  refine (KZ.out _).mono ?_
  rintro e w2 ⟨rfl, hb2⟩
  go_wp2_with fail
  refine (lives13 _).mono ?_
  rintro e w3 ⟨rfl, hb3⟩
  go_wp2_with fail
  go_ret
  refine ⟨rfl, ?_⟩
  have e1 := gr_step (gr_alloc (gr_alloc (Below.refl w.heap.size w) _) _) hb1
  exact gr_step (gr_step (gr_alloc e1 _) hb2) hb3
theorem bit_out (n : Nat) (i : Int) (w : World) (hi : ¬ (0 ≤ i ∧ i < 256)) :
    Calls Try.prog 15 #[numV n, .int .i64 i] w fun e w' => e = .returned (.int .u64 0) ∧ Below w.heap.size w w' := by
  rw [show numV n = .agg #[.int .u64 (wd n 0 : Int), .int .u64 (wd n 1 : Int), .int .u64 (wd n 2 : Int), .int .u64 (wd n 3 : Int)] from rfl]
  have x1 : Below w.heap.size w (w.alloc (.cells (numL n).toArray 24)) := gr_alloc (Below.refl _ _) _
  by_cases h0 : i < 0
  · clear hi
    go_enter Try.func15, Try.ntmps15
    go_wp2_with fail
    go_ret
    exact ⟨rfl, x1⟩
  · have h1 : (255 : Int) < i := by omega
    clear hi
    go_enter Try.func15, Try.ntmps15
    go_wp2_with fail
    go_ret
    exact ⟨rfl, x1⟩
theorem bitLen_zero (a : Nat) : decide (a = 0) = ((Go.bitLen a : Int) == 0) := by
  by_cases h : a = 0
  · subst h; rfl
  · obtain ⟨h1, h2⟩ := bitLen_spec a
    have : Go.bitLen a ≠ 0 := by
      intro e
      rw [e] at h1
      simp at h1
      exact h h1
    have h3 : ¬ ((Go.bitLen a : Int) = 0) := by omega
    rw [decide_eq_false h]
    symm
    simpa using h3
set_option maxHeartbeats 4000000 in
theorem wideBytes_long (a : Nat) (s : ByteArray) (i : Int) (w : World) (ha : a < B64 ^ 4) (hs : s.size = 32) :
    Calls Try.prog 3 #[numV a, .string s, .int .i64 i] w fun e w' => e = .returned (.bool true) ∧ Below w.heap.size w w' := by
  have hm : Try.prog.follows .mixedOrders = true := by kernel_rfl
  have hsI : (s.size : Int) = 32 := by omega
  have KO := Lib.hid (fun w => of_any s w hs)
  have KB := Lib.hid (fun w => bytes_any a w)
  have KY := Lib.hid (fun w => of_any ⟨(byL a).toArray⟩ w (by show (byL a).toArray.size = 32; simp [byL]))
  rw [show (⟨(byL a).toArray⟩ : ByteArray).data.toList = byL a from rfl, leN_byL a ha] at KY
  have KL := Lib.hid (fun w => rof_any a w ha)
  rw [show numV a = .agg #[.int .u64 (wd a 0 : Int), .int .u64 (wd a 1 : Int), .int .u64 (wd a 2 : Int), .int .u64 (wd a 3 : Int)] from rfl] at KB KY KL ⊢
  obtain ⟨v, hv⟩ : ∃ v, leN s.data.toList = v := ⟨_, rfl⟩
  have HV := Lib.hid hv
  rw [hv, show numV v = .agg #[.int .u64 (wd v 0 : Int), .int .u64 (wd v 1 : Int), .int .u64 (wd v 2 : Int), .int .u64 (wd v 3 : Int)] from rfl] at KO
  have HA := Lib.hid ha
  clear hv ha
  go_enter Try.func3, Try.ntmps3
  go_wp2_with fail
  refine (KO.out _).mono ?_
  rintro e w1 ⟨rfl, hb1⟩
  have rA := keep (alloc_keep (alloc_new w (.cells #[.int .u64 (wd a 0 : Int), .int .u64 (wd a 1 : Int), .int .u64 (wd a 2 : Int), .int .u64 (wd a 3 : Int)] 23)) (.cells #[.int .u64 (wd a 0 : Int), .int .u64 (wd a 1 : Int), .int .u64 (wd a 2 : Int), .int .u64 (wd a 3 : Int)] 24)) hb1
  have rN : w1.heap[w.heap.size + 1]? = some (.cells #[.int .u64 (wd a 0 : Int), .int .u64 (wd a 1 : Int), .int .u64 (wd a 2 : Int), .int .u64 (wd a 3 : Int)] 24 (0, 0)) := by
    have := keep (alloc_new (w.alloc (.cells #[.int .u64 (wd a 0 : Int), .int .u64 (wd a 1 : Int), .int .u64 (wd a 2 : Int), .int .u64 (wd a 3 : Int)] 23)) (.cells #[.int .u64 (wd a 0 : Int), .int .u64 (wd a 1 : Int), .int .u64 (wd a 2 : Int), .int .u64 (wd a 3 : Int)] 24)) hb1
    rw [alloc_size1] at this
    exact this
  have bb1 := gr_step (gr_alloc (gr_alloc (Below.refl w.heap.size w) _) _) hb1
  have lA := lt_blk rA
  have lN := lt_blk rN
  have RA := Lib.hid rA
  have RN := Lib.hid rN
  have BB := Lib.hid bb1
  obtain ⟨⟨n0, n1, n2, n3⟩, _⟩ := fourV rN
  clear rA rN bb1 hb1
  go_wp2_with fail
  refine (KB.out _).mono ?_
  rintro e w2 ⟨rfl, hb2⟩
  have RX := Lib.hid (keep (alloc_new w1 _) hb2)
  have rN2 := keep (alloc_keep RN.out _) hb2
  have rA2 := keep (alloc_keep RA.out _) hb2
  have bb2 := gr_step (gr_alloc BB.out _) hb2
  clear n0 n1 n2 n3 lA lN RA RN BB hb2
  have RA := Lib.hid rA2
  have RN := Lib.hid rN2
  have BB := Lib.hid bb2
  clear rA2 rN2 bb2
  go_wp2_with fail
  refine (KY.out _).mono ?_
  rintro e w3 ⟨rfl, hb3⟩
  have rA3 := keep RA.out hb3
  have rN3 := keep RN.out hb3
  have rX3 := keep RX.out hb3
  have bb3 := gr_step BB.out hb3
  have lA := lt_blk rA3
  obtain ⟨⟨n0, n1, n2, n3⟩, _⟩ := fourV rA3
  clear RA RN RX BB hb3
  have RA := Lib.hid rA3
  have RN := Lib.hid rN3
  have RX := Lib.hid rX3
  have BB := Lib.hid bb3
  clear rA3 rN3 rX3 bb3
  go_wp2_with fail
  refine (KL.out _).mono ?_
  rintro e w4 ⟨g, rfl, ho4, hg4, hb4⟩
  have RY := Lib.hid (keep (alloc_new w3 _) hb4)
  have rA4 := keep (alloc_keep RA.out _) hb4
  have rN4 := keep (alloc_keep RN.out _) hb4
  have rX4 := keep (alloc_keep RX.out _) hb4
  have bb4 := gr_step (gr_alloc BB.out _) hb4
  have HO := Lib.hid ho4
  clear n0 n1 n2 n3 lA RA RN RX BB hb4 ho4
  have RA := Lib.hid rA4
  have RN := Lib.hid rN4
  have RX := Lib.hid rX4
  have BB := Lib.hid bb4
  clear rA4 rN4 rX4 bb4
  go_wp2_with fail
  go_loopw [13, 14] (fun h k wr => ∃ k' : Nat, k' ≤ 256 ∧ k = .int .i64 (k' : Int) ∧ h = .int .i64 (Go.bitLen (a % 2 ^ k') : Int) ∧ w4 = wr) (fun _ k _ => 256 - (intOf k).toNat)
  case atStart => exact ⟨0, by omega, rfl, by rw [Nat.pow_zero, Nat.mod_one]; rfl, rfl⟩
  case round =>
    obtain ⟨k, hk, rfl, rfl, rfl⟩ := hrel
    by_cases hlt : k < 256
    · have k1 : (k : Int) < 256 := by omega
      have KC := Lib.hid (rbit_any (some ⟨g, 0, none⟩) 16 16 a k w4 (HO.out.is 16 (Nat.le_refl _)) (by omega))
      have HS1 := Lib.hid (fun hb : a / 2 ^ k % 2 = 1 => (high_step a k).trans (if_pos hb))
      have HS0 := Lib.hid (fun hb : ¬ a / 2 ^ k % 2 = 1 => (high_step a k).trans (if_neg hb))
      have hb2 : a / 2 ^ k % 2 < 2 := Nat.mod_lt _ (by decide)
      generalize a / 2 ^ k % 2 = b at *
      generalize Go.bitLen (a % 2 ^ k) = h0 at *
      by_cases hb : b = 1
      · subst hb
        go_wp2_with fail
        refine KC.out.mono ?_
        rintro e w' ⟨rfl, hw⟩
        have hw := hw.symm
        subst hw
        go_wp2_with fail
        go_roundw
        case rel => exact ⟨k + 1, by omega, by go_num, by rw [HS1.out (by first | rfl | trivial)]; go_num, by first | rfl | trivial⟩
        case measure => simp [intOf]; omega
      · obtain rfl : b = 0 := by omega
        go_wp2_with fail
        refine KC.out.mono ?_
        rintro e w' ⟨rfl, hw⟩
        have hw := hw.symm
        subst hw
        go_wp2_with fail
        go_roundw
        case rel => exact ⟨k + 1, by omega, by go_num, by rw [HS0.out (by first | omega | simp)], by first | rfl | trivial⟩
        case measure => simp [intOf]; omega
    · obtain rfl : k = 256 := by omega
      rw [show a % 2 ^ 256 = a from Nat.mod_eq_of_lt HA.out]
      have KX : Hid (∀ w, Calls Try.prog 10 #[.agg #[.int .u64 (wd v 0 : Int), .int .u64 (wd v 1 : Int), .int .u64 (wd v 2 : Int), .int .u64 (wd v 3 : Int)]] w fun e w' => e = .returned (.string s) ∧ Below w.heap.size w w') := fun w => by
        have h := bytes_any v w
        rw [← HV.out, byL_leN _ (show s.data.toList.length = 32 from hs)] at h
        rw [← HV.out]
        exact h
      have KRB : Hid (∀ w, Calls Try.prog 13 #[.agg #[.int .u64 (wd a 0 : Int), .int .u64 (wd a 1 : Int), .int .u64 (wd a 2 : Int), .int .u64 (wd a 3 : Int)]] w fun e w' => e = .returned (.string ⟨(byL a).toArray⟩) ∧ Below w.heap.size w w') := fun w => rbytes_any a w
      have KLen : Hid (∀ w, Calls Try.prog 14 #[.agg #[.int .u64 (wd a 0 : Int), .int .u64 (wd a 1 : Int), .int .u64 (wd a 2 : Int), .int .u64 (wd a 3 : Int)]] w fun e w' => e = .returned (.int .i64 (Go.bitLen a : Int)) ∧ Below w.heap.size w w') := fun w => len_any a w HA.out
      have KZ : Hid (∀ w, Calls Try.prog 8 #[.agg #[.int .u64 (wd a 0 : Int), .int .u64 (wd a 1 : Int), .int .u64 (wd a 2 : Int), .int .u64 (wd a 3 : Int)]] w fun e w' => e = .returned (.bool ((Go.bitLen a : Int) == 0)) ∧ Below w.heap.size w w') := fun w => by
        have h := isZero_any a w HA.out
        rw [bitLen_zero a] at h
        exact h
      have KS : Hid (∀ w, Calls Try.prog 16 #[.int .u64 (wd a 0 : Int)] w fun e w' => e = .returned (.agg #[.int .u64 (wd a 0 : Int), .int .u64 0, .int .u64 0, .int .u64 0]) ∧ Below w.heap.size w w') := fun w => by
        have h := small_any (wd a 0) w (wd_lt a 0)
        rw [show numV (wd a 0) = .agg (numL (wd a 0)).toArray from rfl, numL_small _ (wd_lt a 0)] at h
        exact h
      by_cases hi : 0 ≤ i ∧ i < 256
      · obtain ⟨j, rfl⟩ := Int.eq_ofNat_of_zero_le hi.1
        have KC := Lib.hid (rbit_any (some ⟨g, 0, none⟩) 16 16 a j w4 (HO.out.is 16 (Nat.le_refl _)) (by omega))
        have KD := Lib.hid (fun w => bit_any a j w (by omega))
        rw [show numV a = .agg #[.int .u64 (wd a 0 : Int), .int .u64 (wd a 1 : Int), .int .u64 (wd a 2 : Int), .int .u64 (wd a 3 : Int)] from rfl, show bitN a j = a / 2 ^ j % 2 from rfl] at KD
        have j1 : (j : Int) < 256 := by omega
        have j0 : (0 : Int) ≤ (j : Int) := by omega
        generalize a / 2 ^ j % 2 = bv at KC KD
        clear HA HV
        generalize hxa0 : (wd a 0 : Int) = a0 at *
        generalize hxa1 : (wd a 1 : Int) = a1 at *
        generalize hxa2 : (wd a 2 : Int) = a2 at *
        generalize hxa3 : (wd a 3 : Int) = a3 at *
        clear hxa0 hxa1 hxa2 hxa3
        generalize (wd v 0 : Int) = v0 at *
        generalize (wd v 1 : Int) = v1 at *
        generalize (wd v 2 : Int) = v2 at *
        generalize (wd v 3 : Int) = v3 at *
        generalize (Go.bitLen a : Int) = hbit at *
        generalize (⟨(byL a).toArray⟩ : ByteArray) = sa at *
        have kq1 := fun w => eql_num w a0 a1 a2 a3 a0 a1 a2 a3
        have kq2 := fun w => eql_num w a0 0 0 0 a0 0 0 0
        go_wp2_with fail
        refine KC.out.mono ?_
        rintro e w' ⟨rfl, hw⟩
        have hw := hw.symm
        subst hw
        go_wp2_with fail
        obtain ⟨⟨y0, y1, y2, y3⟩, _⟩ := fourV RY.out
        obtain ⟨⟨n0, n1, n2, n3⟩, _⟩ := fourV RN.out
        obtain ⟨⟨x0, x1, x2, x3⟩, _⟩ := fourV RX.out
        obtain ⟨⟨z0, _⟩, _⟩ := fourV RA.out
        have Y0 := fun d os => cell_regrown y0 d os
        have Y1 := fun d os => cell_regrown y1 d os
        have Y2 := fun d os => cell_regrown y2 d os
        have Y3 := fun d os => cell_regrown y3 d os
        have N0 := fun d os => cell_regrown n0 d os
        have N1 := fun d os => cell_regrown n1 d os
        have N2 := fun d os => cell_regrown n2 d os
        have N3 := fun d os => cell_regrown n3 d os
        have X0 := fun d os => cell_regrown x0 d os
        have X1 := fun d os => cell_regrown x1 d os
        have X2 := fun d os => cell_regrown x2 d os
        have X3 := fun d os => cell_regrown x3 d os
        have Z0 := fun d os => cell_regrown z0 d os
        obtain ⟨⟨_, z1, z2, z3⟩, _⟩ := fourV RA.out
        have Z1 := fun d os => cell_regrown z1 d os
        have Z2 := fun d os => cell_regrown z2 d os
        have Z3 := fun d os => cell_regrown z3 d os
        clear y0 y1 y2 y3 n0 n1 n2 n3 x0 x1 x2 x3 z0 z1 z2 z3 RY RN RX RA HO KY KL KO
        refine wp_region_quiet_below (by assumption) (by kernel_rfl) ?_
        repeat (quiet_step (first
          | (go_at_call_of 10 (Value.agg #[.int .u64 v0, .int .u64 v1, .int .u64 v2, .int .u64 v3]); exact Calls.regrown_of (KX.out _))
          | (go_at_call_of 10 (Value.agg #[.int .u64 a0, .int .u64 a1, .int .u64 a2, .int .u64 a3]); exact Calls.regrown_of (KB.out _))
          | (go_at_call 13; exact Calls.regrown_of (KRB.out _))
          | (go_at_call 14; exact Calls.regrown_of (KLen.out _))
          | (go_at_call 15; exact Calls.regrown_of (KD.out _))
          | (go_at_call 8; exact Calls.regrown_of (KZ.out _))
          | (go_at_call 16; exact Calls.regrown_of (KS.out _))
          | (go_at_call 9; exact Calls.regrown_of (lives13 _))))
        refine wpQuiet_nil ?_
        intro _ hw'
        obtain ⟨⟨nq, osq⟩, hw''⟩ := hw'
        subst hw''
        go_wp2_with fail
        go_ret
        exact ⟨rfl, BB.out.trans ((below_regrown w4 _ _).mono BB.out.size)⟩
      · by_cases h0 : i < 0
        · have KD := Lib.hid (fun w => bit_out a i w hi)
          rw [show numV a = .agg #[.int .u64 (wd a 0 : Int), .int .u64 (wd a 1 : Int), .int .u64 (wd a 2 : Int), .int .u64 (wd a 3 : Int)] from rfl] at KD
          clear hi
          have hj : i < 0 := h0
          clear HA HV
          generalize hxa0 : (wd a 0 : Int) = a0 at *
          generalize hxa1 : (wd a 1 : Int) = a1 at *
          generalize hxa2 : (wd a 2 : Int) = a2 at *
          generalize hxa3 : (wd a 3 : Int) = a3 at *
          clear hxa0 hxa1 hxa2 hxa3
          generalize (wd v 0 : Int) = v0 at *
          generalize (wd v 1 : Int) = v1 at *
          generalize (wd v 2 : Int) = v2 at *
          generalize (wd v 3 : Int) = v3 at *
          generalize (Go.bitLen a : Int) = hbit at *
          generalize (⟨(byL a).toArray⟩ : ByteArray) = sa at *
          have kq1 := fun w => eql_num w a0 a1 a2 a3 a0 a1 a2 a3
          have kq2 := fun w => eql_num w a0 0 0 0 a0 0 0 0
          go_wp2_with fail
          obtain ⟨⟨y0, y1, y2, y3⟩, _⟩ := fourV RY.out
          obtain ⟨⟨n0, n1, n2, n3⟩, _⟩ := fourV RN.out
          obtain ⟨⟨x0, x1, x2, x3⟩, _⟩ := fourV RX.out
          obtain ⟨⟨z0, _⟩, _⟩ := fourV RA.out
          have Y0 := fun d os => cell_regrown y0 d os
          have Y1 := fun d os => cell_regrown y1 d os
          have Y2 := fun d os => cell_regrown y2 d os
          have Y3 := fun d os => cell_regrown y3 d os
          have N0 := fun d os => cell_regrown n0 d os
          have N1 := fun d os => cell_regrown n1 d os
          have N2 := fun d os => cell_regrown n2 d os
          have N3 := fun d os => cell_regrown n3 d os
          have X0 := fun d os => cell_regrown x0 d os
          have X1 := fun d os => cell_regrown x1 d os
          have X2 := fun d os => cell_regrown x2 d os
          have X3 := fun d os => cell_regrown x3 d os
          have Z0 := fun d os => cell_regrown z0 d os
          obtain ⟨⟨_, z1, z2, z3⟩, _⟩ := fourV RA.out
          have Z1 := fun d os => cell_regrown z1 d os
          have Z2 := fun d os => cell_regrown z2 d os
          have Z3 := fun d os => cell_regrown z3 d os
          clear y0 y1 y2 y3 n0 n1 n2 n3 x0 x1 x2 x3 z0 z1 z2 z3 RY RN RX RA HO KY KL KO
          refine wp_region_quiet_below (by assumption) (by kernel_rfl) ?_
          repeat (quiet_step (first
            | (go_at_call_of 10 (Value.agg #[.int .u64 v0, .int .u64 v1, .int .u64 v2, .int .u64 v3]); exact Calls.regrown_of (KX.out _))
            | (go_at_call_of 10 (Value.agg #[.int .u64 a0, .int .u64 a1, .int .u64 a2, .int .u64 a3]); exact Calls.regrown_of (KB.out _))
            | (go_at_call 13; exact Calls.regrown_of (KRB.out _))
            | (go_at_call 14; exact Calls.regrown_of (KLen.out _))
            | (go_at_call 15; exact Calls.regrown_of (KD.out _))
            | (go_at_call 8; exact Calls.regrown_of (KZ.out _))
            | (go_at_call 16; exact Calls.regrown_of (KS.out _))
            | (go_at_call 9; exact Calls.regrown_of (lives13 _))))
          refine wpQuiet_nil ?_
          intro _ hw'
          obtain ⟨⟨nq, osq⟩, hw''⟩ := hw'
          subst hw''
          go_wp2_with fail
          go_ret
          exact ⟨rfl, BB.out.trans ((below_regrown w4 _ _).mono BB.out.size)⟩
        · have KD := Lib.hid (fun w => bit_out a i w hi)
          rw [show numV a = .agg #[.int .u64 (wd a 0 : Int), .int .u64 (wd a 1 : Int), .int .u64 (wd a 2 : Int), .int .u64 (wd a 3 : Int)] from rfl] at KD
          have hj : ¬ i < 256 := by omega
          have hj2 : 0 ≤ i := by omega
          clear h0 hi
          clear HA HV
          generalize hxa0 : (wd a 0 : Int) = a0 at *
          generalize hxa1 : (wd a 1 : Int) = a1 at *
          generalize hxa2 : (wd a 2 : Int) = a2 at *
          generalize hxa3 : (wd a 3 : Int) = a3 at *
          clear hxa0 hxa1 hxa2 hxa3
          generalize (wd v 0 : Int) = v0 at *
          generalize (wd v 1 : Int) = v1 at *
          generalize (wd v 2 : Int) = v2 at *
          generalize (wd v 3 : Int) = v3 at *
          generalize (Go.bitLen a : Int) = hbit at *
          generalize (⟨(byL a).toArray⟩ : ByteArray) = sa at *
          have kq1 := fun w => eql_num w a0 a1 a2 a3 a0 a1 a2 a3
          have kq2 := fun w => eql_num w a0 0 0 0 a0 0 0 0
          go_wp2_with fail
          obtain ⟨⟨y0, y1, y2, y3⟩, _⟩ := fourV RY.out
          obtain ⟨⟨n0, n1, n2, n3⟩, _⟩ := fourV RN.out
          obtain ⟨⟨x0, x1, x2, x3⟩, _⟩ := fourV RX.out
          obtain ⟨⟨z0, _⟩, _⟩ := fourV RA.out
          have Y0 := fun d os => cell_regrown y0 d os
          have Y1 := fun d os => cell_regrown y1 d os
          have Y2 := fun d os => cell_regrown y2 d os
          have Y3 := fun d os => cell_regrown y3 d os
          have N0 := fun d os => cell_regrown n0 d os
          have N1 := fun d os => cell_regrown n1 d os
          have N2 := fun d os => cell_regrown n2 d os
          have N3 := fun d os => cell_regrown n3 d os
          have X0 := fun d os => cell_regrown x0 d os
          have X1 := fun d os => cell_regrown x1 d os
          have X2 := fun d os => cell_regrown x2 d os
          have X3 := fun d os => cell_regrown x3 d os
          have Z0 := fun d os => cell_regrown z0 d os
          obtain ⟨⟨_, z1, z2, z3⟩, _⟩ := fourV RA.out
          have Z1 := fun d os => cell_regrown z1 d os
          have Z2 := fun d os => cell_regrown z2 d os
          have Z3 := fun d os => cell_regrown z3 d os
          clear y0 y1 y2 y3 n0 n1 n2 n3 x0 x1 x2 x3 z0 z1 z2 z3 RY RN RX RA HO KY KL KO
          refine wp_region_quiet_below (by assumption) (by kernel_rfl) ?_
          repeat (quiet_step (first
            | (go_at_call_of 10 (Value.agg #[.int .u64 v0, .int .u64 v1, .int .u64 v2, .int .u64 v3]); exact Calls.regrown_of (KX.out _))
            | (go_at_call_of 10 (Value.agg #[.int .u64 a0, .int .u64 a1, .int .u64 a2, .int .u64 a3]); exact Calls.regrown_of (KB.out _))
            | (go_at_call 13; exact Calls.regrown_of (KRB.out _))
            | (go_at_call 14; exact Calls.regrown_of (KLen.out _))
            | (go_at_call 15; exact Calls.regrown_of (KD.out _))
            | (go_at_call 8; exact Calls.regrown_of (KZ.out _))
            | (go_at_call 16; exact Calls.regrown_of (KS.out _))
            | (go_at_call 9; exact Calls.regrown_of (lives13 _))))
          refine wpQuiet_nil ?_
          intro _ hw'
          obtain ⟨⟨nq, osq⟩, hw''⟩ := hw'
          subst hw''
          go_wp2_with fail
          go_ret
          exact ⟨rfl, BB.out.trans ((below_regrown w4 _ _).mono BB.out.size)⟩
end Go.Proofs.Ytkddnmboljghkaa
