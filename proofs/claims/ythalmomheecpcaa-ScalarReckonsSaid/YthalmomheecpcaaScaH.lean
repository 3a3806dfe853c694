/- The examples of layer 22: lives. -/
import Derived.Test.YthalmomheecpcaaScaG
namespace Go.Proofs.Ythalmomheecpcaa
open Go.RowKit
theorem byL_len (n : Nat) : (byL n).length = 32 := by unfold byL; simp
theorem byL_LN : leN (byL LN) = LN := by decide +kernel
theorem num_one : numV 1 = .agg #[.int .u64 1, .int .u64 0, .int .u64 0, .int .u64 0] := by unfold numV; rw [show wd 1 0 = 1 by decide +kernel, show wd 1 1 = 0 by decide +kernel, show wd 1 2 = 0 by decide +kernel, show wd 1 3 = 0 by decide +kernel]; rfl
set_option maxHeartbeats 4000000 in
theorem lives22 (w : World) : Calls Try.prog 5 #[] w fun e w' => e = .returned (.bool true) ∧ Below w.heap.size w w' := by
  have K1 := Lib.hid l_any
  have K2 := Lib.hid (fun w => bytes_any LN w)
  have K3 : Hid (∀ w, Calls Try.prog 6 #[.string ⟨(byL LN).toArray⟩] w fun e w' => e = .returned (.tuple #[.agg #[.int .u64 0, .int .u64 0, .int .u64 0, .int .u64 0], .int .i64 23]) ∧ Below w.heap.size w w') := fun w => by
    have h := scof_any ⟨(byL LN).toArray⟩ w (by show (byL LN).toArray.size = 32; simp [byL_len])
    rw [show (⟨(byL LN).toArray⟩ : ByteArray).data.toList = byL LN from rfl, byL_LN, if_neg (Nat.lt_irrefl _), num_zero] at h
    exact h
  have K4 : Hid (∀ w, Calls Try.prog 7 #[.string ⟨#[]⟩] w fun e w' => e = .returned (.tuple #[.agg #[.int .u64 0, .int .u64 0, .int .u64 0, .int .u64 0], .int .i64 0]) ∧ Below w.heap.size w w') := fun w => by
    have h := reduce_any ⟨#[]⟩ w (by decide)
    rw [show leN (⟨#[]⟩ : ByteArray).data.toList % LN = 0 from rfl, num_zero] at h
    exact h
  have K5 : Hid (∀ w, Calls Try.prog 20 #[.int .u64 1] w fun e w' => e = .returned (.agg #[.int .u64 1, .int .u64 0, .int .u64 0, .int .u64 0]) ∧ Below w.heap.size w w') := fun w => by
    have h := small_any 1 w (by decide)
    rw [num_one] at h
    exact h
  have K6 : Hid (∀ a w, IsNums w a 2 [LN, 1] → Calls Try.prog 17 #[.slice a 2 2] w fun e w' => e = .returned (.agg #[.int .u64 1, .int .u64 0, .int .u64 0, .int .u64 0]) ∧ Below w.heap.size w w') := fun a w h => by
    have h := scasum_any a 2 2 [LN, 1] w (by omega) h
    rw [show List.foldl (fun a b => (a + b) % LN) 0 [LN, 1] = 1 by decide +kernel, num_one] at h
    exact h
  have K7 : Hid (∀ w, Calls Try.prog 8 #[.agg #[.int .u64 0, .int .u64 0, .int .u64 0, .int .u64 0]] w fun e w' => e = .returned (.bool true) ∧ Below w.heap.size w w') := fun w => by
    have h := isZero_any 0 w (by decide)
    rw [num_zero] at h
    exact h
  generalize byL LN = BL at K2 K3
  have HN : Hid (∀ w a, w.heap[a]? = some (.cells #[.int .u64 (wd LN 0 : Int), .int .u64 (wd LN 1 : Int), .int .u64 (wd LN 2 : Int), .int .u64 (wd LN 3 : Int), .int .u64 1, .int .u64 0, .int .u64 0, .int .u64 0] 25 (0, 0)) → IsNums w (some ⟨a, 0, none⟩) 2 [LN, 1]) := by
    intro w a h
    refine ⟨rfl, fun n hn => ?_, fun _ => ⟨a, rfl, lt_blk h, fun i k hi hk => ?_⟩⟩
    · simp at hn
      rcases hn with rfl | rfl
      · exact LN_lt
      · decide
    · have e10 : wd 1 0 = 1 := by decide +kernel
      have e11 : wd 1 1 = 0 := by decide +kernel
      have e12 : wd 1 2 = 0 := by decide +kernel
      have e13 : wd 1 3 = 0 := by decide +kernel
      have hi2 : i = 0 ∨ i = 1 := by omega
      have hk4 : k = 0 ∨ k = 1 ∨ k = 2 ∨ k = 3 := by omega
      rcases hi2 with rfl | rfl <;> rcases hk4 with rfl | rfl | rfl | rfl <;> simp [World.cell?, h, e10, e11, e12, e13]
  generalize LN = Lv at K1 K2 K6 HN
  simp only [numV_agg] at K1 K2
  go_enter Try.func5, Try.ntmps5
  go_wp2_with fail
  refine (K1.out _).mono ?_
  rintro e w1 ⟨rfl, hb1⟩
  go_wp2_with fail
  refine (K2.out _).mono ?_
  rintro e w2 ⟨rfl, hb2⟩
  go_wp2_with fail
  refine (K3.out _).mono ?_
  rintro e w3 ⟨rfl, hb3⟩
  have B3 := Lib.hid ((hb1.trans (hb2.mono hb1.size)).trans (hb3.mono (hb1.trans (hb2.mono hb1.size)).size))
  clear hb1 hb2 hb3
  go_wp2_with fail
  refine (K4.out _).mono ?_
  rintro e w4 ⟨rfl, hb4⟩
  have B4 := Lib.hid ((gr_alloc B3.out (.cells #[.int .u64 0, .int .u64 0, .int .u64 0, .int .u64 0] 25)).trans (hb4.mono (by rw [alloc_size1]; have := B3.out.size; omega)))
  clear B3 hb4
  have z4 : IsA (w4.alloc (.cells #[.int .u64 0, .int .u64 0, .int .u64 0, .int .u64 0] 25)) w4.heap.size 0 25 := isA_zero (alloc_new w4 _)
  have B5 := Lib.hid (gr_alloc B4.out (.cells #[.int .u64 0, .int .u64 0, .int .u64 0, .int .u64 0] 25))
  have Z4 := Lib.hid z4
  clear z4 B4
  have kq1 := fun w => eql_num w 1 0 0 0 1 0 0 0
  go_wp2_with fail
  refine (K1.out _).mono ?_
  rintro e w5 ⟨rfl, hb5⟩
  have B6 := B5.out.trans (hb5.mono B5.out.size)
  have Z5 := Z4.out.keep hb5
  go_wp2_with fail
  refine (K5.out _).mono ?_
  rintro e w6 ⟨rfl, hb6⟩
  have B7 := gr_alloc (B6.trans (hb6.mono B6.size)) (.cells #[.int .u64 (wd Lv 0 : Int), .int .u64 (wd Lv 1 : Int), .int .u64 (wd Lv 2 : Int), .int .u64 (wd Lv 3 : Int), .int .u64 1, .int .u64 0, .int .u64 0, .int .u64 0] 25)
  have Z6 := (Z5.keep hb6).alloc (.cells #[.int .u64 (wd Lv 0 : Int), .int .u64 (wd Lv 1 : Int), .int .u64 (wd Lv 2 : Int), .int .u64 (wd Lv 3 : Int), .int .u64 1, .int .u64 0, .int .u64 0, .int .u64 0] 25)
  have hn6 := HN.out (w6.alloc (.cells #[.int .u64 (wd Lv 0 : Int), .int .u64 (wd Lv 1 : Int), .int .u64 (wd Lv 2 : Int), .int .u64 (wd Lv 3 : Int), .int .u64 1, .int .u64 0, .int .u64 0, .int .u64 0] 25)) w6.heap.size (alloc_new w6 _)
  have HB7 := Lib.hid B7
  have HZ6 := Lib.hid Z6
  have HN6 := Lib.hid hn6
  clear B6 B7 Z5 Z6 hn6 hb5 hb6 HN
  go_wp2_with fail
  generalize w6.alloc (.cells #[.int .u64 (wd Lv 0 : Int), .int .u64 (wd Lv 1 : Int), .int .u64 (wd Lv 2 : Int), .int .u64 (wd Lv 3 : Int), .int .u64 1, .int .u64 0, .int .u64 0, .int .u64 0] 25) = V at HB7 HZ6 HN6 ⊢
  refine (K6.out _ V HN6.out).mono ?_
  rintro e w7 ⟨rfl, hb7⟩
  have B8 := HB7.out.trans (hb7.mono HB7.out.size)
  have Z7 := HZ6.out.keep hb7
  clear HN6 HZ6 HB7 hb7
  go_wp2_with fail
  refine (K5.out _).mono ?_
  rintro e w8 ⟨rfl, hb8⟩
  have B9 := B8.trans (hb8.mono B8.size)
  have Z8 := isA_zero' (Z7.keep hb8)
  obtain ⟨⟨d0, d1, d2, d3⟩, -⟩ := fourV Z8
  have HB9 := Lib.hid B9
  clear B8 B9 Z7 Z8 hb8
  go_wp2_with fail
  refine (K7.out _).mono ?_
  rintro e w9 ⟨rfl, hb9⟩
  have HBB := Lib.hid (HB9.out.trans (hb9.mono HB9.out.size))
  clear HB9 hb9
  go_wp2_with fail
  go_ret
  exact ⟨rfl, HBB.out⟩
end Go.Proofs.Ythalmomheecpcaa
