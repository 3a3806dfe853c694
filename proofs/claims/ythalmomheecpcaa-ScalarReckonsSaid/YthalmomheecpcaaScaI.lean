/- The law ScalarReads (layer 22): it returns true. -/
import Derived.Test.YthalmomheecpcaaScaH
namespace Go.Proofs.Ythalmomheecpcaa
open Go.RowKit
theorem isz_any (n : Nat) (w : World) (hn : n < B64 ^ 4) (h0 : n = 0) : Calls Try.prog 8 #[.agg #[.int .u64 (wd n 0 : Int), .int .u64 (wd n 1 : Int), .int .u64 (wd n 2 : Int), .int .u64 (wd n 3 : Int)]] w fun e w' => e = .returned (.bool true) ∧ Below w.heap.size w w' := by
  have h := isZero_any n w hn
  rw [decide_eq_true h0] at h
  exact h
theorem scof_all (s : ByteArray) : ∃ (n : Nat) (e : Int), (∀ w, Calls Try.prog 6 #[.string s] w fun r w' => r = .returned (.tuple #[numV n, .int .i64 e]) ∧ Below w.heap.size w w') ∧ n < B64 ^ 4 ∧ (s.size ≠ 32 → n = 0 ∧ e = 1) ∧ (s.size = 32 → leN s.data.toList < LN → n = leN s.data.toList ∧ e = 0) ∧ (s.size = 32 → ¬ leN s.data.toList < LN → n = 0 ∧ e = 23) := by
  by_cases hs : s.size = 32
  · by_cases hl : leN s.data.toList < LN
    · refine ⟨leN s.data.toList, 0, fun w => ?_, Nat.lt_trans hl LN_lt, fun h => absurd hs h, fun _ _ => ⟨rfl, rfl⟩, fun _ h => absurd hl h⟩
      have h := scof_any s w hs
      rw [if_pos hl] at h
      exact h
    · refine ⟨0, 23, fun w => ?_, by decide, fun h => absurd hs h, fun _ h => absurd h hl, fun _ _ => ⟨rfl, rfl⟩⟩
      have h := scof_any s w hs
      rw [if_neg hl] at h
      exact h
  · exact ⟨0, 1, fun w => scof_short s w hs, by decide, fun _ => ⟨rfl, rfl⟩, fun h => absurd h hs, fun h => absurd h hs⟩
theorem eql_same (a : Nat) (w : World) : (Op.equalIn 10000 25 (.agg #[.int .u64 (wd a 0 : Int), .int .u64 (wd a 1 : Int), .int .u64 (wd a 2 : Int), .int .u64 (wd a 3 : Int)]) (.agg #[.int .u64 (wd a 0 : Int), .int .u64 (wd a 1 : Int), .int .u64 (wd a 2 : Int), .int .u64 (wd a 3 : Int)])).run Try.prog w = .ok true w := by
  rw [eql_num]
  simp
set_option maxRecDepth 20000 in
set_option maxHeartbeats 8000000 in
theorem scalarReads_w (s : ByteArray) (w : World) : Calls Try.prog 3 #[.string s] w fun e w' => e = .returned (.bool true) ∧ Below w.heap.size w w' := by
  by_cases h1 : 100 < s.size
  · have p1 : (100 : Int) < (s.size : Int) := by omega
    go_enter Try.func3, Try.ntmps3
    go_wp2_with fail
    refine (lives22 _).mono ?_
    rintro e w1 ⟨rfl, hb⟩
    go_wp2_with fail
    go_ret
    exact ⟨rfl, hb⟩
  · have p1 : ¬ (100 : Int) < (s.size : Int) := by omega
    obtain ⟨N1, E1, hK1, hN1, f1, f2, f3⟩ := scof_all s
    have K1 := Lib.hid hK1
    have KLv := Lib.hid lives22
    have HF1 := Lib.hid f1
    have HF2 := Lib.hid f2
    have HF3 := Lib.hid f3
    clear hK1 f1 f2 f3
    by_cases h2 : 64 < s.size
    · have p2 : (64 : Int) < (s.size : Int) := by omega
      obtain ⟨hN0, rfl⟩ := HF1.out (by omega)
      have K2 : Hid (∀ w, Calls Try.prog 7 #[.string s] w fun e w' => e = .returned (.tuple #[numV N1, .int .i64 4]) ∧ Below w.heap.size w w') := fun w => by rw [hN0]; exact reduce_long s w h2
      have K3 := Lib.hid (fun w => isz_any N1 w hN1 hN0)
      simp only [numV_agg] at K1 K2
      clear HF1 HF2 HF3 h1 h2 hN1 hN0
      go_enter Try.func3, Try.ntmps3
      go_wp2_with fail
      refine (K1.out _).mono ?_
      rintro e w1 ⟨rfl, hb1⟩
      have R1 : IsA (w1.alloc (.cells #[.int .u64 (wd N1 0 : Int), .int .u64 (wd N1 1 : Int), .int .u64 (wd N1 2 : Int), .int .u64 (wd N1 3 : Int)] 25)) w1.heap.size N1 25 := alloc_new w1 _
      have B1 := gr_alloc hb1 (.cells #[.int .u64 (wd N1 0 : Int), .int .u64 (wd N1 1 : Int), .int .u64 (wd N1 2 : Int), .int .u64 (wd N1 3 : Int)] 25)
      have HR1 := Lib.hid R1
      have HB1 := Lib.hid B1
      clear R1 B1 hb1
      go_wp2_with fail
      refine (K2.out _).mono ?_
      rintro e w2 ⟨rfl, hb2⟩
      have R2 := (HR1.out.keep hb2).alloc (.cells #[.int .u64 (wd N1 0 : Int), .int .u64 (wd N1 1 : Int), .int .u64 (wd N1 2 : Int), .int .u64 (wd N1 3 : Int)] 25)
      have S2 : IsA (w2.alloc (.cells #[.int .u64 (wd N1 0 : Int), .int .u64 (wd N1 1 : Int), .int .u64 (wd N1 2 : Int), .int .u64 (wd N1 3 : Int)] 25)) w2.heap.size N1 25 := alloc_new w2 _
      have B2 := gr_alloc (HB1.out.trans (hb2.mono HB1.out.size)) (.cells #[.int .u64 (wd N1 0 : Int), .int .u64 (wd N1 1 : Int), .int .u64 (wd N1 2 : Int), .int .u64 (wd N1 3 : Int)] 25)
      obtain ⟨⟨d0, d1, d2, d3⟩, -⟩ := fourV R2
      have HR2 := Lib.hid R2
      have HS2 := Lib.hid S2
      have HB2 := Lib.hid B2
      clear R2 S2 B2 hb2 HR1 HB1 K1 K2
      go_wp2_with fail
      refine (K3.out _).mono ?_
      rintro e w3 ⟨rfl, hb3⟩
      have S3 := HS2.out.keep hb3
      have B3 := Lib.hid (HB2.out.trans (hb3.mono HB2.out.size))
      obtain ⟨⟨e0, e1, e2, e3⟩, -⟩ := fourV S3
      clear HR2 HS2 HB2 hb3 S3
      go_wp2_with fail
      refine (K3.out _).mono ?_
      rintro e w4 ⟨rfl, hb4⟩
      have B4 := Lib.hid (B3.out.trans (hb4.mono B3.out.size))
      clear B3 hb4
      go_wp2_with fail
      refine (KLv.out _).mono ?_
      rintro e w5 ⟨rfl, hb5⟩
      have B5 := Lib.hid (B4.out.trans (hb5.mono B4.out.size))
      clear B4 hb5
      go_wp2_with fail
      go_ret
      exact ⟨rfl, B5.out⟩
    · have p2 : ¬ (64 : Int) < (s.size : Int) := by omega
      obtain ⟨M, hM⟩ : ∃ M, leN s.data.toList % LN = M := ⟨_, rfl⟩
      have K2 : Hid (∀ w, Calls Try.prog 7 #[.string s] w fun e w' => e = .returned (.tuple #[numV M, .int .i64 0]) ∧ Below w.heap.size w w') := fun w => by rw [← hM]; exact reduce_any s w (by omega)
      have KR : Hid (∀ w, Calls Try.prog 9 #[.string s] w fun e w' => e = .returned (numV M) ∧ Below w.heap.size w w') := fun w => by rw [← hM]; exact rreduce_any s w (by omega)
      have HM := Lib.hid hM
      have KL := Lib.hid l_any
      have KO := Lib.hid order_any
      have KT := Lib.hid (fun q la ca w h => rto0 q la ca LN w h LN_lt)
      have KOS := Lib.hid (fun w (h : s.size ≠ 32) => of_short s w h)
      have KOA := Lib.hid (fun w (h : s.size = 32) => of_any s w h)
      have KB := Lib.hid (fun n w h => rbelow_any n w h)
      have kq1 := eql_same M
      have kq2 := eql_same LN
      simp only [numV_agg] at K1 K2 KR KL KT KOS KOA KB
      clear h1 h2 hM
      go_enter Try.func3, Try.ntmps3
      go_wp2_with fail
      refine (K1.out _).mono ?_
      rintro e w1 ⟨rfl, hb1⟩
      have R1 : IsA (w1.alloc (.cells #[.int .u64 (wd N1 0 : Int), .int .u64 (wd N1 1 : Int), .int .u64 (wd N1 2 : Int), .int .u64 (wd N1 3 : Int)] 25)) w1.heap.size N1 25 := alloc_new w1 _
      have B1 := gr_alloc hb1 (.cells #[.int .u64 (wd N1 0 : Int), .int .u64 (wd N1 1 : Int), .int .u64 (wd N1 2 : Int), .int .u64 (wd N1 3 : Int)] 25)
      have HR1 := Lib.hid R1
      have HB1 := Lib.hid B1
      clear R1 B1 hb1
      go_wp2_with fail
      refine (K2.out _).mono ?_
      rintro e w2 ⟨rfl, hb2⟩
      have R2 := Lib.hid ((HR1.out.keep hb2).alloc (.cells #[.int .u64 (wd M 0 : Int), .int .u64 (wd M 1 : Int), .int .u64 (wd M 2 : Int), .int .u64 (wd M 3 : Int)] 25))
      have S2 : Hid (IsA (w2.alloc (.cells #[.int .u64 (wd M 0 : Int), .int .u64 (wd M 1 : Int), .int .u64 (wd M 2 : Int), .int .u64 (wd M 3 : Int)] 25)) w2.heap.size M 25) := (alloc_new w2 _ :)
      have B2 := Lib.hid (gr_alloc (HB1.out.trans (hb2.mono HB1.out.size)) (.cells #[.int .u64 (wd M 0 : Int), .int .u64 (wd M 1 : Int), .int .u64 (wd M 2 : Int), .int .u64 (wd M 3 : Int)] 25))
      clear hb2 HR1 HB1 K1 K2
      go_wp2_with fail
      generalize w2.alloc (.cells #[.int .u64 (wd M 0 : Int), .int .u64 (wd M 1 : Int), .int .u64 (wd M 2 : Int), .int .u64 (wd M 3 : Int)] 25) = Y at R2 S2 B2 ⊢
      obtain ⟨⟨p0, p1', p2', p3⟩, _⟩ := fourV S2.out
      go_region_held3 (fun w' => w'.cell? ⟨w2.heap.size, 0, none⟩ = some (.int .u64 (wd M 0 : Int)) ∧ w'.cell? ⟨w2.heap.size, 1, none⟩ = some (.int .u64 (wd M 1 : Int)) ∧ w'.cell? ⟨w2.heap.size, 2, none⟩ = some (.int .u64 (wd M 2 : Int)) ∧ w'.cell? ⟨w2.heap.size, 3, none⟩ = some (.int .u64 (wd M 3 : Int))) (first | (with_reducible exact ⟨p0, p1', p2', p3⟩) | (with_reducible exact cells4 s3) | (with_reducible exact cells4 s4) | (with_reducible exact cells4 s5) | (with_reducible exact cells4 s6) | go_keep) (first
        | (go_at_call 9; go_must (refine (KR.out _).mono ?_); rintro e w3 ⟨rfl, hb3⟩
           have r3 := (show IsA Y.drew _ _ _ from R2.out).keep hb3
           have s3 := (show IsA Y.drew _ _ _ from S2.out).keep hb3
           have B3 := B2.out.drew.trans (hb3.mono B2.out.size)
           obtain ⟨⟨k0, k1, k2, k3⟩, _⟩ := fourV s3)
        | (go_at_call 10; go_must (refine (KL.out _).mono ?_); rintro e w4 ⟨rfl, hb4⟩
           have r4 := r3.keep hb4
           have s4 := s3.keep hb4
           have B4 := B3.trans (hb4.mono B3.size))
        | (go_at_call 12; go_must (refine (KO.out _).mono ?_); rintro e w5 ⟨g5, rfl, ho5, hg5, hb5⟩
           have r5 := r4.keep hb5
           have s5 := s4.keep hb5
           have B5 := B4.trans (hb5.mono B4.size)
           have hi5 := ho5.is 16 (Nat.le_refl _))
        | (go_at_call 11; go_must (refine (KT.out _ _ _ _ hi5).mono ?_); rintro e w6 ⟨rfl, hb6⟩
           have r6 := r5.keep hb6
           have s6 := s5.keep hb6
           have B6 := B5.trans (hb6.mono B5.size)))
      all_goals
        have HR6 := Lib.hid r6
        have HS6 := Lib.hid s6
        have HB6 := Lib.hid B6
        clear r3 r4 r5 r6 s3 s4 s5 s6 B3 B4 B5 B6 hb3 hb4 hb5 hb6 ho5 hi5 hg5 k0 k1 k2 k3 p0 p1' p2' p3 R2 S2 B2 KR KL KO KT
        by_cases hsz : s.size = 32
        · have HLn : Hid (leN s.data.toList < B64 ^ 4) := leN_len32 _ (by rw [← Lib.size_eq s]; omega)
          have K9 : Hid (∀ w, Calls Try.prog 13 #[.string s] w fun e w' => e = .returned (.tuple #[.agg #[.int .u64 (wd (leN s.data.toList) 0 : Int), .int .u64 (wd (leN s.data.toList) 1 : Int), .int .u64 (wd (leN s.data.toList) 2 : Int), .int .u64 (wd (leN s.data.toList) 3 : Int)], .int .i64 0]) ∧ Below w.heap.size w w') := fun w => KOA.out w hsz
          have KB2 := Lib.hid (fun w => KB.out (leN s.data.toList) w HLn.out)
          have HF2' := Lib.hid (HF2.out hsz)
          have HF3' := Lib.hid (HF3.out hsz)
          clear HF1 HF2 HF3 KOA KOS KB hsz
          obtain ⟨n, hn⟩ : ∃ n, leN s.data.toList = n := ⟨_, rfl⟩
          rw [hn] at K9 KB2 HF2' HF3' HM HLn
          clear hn
          go_wp2_with fail
          refine (K9.out _).mono ?_
          rintro e w7 ⟨rfl, hb7⟩
          have T7 : Hid (IsA (w7.alloc (.cells #[.int .u64 (wd n 0 : Int), .int .u64 (wd n 1 : Int), .int .u64 (wd n 2 : Int), .int .u64 (wd n 3 : Int)] 25)) w7.heap.size n 25) := (alloc_new w7 _ :)
          have R7 := Lib.hid ((HR6.out.keep hb7).alloc (.cells #[.int .u64 (wd n 0 : Int), .int .u64 (wd n 1 : Int), .int .u64 (wd n 2 : Int), .int .u64 (wd n 3 : Int)] 25))
          have S7 := Lib.hid ((HS6.out.keep hb7).alloc (.cells #[.int .u64 (wd n 0 : Int), .int .u64 (wd n 1 : Int), .int .u64 (wd n 2 : Int), .int .u64 (wd n 3 : Int)] 25))
          have B7 := Lib.hid (gr_alloc (HB6.out.trans (hb7.mono HB6.out.size)) (.cells #[.int .u64 (wd n 0 : Int), .int .u64 (wd n 1 : Int), .int .u64 (wd n 2 : Int), .int .u64 (wd n 3 : Int)] 25))
          clear hb7 HR6 HS6 HB6 K9
          obtain ⟨⟨t0, t1, t2, t3⟩, -⟩ := fourV T7.out
          by_cases hl : n < LN
          · obtain ⟨e1, rfl⟩ := HF2'.out hl
            subst e1
            have hMn : N1 = M := by rw [← HM.out, Nat.mod_eq_of_lt hl]
            subst hMn
            have hd : decide (N1 < LN) = true := decide_eq_true hl
            rw [hd] at KB2
            clear hd HF2' HF3' HM HLn
            go_wp2_with fail
            refine (KB2.out _).mono ?_
            rintro e w8 ⟨rfl, hb8⟩
            have B8 := Lib.hid (B7.out.trans (hb8.mono B7.out.size))
            obtain ⟨⟨t0', t1', t2', t3'⟩, -⟩ := fourV (T7.out.keep hb8)
            obtain ⟨⟨r0, r1, r2, r3⟩, -⟩ := fourV (R7.out.keep hb8)
            obtain ⟨⟨s0, s1, s2, s3⟩, -⟩ := fourV (S7.out.keep hb8)
            clear hb8 T7 R7 S7 B7 t0 t1 t2 t3
            go_wp2_with fail
            refine (KLv.out _).mono ?_
            rintro e wz ⟨rfl, hbz⟩
            have BZ := Lib.hid (B8.out.trans (hbz.mono B8.out.size))
            clear hbz
            go_wp2_with fail
            go_ret
            exact ⟨rfl, BZ.out⟩
          · obtain ⟨e1, rfl⟩ := HF3'.out hl
            have hd : decide (n < LN) = false := decide_eq_false hl
            rw [hd] at KB2
            have K3 := Lib.hid (fun w => isz_any N1 w hN1 e1)
            clear hd HF2' HF3' HM HLn e1
            go_wp2_with fail
            refine (KB2.out _).mono ?_
            rintro e w8 ⟨rfl, hb8⟩
            have B8 := Lib.hid (B7.out.trans (hb8.mono B7.out.size))
            obtain ⟨⟨r0, r1, r2, r3⟩, -⟩ := fourV (R7.out.keep hb8)
            clear hb8 T7 R7 S7 B7 t0 t1 t2 t3
            go_wp2_with fail
            refine (K3.out _).mono ?_
            rintro e w9 ⟨rfl, hb9⟩
            have B9 := Lib.hid (B8.out.trans (hb9.mono B8.out.size))
            clear hb9 B8
            go_wp2_with fail
            refine (KLv.out _).mono ?_
            rintro e wz ⟨rfl, hbz⟩
            have BZ := Lib.hid (B9.out.trans (hbz.mono B9.out.size))
            clear hbz
            go_wp2_with fail
            go_ret
            exact ⟨rfl, BZ.out⟩
        · obtain ⟨e1, rfl⟩ := HF1.out hsz
          have K9 : Hid (∀ w, Calls Try.prog 13 #[.string s] w fun e w' => e = .returned (.tuple #[.agg #[.int .u64 (wd N1 0 : Int), .int .u64 (wd N1 1 : Int), .int .u64 (wd N1 2 : Int), .int .u64 (wd N1 3 : Int)], .int .i64 1]) ∧ Below w.heap.size w w') := fun w => by
            have h := KOS.out w hsz
            rw [e1]
            exact h
          have K3 := Lib.hid (fun w => isz_any N1 w hN1 e1)
          clear e1 HF1 HF2 HF3 KOA KOS KB hsz HM
          go_wp2_with fail
          refine (K9.out _).mono ?_
          rintro e w7 ⟨rfl, hb7⟩
          have R7 := Lib.hid ((HR6.out.keep hb7).alloc (.cells #[.int .u64 (wd N1 0 : Int), .int .u64 (wd N1 1 : Int), .int .u64 (wd N1 2 : Int), .int .u64 (wd N1 3 : Int)] 25))
          have B7 := Lib.hid (gr_alloc (HB6.out.trans (hb7.mono HB6.out.size)) (.cells #[.int .u64 (wd N1 0 : Int), .int .u64 (wd N1 1 : Int), .int .u64 (wd N1 2 : Int), .int .u64 (wd N1 3 : Int)] 25))
          clear hb7 HR6 HS6 HB6 K9
          obtain ⟨⟨r0, r1, r2, r3⟩, -⟩ := fourV R7.out
          go_wp2_with fail
          refine (K3.out _).mono ?_
          rintro e w9 ⟨rfl, hb9⟩
          have B9 := Lib.hid (B7.out.trans (hb9.mono B7.out.size))
          clear hb9 B7 R7
          go_wp2_with fail
          refine (KLv.out _).mono ?_
          rintro e wz ⟨rfl, hbz⟩
          have BZ := Lib.hid (B9.out.trans (hbz.mono B9.out.size))
          clear hbz
          go_wp2_with fail
          go_ret
          exact ⟨rfl, BZ.out⟩
theorem scalarReads_walk (s : ByteArray) (w : World) (_ : s.size ≤ maxLen) :
    Calls Try.prog 3 #[.string s] w fun e w' => e = .returned (.bool true) ∧ Below w.heap.size w w' := scalarReads_w s w
end Go.Proofs.Ythalmomheecpcaa
