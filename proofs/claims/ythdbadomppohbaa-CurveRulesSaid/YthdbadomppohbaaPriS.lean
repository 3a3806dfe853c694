/- The reference's Pow (layer 19): its contract. -/
import Derived.Test.YthdbadomppohbaaPriR
namespace Go.Proofs.Ythdbadomppohbaa
set_option maxRecDepth 20000
set_option linter.unusedSimpArgs false
set_option linter.unusedVariables false
open Go.RowKit
def outN (a k i : Nat) : Nat := a ^ (k % 2 ^ i) % PN
def sqN (a i : Nat) : Nat := a ^ (2 ^ i) % PN
theorem outN_lt (a k i : Nat) : outN a k i < PN := Nat.mod_lt _ PN_pos
theorem sqN_lt (a i : Nat) : sqN a i < PN := Nat.mod_lt _ PN_pos
theorem sqN_next (a i : Nat) : sqN a (i + 1) = sqN a i * sqN a i % PN := by
  unfold sqN
  rw [← Nat.mul_mod, ← Nat.pow_add, Nat.pow_succ, Nat.mul_two]
theorem outN_next (a k i : Nat) : outN a k (i + 1) = if bitN k i = 1 then outN a k i * sqN a i % PN else outN a k i := by
  have h : k % 2 ^ (i + 1) = k % 2 ^ i + 2 ^ i * bitN k i := by
    unfold bitN
    rw [Nat.pow_succ, Nat.mod_mul]
  have hb := bitN_lt k i
  unfold outN sqN
  rw [h]
  split
  · rename_i hb1
    rw [hb1, Nat.mul_one, Nat.pow_add, ← Nat.mul_mod]
  · rename_i hb1
    have h0 : bitN k i = 0 := by omega
    rw [h0, Nat.mul_zero, Nat.add_zero]
theorem outN_0 (a k : Nat) : outN a k 0 = 1 := by
  unfold outN
  rw [Nat.pow_zero, Nat.mod_one, Nat.pow_zero]
  decide +kernel
theorem sqN_0 (a : Nat) (ha : a < PN) : sqN a 0 = a := by
  unfold sqN
  rw [Nat.pow_zero, Nat.pow_one, Nat.mod_eq_of_lt ha]
theorem OwnN.far {w : World} {b c len n : Nat} {v0 v1 v2 v3 : Value} (h : OwnN w b len n) (hne : b ≠ c) : OwnN ((((w.setCell ⟨c, 0, none⟩ v0).setCell ⟨c, 1, none⟩ v1).setCell ⟨c, 2, none⟩ v2).setCell ⟨c, 3, none⟩ v3) b len n := ⟨far_keep h.1 hne, h.2⟩
theorem far_heap {w : World} {b c : Nat} {v0 v1 v2 v3 : Value} (hne : c ≠ b) : ((((w.setCell ⟨b, 0, none⟩ v0).setCell ⟨b, 1, none⟩ v1).setCell ⟨b, 2, none⟩ v2).setCell ⟨b, 3, none⟩ v3).heap[c]? = w.heap[c]? := set4_far hne
theorem B256 (k : Nat) (hk : k < B64 ^ 4) : k % 2 ^ 256 = k := Nat.mod_eq_of_lt (by rw [show (2 : Nat) ^ 256 = B64 ^ 4 by decide +kernel]; exact hk)
set_option maxHeartbeats 8000000 in
theorem rpow_any (a k : Nat) (w : World) (ha : a < PN) (hk : k < B64 ^ 4) : Calls Try.prog 71 #[numV a, numV k] w fun e w' => e = .returned (numV (a ^ k % PN)) ∧ Below w.heap.size w w' := by
  have KO := Lib.hid (fun w => rof_any k w hk)
  have KS := Lib.hid (fun w => rsmallp_any 1 w (by decide))
  obtain ⟨c1, hc1⟩ : ∃ c1, c1 = 1 := ⟨1, rfl⟩
  have KS : Hid (∀ w, Calls Try.prog 40 #[.int .u64 1] w fun e w' => e = .returned (numV c1) ∧ Below w.heap.size w w') := fun w => by rw [hc1]; exact KS.out w
  have KB := Lib.hid (fun g i w (h : OwnN w g 16 k) (hi : i ≤ 100000) => rbit_any (some ⟨g, 0, none⟩) 16 16 k i w (h.is 16 (Nat.le_refl _)) hi)
  have KM := Lib.hid rmulp_any
  have hend : outN a k 256 = a ^ k % PN := by unfold outN; rw [B256 k hk]
  have H0 := Lib.hid (And.intro ((outN_0 a k).trans hc1.symm) (sqN_0 a ha))
  have HE := Lib.hid hend
  rw [← hend]
  obtain ⟨xa, xk, xr, xz, xB⟩ := a3r_at a k w
  simp only [numV_agg] at KO KS KM ⊢
  obtain ⟨⟨p0, p1, p2, p3⟩, _⟩ := fourV xa
  obtain ⟨⟨q0, q1, q2, q3⟩, _⟩ := fourV xk
  clear ha hk hc1 hend
  go_enter Try.func71, Try.ntmps71
  go_wp2_with fail
  change Calls _ _ _ (A3r a k w) _
  generalize A3r a k w = X at *
  refine (KO.out X).mono ?_
  rintro e w1 ⟨g, rfl, ho, hg, hb1⟩
  have XA := Lib.hid (xa.keep hb1)
  have XR := Lib.hid (xr.keep hb1)
  have XB := Lib.hid (b_callsS hb1 xB (Nat.le_refl _))
  have HO := Lib.hid ho
  have hgs : g < w1.heap.size := lt_blk ho.1
  have hs1 : w.heap.size + 3 ≤ w1.heap.size := by have := hb1.size; omega
  clear xa xk xr xB hb1 ho p0 p1 p2 p3 q0 q1 q2 q3 xz hg
  go_wp2_with fail
  refine (KS.out w1).mono ?_
  rintro e w2 ⟨rfl, hb2⟩
  have hs2 := hb2.size
  have xa2 := (XA.out.keep hb2).alloc (.cells #[.int .u64 (wd c1 0 : Int), .int .u64 (wd c1 1 : Int), .int .u64 (wd c1 2 : Int), .int .u64 (wd c1 3 : Int)] 23)
  have XR2 := Lib.hid ((XR.out.keep hb2).alloc (.cells #[.int .u64 (wd c1 0 : Int), .int .u64 (wd c1 1 : Int), .int .u64 (wd c1 2 : Int), .int .u64 (wd c1 3 : Int)] 23))
  have XB2 := Lib.hid (b_alloc (b_callsS hb2 XB.out (Nat.le_refl _)) (.cells #[.int .u64 (wd c1 0 : Int), .int .u64 (wd c1 1 : Int), .int .u64 (wd c1 2 : Int), .int .u64 (wd c1 3 : Int)] 23))
  have HO2 := Lib.hid ((HO.out.below hb2).below ((Below.refl w2.heap.size w2).alloc (Nat.le_refl _) (.cells #[.int .u64 (wd c1 0 : Int), .int .u64 (wd c1 1 : Int), .int .u64 (wd c1 2 : Int), .int .u64 (wd c1 3 : Int)] 23)))
  have N6 : Hid (IsA (w2.alloc (.cells #[.int .u64 (wd c1 0 : Int), .int .u64 (wd c1 1 : Int), .int .u64 (wd c1 2 : Int), .int .u64 (wd c1 3 : Int)] 23)) w2.heap.size c1 23) := (alloc_new w2 _ :)
  have hz2 : (w2.alloc (.cells #[.int .u64 (wd c1 0 : Int), .int .u64 (wd c1 1 : Int), .int .u64 (wd c1 2 : Int), .int .u64 (wd c1 3 : Int)] 23)).heap.size = w2.heap.size + 1 := alloc_size1 _ _
  have hz2' : w2.heap.size + 1 ≤ (w2.alloc (.cells #[.int .u64 (wd c1 0 : Int), .int .u64 (wd c1 1 : Int), .int .u64 (wd c1 2 : Int), .int .u64 (wd c1 3 : Int)] 23)).heap.size := by omega
  obtain ⟨⟨p0, p1, p2, p3⟩, _⟩ := fourV xa2
  clear hz2 XA XR XB HO hb2 xa2
  have hX3 : Hid (IsA ((w2.alloc (.cells #[.int .u64 (wd c1 0 : Int), .int .u64 (wd c1 1 : Int), .int .u64 (wd c1 2 : Int), .int .u64 (wd c1 3 : Int)] 23)).alloc (.cells #[.int .u64 (wd a 0 : Int), .int .u64 (wd a 1 : Int), .int .u64 (wd a 2 : Int), .int .u64 (wd a 3 : Int)] 23)) (w2.alloc (.cells #[.int .u64 (wd c1 0 : Int), .int .u64 (wd c1 1 : Int), .int .u64 (wd c1 2 : Int), .int .u64 (wd c1 3 : Int)] 23)).heap.size a 23) := (alloc_new _ _ :)
  go_wp2_with fail
  have XR3 := Lib.hid (XR2.out.alloc (.cells #[.int .u64 (wd a 0 : Int), .int .u64 (wd a 1 : Int), .int .u64 (wd a 2 : Int), .int .u64 (wd a 3 : Int)] 23))
  have XB3 := Lib.hid (b_alloc XB2.out (.cells #[.int .u64 (wd a 0 : Int), .int .u64 (wd a 1 : Int), .int .u64 (wd a 2 : Int), .int .u64 (wd a 3 : Int)] 23))
  have HO3 := Lib.hid (HO2.out.below ((Below.refl (w2.alloc (.cells #[.int .u64 (wd c1 0 : Int), .int .u64 (wd c1 1 : Int), .int .u64 (wd c1 2 : Int), .int .u64 (wd c1 3 : Int)] 23)).heap.size _).alloc (Nat.le_refl _) (.cells #[.int .u64 (wd a 0 : Int), .int .u64 (wd a 1 : Int), .int .u64 (wd a 2 : Int), .int .u64 (wd a 3 : Int)] 23)))
  have N6b := Lib.hid (N6.out.alloc (.cells #[.int .u64 (wd a 0 : Int), .int .u64 (wd a 1 : Int), .int .u64 (wd a 2 : Int), .int .u64 (wd a 3 : Int)] 23))
  have N7 : Hid (IsA ((w2.alloc (.cells #[.int .u64 (wd c1 0 : Int), .int .u64 (wd c1 1 : Int), .int .u64 (wd c1 2 : Int), .int .u64 (wd c1 3 : Int)] 23)).alloc (.cells #[.int .u64 (wd a 0 : Int), .int .u64 (wd a 1 : Int), .int .u64 (wd a 2 : Int), .int .u64 (wd a 3 : Int)] 23)) (w2.heap.size + 1) a 23) := by
    have h := hX3.out
    rw [alloc_size1] at h
    exact h
  clear XR2 XB2 HO2 N6 hX3 p0 p1 p2 p3
  generalize (w2.alloc (.cells #[.int .u64 (wd c1 0 : Int), .int .u64 (wd c1 1 : Int), .int .u64 (wd c1 2 : Int), .int .u64 (wd c1 3 : Int)] 23)).alloc (.cells #[.int .u64 (wd a 0 : Int), .int .u64 (wd a 1 : Int), .int .u64 (wd a 2 : Int), .int .u64 (wd a 3 : Int)] 23) = V at *
  have hb6 : w.heap.size + 3 ≤ w2.heap.size := by omega
  have hgb : g < w2.heap.size := by omega
  clear hz2'
  generalize w2.heap.size = b6 at *
  go_loopw [8] (fun i wr => ∃ j : Nat, j ≤ 256 ∧ i = .int .i64 (j : Int) ∧ IsA wr b6 (outN a k j) 23 ∧ IsA wr (b6 + 1) (sqN a j) 23 ∧ OwnN wr g 16 k ∧ g < b6 ∧ IsA wr (w.heap.size + 1 + 1) 0 23 ∧ Below w.heap.size w wr) (fun i _ => 256 - (Go.RowKit.intOf i).toNat)
  case atStart => exact ⟨0, by omega, rfl, by rw [H0.out.1]; exact N6b.out, by rw [H0.out.2]; exact N7.out, HO3.out, hgb, XR3.out, XB3.out⟩
  case round =>
    obtain ⟨j, hj, rfl, r6, r7, hok, hgb, rr, rb⟩ := hrel
    clear N6b N7 HO3 XR3 XB3 H0 hgs hs2
    have hbs := rb.size
    have hl7 := lt_blk r7
    by_cases hlt : j < 256
    · have q1 : (j : Int) < 256 := by omega
      have KB1 := Lib.hid (KB.out g j wr hok (by omega))
      have hnx := outN_next a k j
      have hsx := sqN_next a j
      have ho1 := outN_lt a k j
      have hs1' := sqN_lt a j
      have hb2 := bitN_lt k j
      have hbn : ((k / 2 ^ j % 2 : Nat) : Int) = (bitN k j : Int) := rfl
      rw [hbn] at KB1
      obtain ⟨bt, hbt⟩ : ∃ bt, bitN k j = bt := ⟨_, rfl⟩
      rw [hbt] at KB1 hnx hb2
      obtain ⟨O, hO⟩ : ∃ O, outN a k j = O := ⟨_, rfl⟩
      obtain ⟨Q, hQ⟩ : ∃ Q, sqN a j = Q := ⟨_, rfl⟩
      rw [hO] at r6 hnx ho1
      rw [hQ] at r7 hnx hsx hs1'
      have KMO := Lib.hid (fun w => KM.out O Q w (of_PN ho1) (of_PN hs1'))
      have KMQ := Lib.hid (fun w => KM.out Q Q w (of_PN hs1') (of_PN hs1'))
      obtain ⟨O2, hO2⟩ : ∃ O2, O * Q % PN = O2 := ⟨_, rfl⟩
      obtain ⟨Q2, hQ2⟩ : ∃ Q2, Q * Q % PN = Q2 := ⟨_, rfl⟩
      rw [hO2] at KMO hnx
      rw [hQ2] at KMQ hsx
      have R6 := Lib.hid r6
      have R7 := Lib.hid r7
      have HOK := Lib.hid hok
      have RR := Lib.hid rr
      have RB := Lib.hid rb
      have HNX := Lib.hid hnx
      have HSX := Lib.hid hsx
      clear hbn hbt hO hQ hO2 hQ2 r6 r7 hok rr rb hnx hsx ho1 hs1'
      go_wp2_with fail
      refine KB1.out.mono ?_
      rintro e w3 ⟨rfl, rfl⟩
      clear KB1
      by_cases h1 : bt = 1
      · have b1 : (bt : Int) = 1 := by omega
        rw [b1]
        have hN := HNX.out
        rw [if_pos h1] at hN
        have HN := Lib.hid hN
        clear b1 h1 hN HNX hb2
        obtain ⟨⟨p0, p1, p2, p3⟩, _⟩ := fourV R6.out
        obtain ⟨⟨q0, q1', q2, q3⟩, _⟩ := fourV R7.out
        go_wp2_with fail
        refine (KMO.out _).mono ?_
        rintro e w4 ⟨rfl, hb4⟩
        have hs4 := hb4.size
        have r6 := R6.out.keep hb4
        obtain ⟨⟨d0, d1, d2, d3⟩, e0, e1, e2, e3⟩ := fourV r6
        have R6' := Lib.hid (isA_set (n := O2) r6)
        have r7 := (R7.out.keep hb4).far (c := b6) (v0 := .int .u64 (wd O2 0 : Int)) (v1 := .int .u64 (wd O2 1 : Int)) (v2 := .int .u64 (wd O2 2 : Int)) (v3 := .int .u64 (wd O2 3 : Int)) (by omega)
        have HOK' := Lib.hid ((HOK.out.below hb4).far (c := b6) (v0 := .int .u64 (wd O2 0 : Int)) (v1 := .int .u64 (wd O2 1 : Int)) (v2 := .int .u64 (wd O2 2 : Int)) (v3 := .int .u64 (wd O2 3 : Int)) (by omega))
        have RR' := Lib.hid ((RR.out.keep hb4).far (c := b6) (v0 := .int .u64 (wd O2 0 : Int)) (v1 := .int .u64 (wd O2 1 : Int)) (v2 := .int .u64 (wd O2 2 : Int)) (v3 := .int .u64 (wd O2 3 : Int)) (by omega))
        have RB' := Lib.hid (b_set4 (b_callsS hb4 RB.out (Nat.le_refl _)) (v0 := .int .u64 (wd O2 0 : Int)) (v1 := .int .u64 (wd O2 1 : Int)) (v2 := .int .u64 (wd O2 2 : Int)) (v3 := .int .u64 (wd O2 3 : Int)) (b := b6) (by omega))
        have hZs : ((((w4.setCell ⟨b6, 0, none⟩ (.int .u64 (wd O2 0 : Int))).setCell ⟨b6, 1, none⟩ (.int .u64 (wd O2 1 : Int))).setCell ⟨b6, 2, none⟩ (.int .u64 (wd O2 2 : Int))).setCell ⟨b6, 3, none⟩ (.int .u64 (wd O2 3 : Int))).heap.size = w4.heap.size := by simp only [set_size]
        clear R6 R7 HOK RR RB r6 hb4 p0 p1 p2 p3 q0 q1' q2 q3
        have hf : b6 + 1 ≠ b6 := by omega
        have r7w := r7
        rw [IsA, far_heap hf] at r7w
        obtain ⟨⟨c0, c1', c2, c3⟩, _⟩ := fourV r7w
        have R7' := Lib.hid r7
        clear r7 r7w
        go_wp2_with fail
        generalize (((w4.setCell ⟨b6, 0, none⟩ (.int .u64 (wd O2 0 : Int))).setCell ⟨b6, 1, none⟩ (.int .u64 (wd O2 1 : Int))).setCell ⟨b6, 2, none⟩ (.int .u64 (wd O2 2 : Int))).setCell ⟨b6, 3, none⟩ (.int .u64 (wd O2 3 : Int)) = Z at *
        refine (KMQ.out Z).mono ?_
        rintro e w5 ⟨rfl, hb5⟩
        have hs5 := hb5.size
        have r7 := R7'.out.keep hb5
        clear d0 d1 d2 d3 e0 e1 e2 e3
        obtain ⟨⟨d0, d1, d2, d3⟩, e0, e1, e2, e3⟩ := fourV r7
        have R7'' := Lib.hid (isA_set (n := Q2) r7)
        have R6'' := Lib.hid ((R6'.out.keep hb5).far (c := b6 + 1) (v0 := .int .u64 (wd Q2 0 : Int)) (v1 := .int .u64 (wd Q2 1 : Int)) (v2 := .int .u64 (wd Q2 2 : Int)) (v3 := .int .u64 (wd Q2 3 : Int)) (by omega))
        have HOK'' := Lib.hid ((HOK'.out.below hb5).far (c := b6 + 1) (v0 := .int .u64 (wd Q2 0 : Int)) (v1 := .int .u64 (wd Q2 1 : Int)) (v2 := .int .u64 (wd Q2 2 : Int)) (v3 := .int .u64 (wd Q2 3 : Int)) (by omega))
        have RR'' := Lib.hid ((RR'.out.keep hb5).far (c := b6 + 1) (v0 := .int .u64 (wd Q2 0 : Int)) (v1 := .int .u64 (wd Q2 1 : Int)) (v2 := .int .u64 (wd Q2 2 : Int)) (v3 := .int .u64 (wd Q2 3 : Int)) (by omega))
        have RB'' := Lib.hid (b_set4 (b_callsS hb5 RB'.out (Nat.le_refl _)) (v0 := .int .u64 (wd Q2 0 : Int)) (v1 := .int .u64 (wd Q2 1 : Int)) (v2 := .int .u64 (wd Q2 2 : Int)) (v3 := .int .u64 (wd Q2 3 : Int)) (b := b6 + 1) (by omega))
        clear R6' R7' HOK' RR' RB' r7 hb5
        go_wp2_with fail
        go_roundw
        case rel => exact ⟨j + 1, by omega, congrArg (Value.int .i64) (by omega), by rw [HN.out]; exact R6''.out, by rw [HSX.out]; exact R7''.out, HOK''.out, hgb, RR''.out, RB''.out⟩
        case measure =>
          simp [Go.RowKit.intOf]
          omega
      · have b1 : (bt : Int) = 0 := by omega
        rw [b1]
        have hN := HNX.out
        rw [if_neg h1] at hN
        have HN := Lib.hid hN
        clear b1 h1 hN HNX hb2
        obtain ⟨⟨q0, q1', q2, q3⟩, _⟩ := fourV R7.out
        go_wp2_with fail
        refine (KMQ.out _).mono ?_
        rintro e w5 ⟨rfl, hb5⟩
        have hs5 := hb5.size
        have r7 := R7.out.keep hb5
        obtain ⟨⟨d0, d1, d2, d3⟩, e0, e1, e2, e3⟩ := fourV r7
        have R7'' := Lib.hid (isA_set (n := Q2) r7)
        have R6'' := Lib.hid ((R6.out.keep hb5).far (c := b6 + 1) (v0 := .int .u64 (wd Q2 0 : Int)) (v1 := .int .u64 (wd Q2 1 : Int)) (v2 := .int .u64 (wd Q2 2 : Int)) (v3 := .int .u64 (wd Q2 3 : Int)) (by omega))
        have HOK'' := Lib.hid ((HOK.out.below hb5).far (c := b6 + 1) (v0 := .int .u64 (wd Q2 0 : Int)) (v1 := .int .u64 (wd Q2 1 : Int)) (v2 := .int .u64 (wd Q2 2 : Int)) (v3 := .int .u64 (wd Q2 3 : Int)) (by omega))
        have RR'' := Lib.hid ((RR.out.keep hb5).far (c := b6 + 1) (v0 := .int .u64 (wd Q2 0 : Int)) (v1 := .int .u64 (wd Q2 1 : Int)) (v2 := .int .u64 (wd Q2 2 : Int)) (v3 := .int .u64 (wd Q2 3 : Int)) (by omega))
        have RB'' := Lib.hid (b_set4 (b_callsS hb5 RB.out (Nat.le_refl _)) (v0 := .int .u64 (wd Q2 0 : Int)) (v1 := .int .u64 (wd Q2 1 : Int)) (v2 := .int .u64 (wd Q2 2 : Int)) (v3 := .int .u64 (wd Q2 3 : Int)) (b := b6 + 1) (by omega))
        clear R6 R7 HOK RR RB r7 hb5 q0 q1' q2 q3
        go_wp2_with fail
        go_roundw
        case rel => exact ⟨j + 1, by omega, congrArg (Value.int .i64) (by omega), by rw [HN.out]; exact R6''.out, by rw [HSX.out]; exact R7''.out, HOK''.out, hgb, RR''.out, RB''.out⟩
        case measure =>
          simp [Go.RowKit.intOf]
          omega
    · obtain rfl : j = 256 := by omega
      obtain ⟨O, hO⟩ : ∃ O, outN a k 256 = O := ⟨_, rfl⟩
      rw [hO] at r6
      have HO2 := Lib.hid hO
      have xr := isA_zero' rr
      obtain ⟨⟨p0, p1, p2, p3⟩, _⟩ := fourV r6
      obtain ⟨⟨d0, d1, d2, d3⟩, e0, e1, e2, e3⟩ := fourV xr
      have KL := Lib.hid (load_arr (isA_set (n := O) xr))
      have BR := Lib.hid (b_set4 rb (v0 := .int .u64 (wd O 0 : Int)) (v1 := .int .u64 (wd O 1 : Int)) (v2 := .int .u64 (wd O 2 : Int)) (v3 := .int .u64 (wd O 3 : Int)) (b := w.heap.size + 1 + 1) (by omega))
      clear hO r6 r7 hok rr rb xr
      go_wp2_with fail
      exact bodyPost_ret (results_arr Try.results71 (by rfl) KL.out) rfl ⟨by rw [HO2.out]; rfl, BR.out⟩
end Go.Proofs.Ythdbadomppohbaa
