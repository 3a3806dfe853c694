/- The reference's Reduce and Below (layer 22): contracts. -/
import Derived.Test.YthalmomheecpcaaScaF
namespace Go.Proofs.Ythalmomheecpcaa
open Go.RowKit
def Z4 (w : World) : World := w.alloc (.cells #[.int .u64 0, .int .u64 0, .int .u64 0, .int .u64 0] 24)
theorem z4_at (w : World) : IsA (Z4 w) w.heap.size 0 24 ∧ (Z4 w).heap.size = w.heap.size + 1 ∧ Below w.heap.size w (Z4 w) := ⟨isA_zero (alloc_new w _), by unfold Z4; simp, gr_alloc (Below.refl _ _) _⟩
theorem rrem_ord2 (a : Option Addr) (la ca b n : Nat) (w : World) (ha : IsN w a la ca n) (hb : OwnN w b 16 LN) (sa : la ≤ 100) :
    Calls Try.prog 24 #[.slice a la ca, .slice (some ⟨b, 0, none⟩) 16 16] w fun e w' => ∃ g cap, ∃ len, e = .returned (.slice g len cap) ∧ IsN w' g len cap (n % LN) ∧ len ≤ 16 ∧ Below w.heap.size w w' :=
  rrem_any a (some ⟨b, 0, none⟩) la ca 16 16 n LN w ha (hb.is 16 (Nat.le_refl _)) LN_pos sa (by omega)
set_option maxHeartbeats 4000000 in
theorem rreduce_any (s : ByteArray) (w : World) (hs : s.size ≤ 100) :
    Calls Try.prog 9 #[.string s] w fun e w' => e = .returned (numV (leN s.data.toList % LN)) ∧ Below w.heap.size w w' := by
  have K1 := Lib.hid (fun w => limbs_any s w hs)
  have K2 := Lib.hid order_any
  have K3 := Lib.hid (fun q la ca b n w h1 h2 h3 => rrem_ord2 q la ca b n w h1 h2 h3)
  have K4 := Lib.hid (fun q la ca w h => rto0 q la ca (leN s.data.toList % LN) w h (mod_LN_lt _))
  obtain ⟨xr, xz, xB⟩ := z4_at w
  obtain ⟨R, hR⟩ : ∃ R, leN s.data.toList % LN = R := ⟨_, rfl⟩
  have HR := Lib.hid hR
  rw [hR] at K4 ⊢
  simp only [numV_agg] at K4 ⊢
  clear hR hs
  go_enter Try.func9, Try.ntmps9
  go_wp2_with fail
  change Calls _ _ _ (Z4 w) _
  generalize Z4 w = X at *
  refine (K1.out X).mono ?_
  rintro e w1 ⟨a1, c1, k1, rfl, hl1, hk1, hb1⟩
  have xr1 := xr.keep hb1
  have B1 := xB.trans (hb1.mono (by omega))
  go_wp2_with fail
  refine (K2.out w1).mono ?_
  rintro e w2 ⟨g2, rfl, ho2, hg2, hb2⟩
  have xr2 := xr1.keep hb2
  have B2 := B1.trans (hb2.mono B1.size)
  have hl2 := IsN_below hl1 hb2
  go_wp2_with fail
  refine (K3.out a1 k1 c1 g2 _ w2 hl2 ho2 (by omega)).mono ?_
  rintro e w3 ⟨g3, c3, n3, rfl, hl3, hn3, hb3⟩
  have xr3 := xr2.keep hb3
  have B3 := B2.trans (hb3.mono B2.size)
  rw [HR.out] at hl3
  go_wp2_with fail
  refine (K4.out g3 n3 c3 w3 hl3).mono ?_
  rintro e w4 ⟨rfl, hb4⟩
  have xr4 := isA_zero' (xr3.keep hb4)
  have B4 := B3.trans (hb4.mono B3.size)
  obtain ⟨⟨d0, d1, d2, d3⟩, e0, e1, e2, e3⟩ := fourV xr4
  have KL := Lib.hid (load_arr (isA_set (n := R) xr4))
  have BR := Lib.hid (set4_below (v0 := .int .u64 (wd R 0 : Int)) (v1 := .int .u64 (wd R 1 : Int)) (v2 := .int .u64 (wd R 2 : Int)) (v3 := .int .u64 (wd R 3 : Int)) B4 (b := w.heap.size) (Nat.le_refl _))
  clear xr xr1 xr2 xr3 xr4 B1 B2 B3 B4 xB hb1 hb2 hb3 hb4 hl1 hl2 hl3 ho2 K1 K2 K3 K4
  go_wp2_with fail
  exact bodyPost_ret (results_arr Try.results9 (by rfl) KL.out) rfl ⟨rfl, BR.out⟩
set_option maxHeartbeats 4000000 in
theorem rbelow_any (n : Nat) (w : World) (hn : n < B64 ^ 4) :
    Calls Try.prog 14 #[numV n] w fun e w' => e = .returned (.bool (decide (n < LN))) ∧ Below w.heap.size w w' := by
  have K1 := Lib.hid (fun w => rof_any n w hn)
  have K2 := Lib.hid order_any
  have K3 := Lib.hid (fun a b w (h1 : OwnN w a 16 n) (h2 : OwnN w b 16 LN) => rless_any (some ⟨a, 0, none⟩) (some ⟨b, 0, none⟩) 16 16 16 16 n LN w (h1.is 16 (Nat.le_refl _)) (h2.is 16 (Nat.le_refl _)))
  obtain ⟨D, hD⟩ : ∃ D, decide (n < LN) = D := ⟨_, rfl⟩
  rw [hD] at K3 ⊢
  simp only [numV_agg] at K1 ⊢
  clear hD hn
  go_enter Try.func14, Try.ntmps14
  go_wp2_with fail
  refine (K1.out _).mono ?_
  rintro e w1 ⟨g1, rfl, ho1, hg1, hb1⟩
  have B1 := (gr_alloc (Below.refl w.heap.size w) _).trans (hb1.mono (by rw [alloc_size1]; omega))
  go_wp2_with fail
  refine (K2.out w1).mono ?_
  rintro e w2 ⟨g2, rfl, ho2, hg2, hb2⟩
  have B2 := B1.trans (hb2.mono B1.size)
  go_wp2_with fail
  refine (K3.out g1 g2 w2 (ho1.below hb2) ho2).mono ?_
  rintro e w3 ⟨rfl, nq, rfl⟩
  have BB := Lib.hid (below_drewN1 B2 nq)
  clear B1 B2 hb1 hb2 ho1 ho2 hg1 hg2 K1 K2 K3
  go_wp2_with fail
  go_ret
  exact ⟨rfl, BB.out⟩
end Go.Proofs.Ythalmomheecpcaa
