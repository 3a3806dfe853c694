/- The law of sums and products (layer 19): its walk. -/
import Derived.Test.YtmpbndhlnnfbfaaPrkA
import Derived.Test.YtmpbndhlnnfbfaaInw
import Derived.BigQuiet
namespace Go.Proofs.Ytmpbndhlnnfbfaa
open Go.RowKit
set_option linter.unusedSimpArgs false in
set_option maxRecDepth 20000 in
set_option maxHeartbeats 16000000 in
theorem primeReckons_w (a : Option Addr) (len cap : Nat) (ns : List Nat) (w : World) (hrow : IsNumRow w a len ns) : Calls Try.prog 4 #[.slice a len cap] w fun e w' => e = .returned (.bool true) ∧ Below w.heap.size w w' := by
  by_cases h1 : 20 < len
  · have p1 : (20 : Int) < (len : Int) := by omega
    go_enter Try.func4, Try.ntmps4
    go_wp2_with fail
    refine (lives19 _).mono ?_
    rintro e w1 ⟨rfl, hb⟩
    go_wp2_with fail
    go_ret
    exact ⟨rfl, hb⟩
  · have p1 : ¬ (20 : Int) < (len : Int) := by omega
    have hl20 : len ≤ 20 := by omega
    obtain ⟨hlen, _, hns, hat⟩ := hrow
    have HAT := Lib.hid hat
    have HNS := Lib.hid hns
    clear hat hns
    have KLv := Lib.hid lives19
    obtain ⟨i0, hi, hz0, hz1, hz2⟩ := info_parts Try.info_el
    have HIF := Lib.hid (And.intro hi (And.intro hz0 (And.intro hz1 hz2)))
    clear hi hz0 hz1 hz2
    obtain ⟨xs, hxs⟩ : ∃ xs, ns.map (· % PN) = xs := ⟨_, rfl⟩
    have HXL := Lib.hid (show ∀ n ∈ xs, n < PN by rw [← hxs]; exact map_lt ns)
    have HXN := Lib.hid (show xs.length = len by rw [← hxs, List.length_map]; exact hlen)
    have HXG := Lib.hid (show ∀ k, k < len → xs.getD k 0 = ns.getD k 0 % PN from fun k hk => by rw [← hxs]; exact map_getD ns k (by omega))
    clear hxs
    obtain ⟨c0, hc0⟩ : ∃ c0, c0 = 0 := ⟨0, rfl⟩
    obtain ⟨c1, hc1⟩ : ∃ c1, c1 = 1 := ⟨1, rfl⟩
    have HC := Lib.hid (And.intro hc0 hc1)
    have K0 : Hid (∀ w, Calls Try.prog 18 #[.int .u64 0] w fun e w' => e = .returned (numV c0) ∧ Below w.heap.size w w') := fun w => by rw [hc0]; exact rsmallp_any 0 w (by decide)
    have K1 : Hid (∀ w, Calls Try.prog 18 #[.int .u64 1] w fun e w' => e = .returned (numV c1) ∧ Below w.heap.size w w') := fun w => by rw [hc1]; exact rsmallp_any 1 w (by decide)
    have K0' := K0
    simp only [numV_agg] at K0 K1
    clear hc0 hc1
    go_enter Try.func4, Try.ntmps4
    go_wp2_with fail
    refine (K0.out _).mono ?_
    rintro e w1 ⟨rfl, hb1⟩
    go_wp2_with fail
    refine (K1.out _).mono ?_
    rintro e w2 ⟨rfl, hb2⟩
    have XB := Lib.hid (b_alloc (b_alloc (b_callsS hb2 hb1 (Nat.le_refl _)) (.cells #[.int .u64 (wd c0 0 : Int), .int .u64 (wd c0 1 : Int), .int .u64 (wd c0 2 : Int), .int .u64 (wd c0 3 : Int)] 23)) (.cells #[.int .u64 (wd c1 0 : Int), .int .u64 (wd c1 1 : Int), .int .u64 (wd c1 2 : Int), .int .u64 (wd c1 3 : Int)] 23))
    have XS := Lib.hid (alloc_keep (alloc_new w2 (.cells #[.int .u64 (wd c0 0 : Int), .int .u64 (wd c0 1 : Int), .int .u64 (wd c0 2 : Int), .int .u64 (wd c0 3 : Int)] 23)) (.cells #[.int .u64 (wd c1 0 : Int), .int .u64 (wd c1 1 : Int), .int .u64 (wd c1 2 : Int), .int .u64 (wd c1 3 : Int)] 23) : IsA ((w2.alloc (.cells #[.int .u64 (wd c0 0 : Int), .int .u64 (wd c0 1 : Int), .int .u64 (wd c0 2 : Int), .int .u64 (wd c0 3 : Int)] 23)).alloc (.cells #[.int .u64 (wd c1 0 : Int), .int .u64 (wd c1 1 : Int), .int .u64 (wd c1 2 : Int), .int .u64 (wd c1 3 : Int)] 23)) w2.heap.size c0 23)
    have XP := Lib.hid (alloc_new1 w2 (.cells #[.int .u64 (wd c0 0 : Int), .int .u64 (wd c0 1 : Int), .int .u64 (wd c0 2 : Int), .int .u64 (wd c0 3 : Int)] 23) (.cells #[.int .u64 (wd c1 0 : Int), .int .u64 (wd c1 1 : Int), .int .u64 (wd c1 2 : Int), .int .u64 (wd c1 3 : Int)] 23) : IsA ((w2.alloc (.cells #[.int .u64 (wd c0 0 : Int), .int .u64 (wd c0 1 : Int), .int .u64 (wd c0 2 : Int), .int .u64 (wd c0 3 : Int)] 23)).alloc (.cells #[.int .u64 (wd c1 0 : Int), .int .u64 (wd c1 1 : Int), .int .u64 (wd c1 2 : Int), .int .u64 (wd c1 3 : Int)] 23)) (w2.heap.size + 1) c1 23)
    have XL := Lib.hid (b_callsS hb2 hb1 (Nat.le_refl _)).size
    clear hb1 hb2 K1
    go_wp2_with fail
    generalize (w2.alloc (.cells #[.int .u64 (wd c0 0 : Int), .int .u64 (wd c0 1 : Int), .int .u64 (wd c0 2 : Int), .int .u64 (wd c0 3 : Int)] 23)).alloc (.cells #[.int .u64 (wd c1 0 : Int), .int .u64 (wd c1 1 : Int), .int .u64 (wd c1 2 : Int), .int .u64 (wd c1 3 : Int)] 23) = X0 at *
    generalize w2.heap.size = b3 at *
    go_loopw [5, 20] (fun v i wr => ∃ k : Nat, k ≤ len ∧ i = .int .i64 (k : Int) ∧ IsA wr b3 (sumP xs k) 23 ∧ IsA wr (b3 + 1) (prdF xs k) 23 ∧ wr.ownsRow (b3 + 2) 27 4 v k (numsL (xs.take k)) ∧ Below w.heap.size w wr) (fun _ i _ => len - (Go.RowKit.intOf i).toNat)
    case atStart =>
      have e0 := HC.out.1
      have e1 := HC.out.2
      exact ⟨0, by omega, rfl, by rw [show sumP xs 0 = c0 from e0.symm]; exact XS.out, by rw [show prdF xs 0 = c1 from e1.symm]; exact XP.out, World.ownsRow_nil _ _ _ _, XB.out⟩
    case round =>
      clear XS XP XB
      obtain ⟨k, hk, rfl, rs, rp, hown, hbe⟩ := hrel
      have HLB := XL
      by_cases hlt : k < len
      · have p2 : (k : Int) < (len : Int) := by omega
        have p0 : (0 : Int) < (len : Int) := by omega
        have p0n : 0 < len := by omega
        obtain ⟨b, off, rfl, hb, hc⟩ := HAT.out (by omega)
        have m0 : wr.cell? ⟨b, off + k * 4, none⟩ = _ := (hbe.cell (p := ⟨b, off + k * 4, none⟩) hb).trans (hc k 0 hlt (by omega))
        have m1 := (hbe.cell (p := ⟨b, off + k * 4 + 1, none⟩) hb).trans (hc k 1 hlt (by omega))
        have m2 := (hbe.cell (p := ⟨b, off + k * 4 + 2, none⟩) hb).trans (hc k 2 hlt (by omega))
        have m3 := (hbe.cell (p := ⟨b, off + k * 4 + 3, none⟩) hb).trans (hc k 3 hlt (by omega))
        have f0 : wr.cell? ⟨b, off, none⟩ = some (.int .u64 (wd (ns.getD 0 0) 0 : Int)) := by
          have h := (hbe.cell (p := ⟨b, off + 0 * 4 + 0, none⟩) hb).trans (hc 0 0 (by omega) (by omega))
          simpa using h
        have f1 : wr.cell? ⟨b, off + 1, none⟩ = some (.int .u64 (wd (ns.getD 0 0) 1 : Int)) := by
          have h := (hbe.cell (p := ⟨b, off + 0 * 4 + 1, none⟩) hb).trans (hc 0 1 (by omega) (by omega))
          simpa using h
        have f2 : wr.cell? ⟨b, off + 2, none⟩ = some (.int .u64 (wd (ns.getD 0 0) 2 : Int)) := by
          have h := (hbe.cell (p := ⟨b, off + 0 * 4 + 2, none⟩) hb).trans (hc 0 2 (by omega) (by omega))
          simpa using h
        have f3 : wr.cell? ⟨b, off + 3, none⟩ = some (.int .u64 (wd (ns.getD 0 0) 3 : Int)) := by
          have h := (hbe.cell (p := ⟨b, off + 0 * 4 + 3, none⟩) hb).trans (hc 0 3 (by omega) (by omega))
          simpa using h
        have hbr : b < wr.heap.size := Nat.lt_of_lt_of_le hb hbe.size
        have hY : ns.getD k 0 < B64 ^ 4 := by
          rw [List.getD_eq_getElem?_getD, List.getElem?_eq_getElem (show k < ns.length by omega)]
          exact HNS.out _ (List.getElem_mem _)
        have hF : ns.getD 0 0 < B64 ^ 4 := by
          rw [List.getD_eq_getElem?_getD, List.getElem?_eq_getElem (show 0 < ns.length by omega)]
          exact HNS.out _ (List.getElem_mem _)
        have hX := HXG.out k hlt
        have htk : xs.take (k + 1) = xs.take k ++ [xs.getD k 0] := by
          have hkn : k < xs.length := by rw [HXN.out]; exact hlt
          rw [List.take_succ_eq_append_getElem hkn, List.getD_eq_getElem?_getD, List.getElem?_eq_getElem hkn]
          rfl
        have hs2 : sumP xs (k + 1) = (sumP xs k + xs.getD k 0) % PN := rfl
        have hp2 : prdF xs (k + 1) = prdF xs k * xs.getD k 0 % PN := rfl
        have hA := sumP_lt xs k
        have hB := prdF_lt xs k
        obtain ⟨X, hXx⟩ : ∃ X, xs.getD k 0 = X := ⟨_, rfl⟩
        rw [hXx] at hX htk hs2 hp2
        obtain ⟨Y, hYy⟩ : ∃ Y, ns.getD k 0 = Y := ⟨_, rfl⟩
        rw [hYy] at hX hY m0 m1 m2 m3
        obtain ⟨F, hFf⟩ : ∃ F, ns.getD 0 0 = F := ⟨_, rfl⟩
        rw [hFf] at hF f0 f1 f2 f3
        obtain ⟨G, hG⟩ : ∃ G, F % PN = G := ⟨_, rfl⟩
        have hXP : X < PN := by rw [hX]; exact Nat.mod_lt _ PN_pos
        have hGP : G < PN := by rw [← hG]; exact Nat.mod_lt _ PN_pos
        obtain ⟨A, hAa⟩ : ∃ A, sumP xs k = A := ⟨_, rfl⟩
        obtain ⟨B, hBb⟩ : ∃ B, prdF xs k = B := ⟨_, rfl⟩
        obtain ⟨A2, hA2⟩ : ∃ A2, sumP xs (k + 1) = A2 := ⟨_, rfl⟩
        obtain ⟨B2, hB2⟩ : ∃ B2, prdF xs (k + 1) = B2 := ⟨_, rfl⟩
        rw [hAa] at hA hs2 rs
        rw [hBb] at hB hp2 rp
        rw [hA2] at hs2
        rw [hB2] at hp2
        have KMy := Lib.hid (fun w => rmod_any Y w hY)
        have KMf := Lib.hid (fun w => rmod_any F w hF)
        have KEy := Lib.hid (fun w => el_any Y w hY)
        have KEf := Lib.hid (fun w => el_any F w hF)
        rw [← hX] at KMy KEy
        rw [hG] at KMf KEf
        have KSu := Lib.hid (fun w => psub_any X G w hXP hGP)
        have KRs := Lib.hid (fun w => rsubp_any X G w (of_PN hXP) (of_PN hGP) (by omega))
        obtain ⟨D, hD⟩ : ∃ D, (X + PN - G) % PN = D := ⟨_, rfl⟩
        rw [hD] at KSu KRs
        have KNg := Lib.hid (fun w => pneg_any X w hXP)
        have KRn : Hid (∀ w, Calls Try.prog 20 #[numV c0, numV X] w fun e w' => e = .returned (numV ((0 + PN - X) % PN)) ∧ Below w.heap.size w w') := fun w => by
          rw [HC.out.1]
          exact rsubp_any 0 X w (by decide) (of_PN hXP) (by omega)
        obtain ⟨N, hN⟩ : ∃ N, (0 + PN - X) % PN = N := ⟨_, rfl⟩
        rw [hN] at KNg KRn
        have KMu := Lib.hid (mul_two X G hXP hGP)
        have KRm := Lib.hid (fun w => rmulp_any X G w (of_PN hXP) (of_PN hGP))
        obtain ⟨M, hM⟩ : ∃ M, X * G % PN = M := ⟨_, rfl⟩
        rw [hM] at KMu KRm
        have KAd := Lib.hid (add_two X G hXP hGP)
        have KRa := Lib.hid (fun w => raddp_any X G w (of_PN hXP) (of_PN hGP))
        obtain ⟨S, hS⟩ : ∃ S, (X + G) % PN = S := ⟨_, rfl⟩
        rw [hS] at KAd KRa
        have KiD := Lib.hid (fun w => is_any D D w (of_PN (by rw [← hD]; exact Nat.mod_lt _ PN_pos)) (of_PN (by rw [← hD]; exact Nat.mod_lt _ PN_pos)))
        have KiN := Lib.hid (fun w => is_any N N w (of_PN (by rw [← hN]; exact Nat.mod_lt _ PN_pos)) (of_PN (by rw [← hN]; exact Nat.mod_lt _ PN_pos)))
        have KiM := Lib.hid (fun w => is_any M M w (of_PN (by rw [← hM]; exact Nat.mod_lt _ PN_pos)) (of_PN (by rw [← hM]; exact Nat.mod_lt _ PN_pos)))
        have KiS := Lib.hid (fun w => is_any S S w (of_PN (by rw [← hS]; exact Nat.mod_lt _ PN_pos)) (of_PN (by rw [← hS]; exact Nat.mod_lt _ PN_pos)))
        simp only [decide_true] at KiD KiN KiM KiS
        have KA2 := Lib.hid (fun w => raddp_any A X w (of_PN hA) (of_PN hXP))
        have KB2 := Lib.hid (fun w => rmulp_any B X w (of_PN hB) (of_PN hXP))
        rw [← hs2] at KA2
        rw [← hp2] at KB2
        have HTK := Lib.hid htk
        have HA2 := Lib.hid hA2
        have HB2 := Lib.hid hB2
        simp only [numV_agg] at KMy KMf KEy KEf KSu KRs KNg KRn KMu KRm KAd KRa KiD KiN KiM KiS KA2 KB2
        clear hc hY hF hX htk hs2 hp2 hA hB hXx hYy hFf hG hXP hGP hAa hBb hA2 hB2 hD hN hM hS
        have RS := Lib.hid (rs.alloc (.cells #[.int .u64 (wd Y 0 : Int), .int .u64 (wd Y 1 : Int), .int .u64 (wd Y 2 : Int), .int .u64 (wd Y 3 : Int)] 23))
        have RP := Lib.hid (rp.alloc (.cells #[.int .u64 (wd Y 0 : Int), .int .u64 (wd Y 1 : Int), .int .u64 (wd Y 2 : Int), .int .u64 (wd Y 3 : Int)] 23))
        have RY : Hid (IsA (wr.alloc (.cells #[.int .u64 (wd Y 0 : Int), .int .u64 (wd Y 1 : Int), .int .u64 (wd Y 2 : Int), .int .u64 (wd Y 3 : Int)] 23)) wr.heap.size Y 23) := (alloc_new wr _ :)
        have OW := Lib.hid (hown.alloc (.cells #[.int .u64 (wd Y 0 : Int), .int .u64 (wd Y 1 : Int), .int .u64 (wd Y 2 : Int), .int .u64 (wd Y 3 : Int)] 23))
        have BB := Lib.hid (gr_alloc hbe (.cells #[.int .u64 (wd Y 0 : Int), .int .u64 (wd Y 1 : Int), .int .u64 (wd Y 2 : Int), .int .u64 (wd Y 3 : Int)] 23))
        have AL := (Below.refl wr.heap.size wr).alloc (Nat.le_refl _) (.cells #[.int .u64 (wd Y 0 : Int), .int .u64 (wd Y 1 : Int), .int .u64 (wd Y 2 : Int), .int .u64 (wd Y 3 : Int)] 23)
        have F0 := Lib.hid ((AL.cell (p := ⟨b, off, none⟩) hbr).trans f0)
        have F1 := Lib.hid ((AL.cell (p := ⟨b, off + 1, none⟩) hbr).trans f1)
        have F2 := Lib.hid ((AL.cell (p := ⟨b, off + 2, none⟩) hbr).trans f2)
        have F3 := Lib.hid ((AL.cell (p := ⟨b, off + 3, none⟩) hbr).trans f3)
        have HBV := Lib.hid (show b < (wr.alloc (.cells #[.int .u64 (wd Y 0 : Int), .int .u64 (wd Y 1 : Int), .int .u64 (wd Y 2 : Int), .int .u64 (wd Y 3 : Int)] 23)).heap.size by have := AL.size; omega)
        clear rs rp hown hbe AL f0 f1 f2 f3 hbr
        go_wp2_with fail
        generalize wr.alloc (.cells #[.int .u64 (wd Y 0 : Int), .int .u64 (wd Y 1 : Int), .int .u64 (wd Y 2 : Int), .int .u64 (wd Y 3 : Int)] 23) = V at *
        generalize wr.heap.size = b7 at *
        have HMIX := Lib.hid (show Try.prog.follows .mixedOrders = true by kernel_rfl)
        clear m0 m1 m2 m3
        go_cut [8, 9] (fun s8 s9 wc => ∃ b8 b9, s8 = .pointer (some ⟨b8, 0, none⟩) ∧ s9 = .pointer (some ⟨b9, 0, none⟩) ∧ IsA wc b8 X 23 ∧ IsA wc b9 G 23 ∧ Below V.heap.size V wc ∧ V.heap.size ≤ b8)
        case first =>
          obtain ⟨⟨q0, q1, q2, q3⟩, _⟩ := fourV RY.out
          have d0 := fun d os => cell_regrown q0 d os
          have d1 := fun d os => cell_regrown q1 d os
          have d2 := fun d os => cell_regrown q2 d os
          have d3 := fun d os => cell_regrown q3 d os
          have d4 := fun d os => cell_regrown F0.out d os
          have d5 := fun d os => cell_regrown F1.out d os
          have d6 := fun d os => cell_regrown F2.out d os
          have d7 := fun d os => cell_regrown F3.out d os
          clear q0 q1 q2 q3
          refine wp_region_inw 8 HMIX.out (by decide) (by kernel_rfl) (by kernel_rfl) ?_
          repeat (first
            | (refine inw_skip (by rfl) (by rfl) ?_; simp only [Act.put, List.setIfInBounds_toArray, List.set_cons_zero, List.set_cons_succ])
            | (refine inw_val (v := ?_) (by rfl) (by rfl) (fun d os => ?_) ?_; rotate_left; (focus (go_simp; (try with_reducible rfl); done)); simp only [Act.put, List.setIfInBounds_toArray, List.set_cons_zero, List.set_cons_succ])
            | (refine inw_new (.cells #[.int .u64 0, .int .u64 0, .int .u64 0, .int .u64 0] 23) (by rfl) (by rfl) (fun A w => ?_) ?_; (focus (go_simp; (try with_reducible rfl); done)); simp only [List.nil_append, List.cons_append]))
          refine inw_call (args := ?_) (v := ?_) (f := 6) (by rfl) (by rfl) (fun d os => ?_) (fun d os => ?_) ?_; rotate_left 3; (focus (exact KMy.out _; done)); rotate_left; (focus (go_simp; done)); simp only [Act.put, List.setIfInBounds_toArray, List.set_cons_zero, List.set_cons_succ]
          repeat (first
            | (refine inw_skip (by rfl) (by rfl) ?_; simp only [Act.put, List.setIfInBounds_toArray, List.set_cons_zero, List.set_cons_succ])
            | (refine inw_val (v := ?_) (by rfl) (by rfl) (fun d os => ?_) ?_; rotate_left; (focus (go_simp; (try with_reducible rfl); done)); simp only [Act.put, List.setIfInBounds_toArray, List.set_cons_zero, List.set_cons_succ])
            | (refine inw_new (.cells #[.int .u64 0, .int .u64 0, .int .u64 0, .int .u64 0] 23) (by rfl) (by rfl) (fun A w => ?_) ?_; (focus (go_simp; (try with_reducible rfl); done)); simp only [List.nil_append, List.cons_append]))
          refine inw_call (args := ?_) (v := ?_) (f := 6) (by rfl) (by rfl) (fun d os => ?_) (fun d os => ?_) ?_; rotate_left 3; (focus (exact KMf.out _; done)); rotate_left; (focus (go_simp; done)); simp only [Act.put, List.setIfInBounds_toArray, List.set_cons_zero, List.set_cons_succ]
          repeat (first
            | (refine inw_skip (by rfl) (by rfl) ?_; simp only [Act.put, List.setIfInBounds_toArray, List.set_cons_zero, List.set_cons_succ])
            | (refine inw_val (v := ?_) (by rfl) (by rfl) (fun d os => ?_) ?_; rotate_left; (focus (go_simp; (try with_reducible rfl); done)); simp only [Act.put, List.setIfInBounds_toArray, List.set_cons_zero, List.set_cons_succ])
            | (refine inw_new (.cells #[.int .u64 0, .int .u64 0, .int .u64 0, .int .u64 0] 23) (by rfl) (by rfl) (fun A w => ?_) ?_; (focus (go_simp; (try with_reducible rfl); done)); simp only [List.nil_append, List.cons_append]))
          refine inw_end2 (j := 6) (j' := 7) 8 9 (by decide) (by rfl) (by rfl) (by simp) (by simp) (by decide) (fun b b' d os hne hl hl' hb hb' => ?_)
          have hBW := below_regrown V d os
          generalize Sort.grow (redrawn V d) os = W at hBW hb hb' ⊢
          simp only [Act.put, List.setIfInBounds_toArray, List.set_cons_zero, List.set_cons_succ]
          clear d0 d1 d2 d3 d4 d5 d6 d7
          obtain ⟨⟨z0, z1, z2, z3⟩, zf0, zf1, zf2, zf3⟩ := fourV hb
          change wpAny _ _ _ _ 2 _ _ _
          refine any_one (i := 8) (by kernel_rfl) rfl (fun K hK => ?_)
          go_simp
          refine hK _ _ ?_
          clear hK K z0 z1 z2 z3 zf0 zf1 zf2 zf3
          have hb2 := far_keep (v0 := .int .u64 (wd X 0 : Int)) (v1 := .int .u64 (wd X 1 : Int)) (v2 := .int .u64 (wd X 2 : Int)) (v3 := .int .u64 (wd X 3 : Int)) hb' (Ne.symm hne)
          obtain ⟨⟨z0, z1, z2, z3⟩, zf0, zf1, zf2, zf3⟩ := fourV hb2
          have h8 := (isA_set (n := X) hb).far (c := b') (v0 := .int .u64 (wd G 0 : Int)) (v1 := .int .u64 (wd G 1 : Int)) (v2 := .int .u64 (wd G 2 : Int)) (v3 := .int .u64 (wd G 3 : Int)) hne
          have h9 := isA_set (n := G) hb2
          have hB9 := b_set4 (v0 := .int .u64 (wd G 0 : Int)) (v1 := .int .u64 (wd G 1 : Int)) (v2 := .int .u64 (wd G 2 : Int)) (v3 := .int .u64 (wd G 3 : Int)) (b_set4 (v0 := .int .u64 (wd X 0 : Int)) (v1 := .int .u64 (wd X 1 : Int)) (v2 := .int .u64 (wd X 2 : Int)) (v3 := .int .u64 (wd X 3 : Int)) hBW hl) hl'
          have HH := Lib.hid (And.intro h8 (And.intro h9 hB9))
          clear h8 h9 hB9 hb hb' hb2 hBW
          refine any_one (i := 9) (by kernel_rfl) rfl (fun K hK => ?_)
          go_simp
          refine hK _ _ ?_
          clear hK K z0 z1 z2 z3 zf0 zf1 zf2 zf3
          refine wpAny_done (by kernel_rfl) ?_ _
          go_step
          go_step
          go_meet
          case rel => with_reducible exact ⟨b, b', rfl, rfl, HH.out.1, HH.out.2.1, HH.out.2.2, hl⟩

        case rest =>
          obtain ⟨b8, b9, rfl, rfl, r8, r9, hB8, _⟩ := hcut
          have R8 := Lib.hid r8
          have R9 := Lib.hid r9
          have RS1 := Lib.hid (isA_calls hB8 RS.out (Nat.le_refl _))
          have RP1 := Lib.hid (isA_calls hB8 RP.out (Nat.le_refl _))
          have RY1 := Lib.hid (isA_calls hB8 RY.out (Nat.le_refl _))
          have OW1 := Lib.hid (owns_below OW.out hB8)
          have BB1 := Lib.hid (b_callsS hB8 BB.out (Nat.le_refl _))
          have G0 := Lib.hid ((hB8.cell (p := ⟨b, off, none⟩) HBV.out).trans F0.out)
          have G1 := Lib.hid ((hB8.cell (p := ⟨b, off + 1, none⟩) HBV.out).trans F1.out)
          have G2 := Lib.hid ((hB8.cell (p := ⟨b, off + 2, none⟩) HBV.out).trans F2.out)
          have G3 := Lib.hid ((hB8.cell (p := ⟨b, off + 3, none⟩) HBV.out).trans F3.out)
          clear r8 r9 hB8 RS RP RY OW BB F0 F1 F2 F3 HBV KMy KMf
          go_wp2_with fail
          go_cut [10, 11] (fun s10 s11 wd => ∃ b10 b11, s10 = .pointer (some ⟨b10, 0, none⟩) ∧ s11 = .pointer (some ⟨b11, 0, none⟩) ∧ IsA wd b10 X 27 ∧ IsA wd b11 G 27 ∧ Below wc.heap.size wc wd ∧ wc.heap.size ≤ b10)
          case first =>
            obtain ⟨⟨q0, q1, q2, q3⟩, _⟩ := fourV RY1.out
            have d0 := fun d os => cell_regrown q0 d os
            have d1 := fun d os => cell_regrown q1 d os
            have d2 := fun d os => cell_regrown q2 d os
            have d3 := fun d os => cell_regrown q3 d os
            have d4 := fun d os => cell_regrown G0.out d os
            have d5 := fun d os => cell_regrown G1.out d os
            have d6 := fun d os => cell_regrown G2.out d os
            have d7 := fun d os => cell_regrown G3.out d os
            clear q0 q1 q2 q3
            refine wp_region_inw 8 HMIX.out (by decide) (by kernel_rfl) (by kernel_rfl) ?_
            repeat (first
              | (refine inw_skip (by rfl) (by rfl) ?_; simp only [Act.put, List.setIfInBounds_toArray, List.set_cons_zero, List.set_cons_succ])
              | (refine inw_val (v := ?_) (by rfl) (by rfl) (fun d os => ?_) ?_; rotate_left; (focus (go_simp; (try with_reducible rfl); done)); simp only [Act.put, List.setIfInBounds_toArray, List.set_cons_zero, List.set_cons_succ])
              | (refine inw_new (.cells #[.int .u64 0, .int .u64 0, .int .u64 0, .int .u64 0] 27) (by rfl) (by rfl) (fun A w => ?_) ?_; (focus (go_simp; (try with_reducible rfl); done)); simp only [List.nil_append, List.cons_append]))
            refine inw_call (args := ?_) (v := ?_) (f := 7) (by rfl) (by rfl) (fun d os => ?_) (fun d os => ?_) ?_; rotate_left 3; (focus (exact KEy.out _; done)); rotate_left; (focus (go_simp; done)); simp only [Act.put, List.setIfInBounds_toArray, List.set_cons_zero, List.set_cons_succ]
            repeat (first
              | (refine inw_skip (by rfl) (by rfl) ?_; simp only [Act.put, List.setIfInBounds_toArray, List.set_cons_zero, List.set_cons_succ])
              | (refine inw_val (v := ?_) (by rfl) (by rfl) (fun d os => ?_) ?_; rotate_left; (focus (go_simp; (try with_reducible rfl); done)); simp only [Act.put, List.setIfInBounds_toArray, List.set_cons_zero, List.set_cons_succ])
              | (refine inw_new (.cells #[.int .u64 0, .int .u64 0, .int .u64 0, .int .u64 0] 27) (by rfl) (by rfl) (fun A w => ?_) ?_; (focus (go_simp; (try with_reducible rfl); done)); simp only [List.nil_append, List.cons_append]))
            refine inw_call (args := ?_) (v := ?_) (f := 7) (by rfl) (by rfl) (fun d os => ?_) (fun d os => ?_) ?_; rotate_left 3; (focus (exact KEf.out _; done)); rotate_left; (focus (go_simp; done)); simp only [Act.put, List.setIfInBounds_toArray, List.set_cons_zero, List.set_cons_succ]
            repeat (first
              | (refine inw_skip (by rfl) (by rfl) ?_; simp only [Act.put, List.setIfInBounds_toArray, List.set_cons_zero, List.set_cons_succ])
              | (refine inw_val (v := ?_) (by rfl) (by rfl) (fun d os => ?_) ?_; rotate_left; (focus (go_simp; (try with_reducible rfl); done)); simp only [Act.put, List.setIfInBounds_toArray, List.set_cons_zero, List.set_cons_succ])
              | (refine inw_new (.cells #[.int .u64 0, .int .u64 0, .int .u64 0, .int .u64 0] 27) (by rfl) (by rfl) (fun A w => ?_) ?_; (focus (go_simp; (try with_reducible rfl); done)); simp only [List.nil_append, List.cons_append]))
            refine inw_end2 (j := 6) (j' := 7) 10 11 (by decide) (by rfl) (by rfl) (by simp) (by simp) (by decide) (fun b b' d os hne hl hl' hb hb' => ?_)
            have hBW := below_regrown wc d os
            generalize Sort.grow (redrawn wc d) os = W at hBW hb hb' ⊢
            simp only [Act.put, List.setIfInBounds_toArray, List.set_cons_zero, List.set_cons_succ]
            clear d0 d1 d2 d3 d4 d5 d6 d7
            obtain ⟨⟨z0, z1, z2, z3⟩, zf0, zf1, zf2, zf3⟩ := fourV hb
            change wpAny _ _ _ _ 2 _ _ _
            refine any_one (i := 8) (by kernel_rfl) rfl (fun K hK => ?_)
            go_simp
            refine hK _ _ ?_
            clear hK K z0 z1 z2 z3 zf0 zf1 zf2 zf3
            have hb2 := far_keep (v0 := .int .u64 (wd X 0 : Int)) (v1 := .int .u64 (wd X 1 : Int)) (v2 := .int .u64 (wd X 2 : Int)) (v3 := .int .u64 (wd X 3 : Int)) hb' (Ne.symm hne)
            obtain ⟨⟨z0, z1, z2, z3⟩, zf0, zf1, zf2, zf3⟩ := fourV hb2
            have h8 := (isA_set (n := X) hb).far (c := b') (v0 := .int .u64 (wd G 0 : Int)) (v1 := .int .u64 (wd G 1 : Int)) (v2 := .int .u64 (wd G 2 : Int)) (v3 := .int .u64 (wd G 3 : Int)) hne
            have h9 := isA_set (n := G) hb2
            have hB9 := b_set4 (v0 := .int .u64 (wd G 0 : Int)) (v1 := .int .u64 (wd G 1 : Int)) (v2 := .int .u64 (wd G 2 : Int)) (v3 := .int .u64 (wd G 3 : Int)) (b_set4 (v0 := .int .u64 (wd X 0 : Int)) (v1 := .int .u64 (wd X 1 : Int)) (v2 := .int .u64 (wd X 2 : Int)) (v3 := .int .u64 (wd X 3 : Int)) hBW hl) hl'
            have HH := Lib.hid (And.intro h8 (And.intro h9 hB9))
            clear h8 h9 hB9 hb hb' hb2 hBW
            refine any_one (i := 9) (by kernel_rfl) rfl (fun K hK => ?_)
            go_simp
            refine hK _ _ ?_
            clear hK K z0 z1 z2 z3 zf0 zf1 zf2 zf3
            refine wpAny_done (by kernel_rfl) ?_ _
            go_step
            go_step
            go_meet
            case rel => with_reducible exact ⟨b, b', rfl, rfl, HH.out.1, HH.out.2.1, HH.out.2.2, hl⟩

          case rest =>
            obtain ⟨b10, b11, rfl, rfl, r10, r11, hB9, hl10⟩ := hcut
            have HL10 := Lib.hid (Nat.lt_of_lt_of_le (lt_blk RP1.out) hl10)
            clear hl10
            have R10 := Lib.hid r10
            have R11 := Lib.hid r11
            have RA8 := Lib.hid (isA_calls hB9 R8.out (Nat.le_refl _))
            have RA9 := Lib.hid (isA_calls hB9 R9.out (Nat.le_refl _))
            have RS2 := Lib.hid (isA_calls hB9 RS1.out (Nat.le_refl _))
            have RP2 := Lib.hid (isA_calls hB9 RP1.out (Nat.le_refl _))
            have OW2 := Lib.hid (owns_below OW1.out hB9)
            have BB2 := Lib.hid (b_callsS hB9 BB1.out (Nat.le_refl _))
            clear r10 r11 hB9 R8 R9 RS1 RP1 RY1 OW1 BB1 G0 G1 G2 G3 KEy KEf
            go_wp2_with fail
            go_cut [79] (fun s79 we => s79 = .bool false ∧ Below wc.heap.size wc we)
            case first =>
              obtain ⟨⟨q0, q1, q2, q3⟩, _⟩ := fourV R10.out
              have d0 := fun d os => cell_regrown q0 d os
              have d1 := fun d os => cell_regrown q1 d os
              have d2 := fun d os => cell_regrown q2 d os
              have d3 := fun d os => cell_regrown q3 d os
              clear q0 q1 q2 q3
              obtain ⟨⟨q0, q1, q2, q3⟩, _⟩ := fourV R11.out
              have d4 := fun d os => cell_regrown q0 d os
              have d5 := fun d os => cell_regrown q1 d os
              have d6 := fun d os => cell_regrown q2 d os
              have d7 := fun d os => cell_regrown q3 d os
              clear q0 q1 q2 q3
              obtain ⟨⟨q0, q1, q2, q3⟩, _⟩ := fourV RA8.out
              have d8 := fun d os => cell_regrown q0 d os
              have d9 := fun d os => cell_regrown q1 d os
              have d10 := fun d os => cell_regrown q2 d os
              have d11 := fun d os => cell_regrown q3 d os
              clear q0 q1 q2 q3
              obtain ⟨⟨q0, q1, q2, q3⟩, _⟩ := fourV RA9.out
              have d12 := fun d os => cell_regrown q0 d os
              have d13 := fun d os => cell_regrown q1 d os
              have d14 := fun d os => cell_regrown q2 d os
              have d15 := fun d os => cell_regrown q3 d os
              clear q0 q1 q2 q3

              by_cases hk0 : k = 0
              · have q1 : ¬ (0 : Int) < (k : Int) := by omega
                have q2 : ¬ 0 < k := by omega
                refine wp_region_inv HMIX.out (by kernel_rfl) ?_
                repeat (first
                  | (refine inv_skip (by rfl) (by rfl) ?_; simp only [Act.put, List.setIfInBounds_toArray, List.set_cons_zero, List.set_cons_succ])
                  | (refine inv_val (v := ?_) (by rfl) (by rfl) (fun d os => ?_) ?_; rotate_left; (focus (go_simp; (try with_reducible rfl); done)); simp only [Act.put, List.setIfInBounds_toArray, List.set_cons_zero, List.set_cons_succ]))
                refine inv_call (args := ?_) (v := ?_) (f := 19) (by rfl) (by rfl) (fun d os => ?_) (fun d os => ?_) ?_; rotate_left 3; (focus (exact KSu.out _; done)); rotate_left; (focus (go_simp; done)); simp only [Act.put, List.setIfInBounds_toArray, List.set_cons_zero, List.set_cons_succ]
                repeat (first
                  | (refine inv_skip (by rfl) (by rfl) ?_; simp only [Act.put, List.setIfInBounds_toArray, List.set_cons_zero, List.set_cons_succ])
                  | (refine inv_val (v := ?_) (by rfl) (by rfl) (fun d os => ?_) ?_; rotate_left; (focus (go_simp; (try with_reducible rfl); done)); simp only [Act.put, List.setIfInBounds_toArray, List.set_cons_zero, List.set_cons_succ]))
                refine inv_call (args := ?_) (v := ?_) (f := 20) (by rfl) (by rfl) (fun d os => ?_) (fun d os => ?_) ?_; rotate_left 3; (focus (exact KRs.out _; done)); rotate_left; (focus (go_simp; done)); simp only [Act.put, List.setIfInBounds_toArray, List.set_cons_zero, List.set_cons_succ]
                repeat (first
                  | (refine inv_skip (by rfl) (by rfl) ?_; simp only [Act.put, List.setIfInBounds_toArray, List.set_cons_zero, List.set_cons_succ])
                  | (refine inv_val (v := ?_) (by rfl) (by rfl) (fun d os => ?_) ?_; rotate_left; (focus (go_simp; (try with_reducible rfl); done)); simp only [Act.put, List.setIfInBounds_toArray, List.set_cons_zero, List.set_cons_succ]))
                refine inv_call (args := ?_) (v := ?_) (f := 10) (by rfl) (by rfl) (fun d os => ?_) (fun d os => ?_) ?_; rotate_left 3; (focus (exact KiD.out _; done)); rotate_left; (focus (go_simp; done)); simp only [Act.put, List.setIfInBounds_toArray, List.set_cons_zero, List.set_cons_succ]
                repeat (first
                  | (refine inv_skip (by rfl) (by rfl) ?_; simp only [Act.put, List.setIfInBounds_toArray, List.set_cons_zero, List.set_cons_succ])
                  | (refine inv_val (v := ?_) (by rfl) (by rfl) (fun d os => ?_) ?_; rotate_left; (focus (go_simp; (try with_reducible rfl); done)); simp only [Act.put, List.setIfInBounds_toArray, List.set_cons_zero, List.set_cons_succ]))
                refine inv_call (args := ?_) (v := ?_) (f := 21) (by rfl) (by rfl) (fun d os => ?_) (fun d os => ?_) ?_; rotate_left 3; (focus (exact KNg.out _; done)); rotate_left; (focus (go_simp; done)); simp only [Act.put, List.setIfInBounds_toArray, List.set_cons_zero, List.set_cons_succ]
                repeat (first
                  | (refine inv_skip (by rfl) (by rfl) ?_; simp only [Act.put, List.setIfInBounds_toArray, List.set_cons_zero, List.set_cons_succ])
                  | (refine inv_val (v := ?_) (by rfl) (by rfl) (fun d os => ?_) ?_; rotate_left; (focus (go_simp; (try with_reducible rfl); done)); simp only [Act.put, List.setIfInBounds_toArray, List.set_cons_zero, List.set_cons_succ]))
                refine inv_call (args := ?_) (v := ?_) (f := 18) (by rfl) (by rfl) (fun d os => ?_) (fun d os => ?_) ?_; rotate_left 3; (focus (exact K0.out _; done)); rotate_left; (focus (go_simp; done)); simp only [Act.put, List.setIfInBounds_toArray, List.set_cons_zero, List.set_cons_succ]
                repeat (first
                  | (refine inv_skip (by rfl) (by rfl) ?_; simp only [Act.put, List.setIfInBounds_toArray, List.set_cons_zero, List.set_cons_succ])
                  | (refine inv_val (v := ?_) (by rfl) (by rfl) (fun d os => ?_) ?_; rotate_left; (focus (go_simp; (try with_reducible rfl); done)); simp only [Act.put, List.setIfInBounds_toArray, List.set_cons_zero, List.set_cons_succ]))
                refine inv_call (args := ?_) (v := ?_) (f := 20) (by rfl) (by rfl) (fun d os => ?_) (fun d os => ?_) ?_; rotate_left 3; (focus (exact KRn.out _; done)); rotate_left; (focus (go_simp; done)); simp only [Act.put, List.setIfInBounds_toArray, List.set_cons_zero, List.set_cons_succ]
                repeat (first
                  | (refine inv_skip (by rfl) (by rfl) ?_; simp only [Act.put, List.setIfInBounds_toArray, List.set_cons_zero, List.set_cons_succ])
                  | (refine inv_val (v := ?_) (by rfl) (by rfl) (fun d os => ?_) ?_; rotate_left; (focus (go_simp; (try with_reducible rfl); done)); simp only [Act.put, List.setIfInBounds_toArray, List.set_cons_zero, List.set_cons_succ]))
                refine inv_call (args := ?_) (v := ?_) (f := 10) (by rfl) (by rfl) (fun d os => ?_) (fun d os => ?_) ?_; rotate_left 3; (focus (exact KiN.out _; done)); rotate_left; (focus (go_simp; done)); simp only [Act.put, List.setIfInBounds_toArray, List.set_cons_zero, List.set_cons_succ]
                repeat (first
                  | (refine inv_skip (by rfl) (by rfl) ?_; simp only [Act.put, List.setIfInBounds_toArray, List.set_cons_zero, List.set_cons_succ])
                  | (refine inv_val (v := ?_) (by rfl) (by rfl) (fun d os => ?_) ?_; rotate_left; (focus (go_simp; (try with_reducible rfl); done)); simp only [Act.put, List.setIfInBounds_toArray, List.set_cons_zero, List.set_cons_succ]))
                refine inv_mk (fun b => .slice (some ⟨b, 0, none⟩) 2 2) (.cells #[.int .u64 (wd X 0 : Int), .int .u64 (wd X 1 : Int), .int .u64 (wd X 2 : Int), .int .u64 (wd X 3 : Int), .int .u64 (wd G 0 : Int), .int .u64 (wd G 1 : Int), .int .u64 (wd G 2 : Int), .int .u64 (wd G 3 : Int)] 27 (0, 0)) (by rfl) (by rfl) (fun d os => ?_) ?_; (focus (go_simp; done)); simp only [List.nil_append, List.cons_append]
                repeat (first
                  | (refine inv_skip (by rfl) (by rfl) ?_; simp only [Act.put, List.setIfInBounds_toArray, List.set_cons_zero, List.set_cons_succ])
                  | (refine inv_val (v := ?_) (by rfl) (by rfl) (fun d os => ?_) ?_; rotate_left; (focus (go_simp; (try with_reducible rfl); done)); simp only [Act.put, List.setIfInBounds_toArray, List.set_cons_zero, List.set_cons_succ]))
                refine inv_callp (v := _) (f := 22) (args := fun b => #[.slice (some ⟨b, 0, none⟩) 2 2]) (by rfl) (by rfl) (fun b => by rfl) (fun b d os => by (simp only [Act.put, List.setIfInBounds_toArray, List.set_cons_zero, List.set_cons_succ]; go_simp; done)) KMu.out ?_; simp only [Act.put, List.setIfInBounds_toArray, List.set_cons_zero, List.set_cons_succ]
                repeat (first
                  | (refine inv_skip (by rfl) (by rfl) ?_; simp only [Act.put, List.setIfInBounds_toArray, List.set_cons_zero, List.set_cons_succ])
                  | (refine inv_val (v := ?_) (by rfl) (by rfl) (fun d os => ?_) ?_; rotate_left; (focus (go_simp; (try with_reducible rfl); done)); simp only [Act.put, List.setIfInBounds_toArray, List.set_cons_zero, List.set_cons_succ]))
                refine inv_call (args := ?_) (v := ?_) (f := 23) (by rfl) (by rfl) (fun d os => ?_) (fun d os => ?_) ?_; rotate_left 3; (focus (exact KRm.out _; done)); rotate_left; (focus (go_simp; done)); simp only [Act.put, List.setIfInBounds_toArray, List.set_cons_zero, List.set_cons_succ]
                repeat (first
                  | (refine inv_skip (by rfl) (by rfl) ?_; simp only [Act.put, List.setIfInBounds_toArray, List.set_cons_zero, List.set_cons_succ])
                  | (refine inv_val (v := ?_) (by rfl) (by rfl) (fun d os => ?_) ?_; rotate_left; (focus (go_simp; (try with_reducible rfl); done)); simp only [Act.put, List.setIfInBounds_toArray, List.set_cons_zero, List.set_cons_succ]))
                refine inv_call (args := ?_) (v := ?_) (f := 10) (by rfl) (by rfl) (fun d os => ?_) (fun d os => ?_) ?_; rotate_left 3; (focus (exact KiM.out _; done)); rotate_left; (focus (go_simp; done)); simp only [Act.put, List.setIfInBounds_toArray, List.set_cons_zero, List.set_cons_succ]
                repeat (first
                  | (refine inv_skip (by rfl) (by rfl) ?_; simp only [Act.put, List.setIfInBounds_toArray, List.set_cons_zero, List.set_cons_succ])
                  | (refine inv_val (v := ?_) (by rfl) (by rfl) (fun d os => ?_) ?_; rotate_left; (focus (go_simp; (try with_reducible rfl); done)); simp only [Act.put, List.setIfInBounds_toArray, List.set_cons_zero, List.set_cons_succ]))
                refine inv_end1 (t := 57) ?_ (fun b d os => ?_)
                (focus (rfl; done))
                simp only [Act.put, List.setIfInBounds_toArray, List.set_cons_zero, List.set_cons_succ]
                clear d0 d1 d2 d3 d4 d5 d6 d7 d8 d9 d10 d11 d12 d13 d14 d15
                have hBW := below_regrown wc d os
                generalize Sort.grow (redrawn wc d) os = W at hBW ⊢
                go_step
                go_step
                go_meet
                case rel => exact ⟨rfl, hBW⟩

              · have q1 : (0 : Int) < (k : Int) := by omega
                have q2 : 0 < k := by omega
                refine wp_region_inv HMIX.out (by kernel_rfl) ?_
                repeat (first
                  | (refine inv_skip (by rfl) (by rfl) ?_; simp only [Act.put, List.setIfInBounds_toArray, List.set_cons_zero, List.set_cons_succ])
                  | (refine inv_val (v := ?_) (by rfl) (by rfl) (fun d os => ?_) ?_; rotate_left; (focus (go_simp; (try with_reducible rfl); done)); simp only [Act.put, List.setIfInBounds_toArray, List.set_cons_zero, List.set_cons_succ]))
                refine inv_call (args := ?_) (v := ?_) (f := 19) (by rfl) (by rfl) (fun d os => ?_) (fun d os => ?_) ?_; rotate_left 3; (focus (exact KSu.out _; done)); rotate_left; (focus (go_simp; done)); simp only [Act.put, List.setIfInBounds_toArray, List.set_cons_zero, List.set_cons_succ]
                repeat (first
                  | (refine inv_skip (by rfl) (by rfl) ?_; simp only [Act.put, List.setIfInBounds_toArray, List.set_cons_zero, List.set_cons_succ])
                  | (refine inv_val (v := ?_) (by rfl) (by rfl) (fun d os => ?_) ?_; rotate_left; (focus (go_simp; (try with_reducible rfl); done)); simp only [Act.put, List.setIfInBounds_toArray, List.set_cons_zero, List.set_cons_succ]))
                refine inv_call (args := ?_) (v := ?_) (f := 20) (by rfl) (by rfl) (fun d os => ?_) (fun d os => ?_) ?_; rotate_left 3; (focus (exact KRs.out _; done)); rotate_left; (focus (go_simp; done)); simp only [Act.put, List.setIfInBounds_toArray, List.set_cons_zero, List.set_cons_succ]
                repeat (first
                  | (refine inv_skip (by rfl) (by rfl) ?_; simp only [Act.put, List.setIfInBounds_toArray, List.set_cons_zero, List.set_cons_succ])
                  | (refine inv_val (v := ?_) (by rfl) (by rfl) (fun d os => ?_) ?_; rotate_left; (focus (go_simp; (try with_reducible rfl); done)); simp only [Act.put, List.setIfInBounds_toArray, List.set_cons_zero, List.set_cons_succ]))
                refine inv_call (args := ?_) (v := ?_) (f := 10) (by rfl) (by rfl) (fun d os => ?_) (fun d os => ?_) ?_; rotate_left 3; (focus (exact KiD.out _; done)); rotate_left; (focus (go_simp; done)); simp only [Act.put, List.setIfInBounds_toArray, List.set_cons_zero, List.set_cons_succ]
                repeat (first
                  | (refine inv_skip (by rfl) (by rfl) ?_; simp only [Act.put, List.setIfInBounds_toArray, List.set_cons_zero, List.set_cons_succ])
                  | (refine inv_val (v := ?_) (by rfl) (by rfl) (fun d os => ?_) ?_; rotate_left; (focus (go_simp; (try with_reducible rfl); done)); simp only [Act.put, List.setIfInBounds_toArray, List.set_cons_zero, List.set_cons_succ]))
                refine inv_call (args := ?_) (v := ?_) (f := 21) (by rfl) (by rfl) (fun d os => ?_) (fun d os => ?_) ?_; rotate_left 3; (focus (exact KNg.out _; done)); rotate_left; (focus (go_simp; done)); simp only [Act.put, List.setIfInBounds_toArray, List.set_cons_zero, List.set_cons_succ]
                repeat (first
                  | (refine inv_skip (by rfl) (by rfl) ?_; simp only [Act.put, List.setIfInBounds_toArray, List.set_cons_zero, List.set_cons_succ])
                  | (refine inv_val (v := ?_) (by rfl) (by rfl) (fun d os => ?_) ?_; rotate_left; (focus (go_simp; (try with_reducible rfl); done)); simp only [Act.put, List.setIfInBounds_toArray, List.set_cons_zero, List.set_cons_succ]))
                refine inv_call (args := ?_) (v := ?_) (f := 18) (by rfl) (by rfl) (fun d os => ?_) (fun d os => ?_) ?_; rotate_left 3; (focus (exact K0.out _; done)); rotate_left; (focus (go_simp; done)); simp only [Act.put, List.setIfInBounds_toArray, List.set_cons_zero, List.set_cons_succ]
                repeat (first
                  | (refine inv_skip (by rfl) (by rfl) ?_; simp only [Act.put, List.setIfInBounds_toArray, List.set_cons_zero, List.set_cons_succ])
                  | (refine inv_val (v := ?_) (by rfl) (by rfl) (fun d os => ?_) ?_; rotate_left; (focus (go_simp; (try with_reducible rfl); done)); simp only [Act.put, List.setIfInBounds_toArray, List.set_cons_zero, List.set_cons_succ]))
                refine inv_call (args := ?_) (v := ?_) (f := 20) (by rfl) (by rfl) (fun d os => ?_) (fun d os => ?_) ?_; rotate_left 3; (focus (exact KRn.out _; done)); rotate_left; (focus (go_simp; done)); simp only [Act.put, List.setIfInBounds_toArray, List.set_cons_zero, List.set_cons_succ]
                repeat (first
                  | (refine inv_skip (by rfl) (by rfl) ?_; simp only [Act.put, List.setIfInBounds_toArray, List.set_cons_zero, List.set_cons_succ])
                  | (refine inv_val (v := ?_) (by rfl) (by rfl) (fun d os => ?_) ?_; rotate_left; (focus (go_simp; (try with_reducible rfl); done)); simp only [Act.put, List.setIfInBounds_toArray, List.set_cons_zero, List.set_cons_succ]))
                refine inv_call (args := ?_) (v := ?_) (f := 10) (by rfl) (by rfl) (fun d os => ?_) (fun d os => ?_) ?_; rotate_left 3; (focus (exact KiN.out _; done)); rotate_left; (focus (go_simp; done)); simp only [Act.put, List.setIfInBounds_toArray, List.set_cons_zero, List.set_cons_succ]
                repeat (first
                  | (refine inv_skip (by rfl) (by rfl) ?_; simp only [Act.put, List.setIfInBounds_toArray, List.set_cons_zero, List.set_cons_succ])
                  | (refine inv_val (v := ?_) (by rfl) (by rfl) (fun d os => ?_) ?_; rotate_left; (focus (go_simp; (try with_reducible rfl); done)); simp only [Act.put, List.setIfInBounds_toArray, List.set_cons_zero, List.set_cons_succ]))
                refine inv_mk (fun b => .slice (some ⟨b, 0, none⟩) 2 2) (.cells #[.int .u64 (wd X 0 : Int), .int .u64 (wd X 1 : Int), .int .u64 (wd X 2 : Int), .int .u64 (wd X 3 : Int), .int .u64 (wd G 0 : Int), .int .u64 (wd G 1 : Int), .int .u64 (wd G 2 : Int), .int .u64 (wd G 3 : Int)] 27 (0, 0)) (by rfl) (by rfl) (fun d os => ?_) ?_; (focus (go_simp; done)); simp only [List.nil_append, List.cons_append]
                repeat (first
                  | (refine inv_skip (by rfl) (by rfl) ?_; simp only [Act.put, List.setIfInBounds_toArray, List.set_cons_zero, List.set_cons_succ])
                  | (refine inv_val (v := ?_) (by rfl) (by rfl) (fun d os => ?_) ?_; rotate_left; (focus (go_simp; (try with_reducible rfl); done)); simp only [Act.put, List.setIfInBounds_toArray, List.set_cons_zero, List.set_cons_succ]))
                refine inv_callp (v := _) (f := 22) (args := fun b => #[.slice (some ⟨b, 0, none⟩) 2 2]) (by rfl) (by rfl) (fun b => by rfl) (fun b d os => by (simp only [Act.put, List.setIfInBounds_toArray, List.set_cons_zero, List.set_cons_succ]; go_simp; done)) KMu.out ?_; simp only [Act.put, List.setIfInBounds_toArray, List.set_cons_zero, List.set_cons_succ]
                repeat (first
                  | (refine inv_skip (by rfl) (by rfl) ?_; simp only [Act.put, List.setIfInBounds_toArray, List.set_cons_zero, List.set_cons_succ])
                  | (refine inv_val (v := ?_) (by rfl) (by rfl) (fun d os => ?_) ?_; rotate_left; (focus (go_simp; (try with_reducible rfl); done)); simp only [Act.put, List.setIfInBounds_toArray, List.set_cons_zero, List.set_cons_succ]))
                refine inv_call (args := ?_) (v := ?_) (f := 23) (by rfl) (by rfl) (fun d os => ?_) (fun d os => ?_) ?_; rotate_left 3; (focus (exact KRm.out _; done)); rotate_left; (focus (go_simp; done)); simp only [Act.put, List.setIfInBounds_toArray, List.set_cons_zero, List.set_cons_succ]
                repeat (first
                  | (refine inv_skip (by rfl) (by rfl) ?_; simp only [Act.put, List.setIfInBounds_toArray, List.set_cons_zero, List.set_cons_succ])
                  | (refine inv_val (v := ?_) (by rfl) (by rfl) (fun d os => ?_) ?_; rotate_left; (focus (go_simp; (try with_reducible rfl); done)); simp only [Act.put, List.setIfInBounds_toArray, List.set_cons_zero, List.set_cons_succ]))
                refine inv_call (args := ?_) (v := ?_) (f := 10) (by rfl) (by rfl) (fun d os => ?_) (fun d os => ?_) ?_; rotate_left 3; (focus (exact KiM.out _; done)); rotate_left; (focus (go_simp; done)); simp only [Act.put, List.setIfInBounds_toArray, List.set_cons_zero, List.set_cons_succ]
                repeat (first
                  | (refine inv_skip (by rfl) (by rfl) ?_; simp only [Act.put, List.setIfInBounds_toArray, List.set_cons_zero, List.set_cons_succ])
                  | (refine inv_val (v := ?_) (by rfl) (by rfl) (fun d os => ?_) ?_; rotate_left; (focus (go_simp; (try with_reducible rfl); done)); simp only [Act.put, List.setIfInBounds_toArray, List.set_cons_zero, List.set_cons_succ]))
                refine inv_mk (fun b => .slice (some ⟨b, 0, none⟩) 2 2) (.cells #[.int .u64 (wd X 0 : Int), .int .u64 (wd X 1 : Int), .int .u64 (wd X 2 : Int), .int .u64 (wd X 3 : Int), .int .u64 (wd G 0 : Int), .int .u64 (wd G 1 : Int), .int .u64 (wd G 2 : Int), .int .u64 (wd G 3 : Int)] 27 (0, 0)) (by rfl) (by rfl) (fun d os => ?_) ?_; (focus (go_simp; done)); simp only [List.nil_append, List.cons_append]
                repeat (first
                  | (refine inv_skip (by rfl) (by rfl) ?_; simp only [Act.put, List.setIfInBounds_toArray, List.set_cons_zero, List.set_cons_succ])
                  | (refine inv_val (v := ?_) (by rfl) (by rfl) (fun d os => ?_) ?_; rotate_left; (focus (go_simp; (try with_reducible rfl); done)); simp only [Act.put, List.setIfInBounds_toArray, List.set_cons_zero, List.set_cons_succ]))
                refine inv_callp (v := _) (f := 24) (args := fun b => #[.slice (some ⟨b, 0, none⟩) 2 2]) (by rfl) (by rfl) (fun b => by rfl) (fun b d os => by (simp only [Act.put, List.setIfInBounds_toArray, List.set_cons_zero, List.set_cons_succ]; go_simp; done)) KAd.out ?_; simp only [Act.put, List.setIfInBounds_toArray, List.set_cons_zero, List.set_cons_succ]
                repeat (first
                  | (refine inv_skip (by rfl) (by rfl) ?_; simp only [Act.put, List.setIfInBounds_toArray, List.set_cons_zero, List.set_cons_succ])
                  | (refine inv_val (v := ?_) (by rfl) (by rfl) (fun d os => ?_) ?_; rotate_left; (focus (go_simp; (try with_reducible rfl); done)); simp only [Act.put, List.setIfInBounds_toArray, List.set_cons_zero, List.set_cons_succ]))
                refine inv_call (args := ?_) (v := ?_) (f := 25) (by rfl) (by rfl) (fun d os => ?_) (fun d os => ?_) ?_; rotate_left 3; (focus (exact KRa.out _; done)); rotate_left; (focus (go_simp; done)); simp only [Act.put, List.setIfInBounds_toArray, List.set_cons_zero, List.set_cons_succ]
                repeat (first
                  | (refine inv_skip (by rfl) (by rfl) ?_; simp only [Act.put, List.setIfInBounds_toArray, List.set_cons_zero, List.set_cons_succ])
                  | (refine inv_val (v := ?_) (by rfl) (by rfl) (fun d os => ?_) ?_; rotate_left; (focus (go_simp; (try with_reducible rfl); done)); simp only [Act.put, List.setIfInBounds_toArray, List.set_cons_zero, List.set_cons_succ]))
                refine inv_call (args := ?_) (v := ?_) (f := 10) (by rfl) (by rfl) (fun d os => ?_) (fun d os => ?_) ?_; rotate_left 3; (focus (exact KiS.out _; done)); rotate_left; (focus (go_simp; done)); simp only [Act.put, List.setIfInBounds_toArray, List.set_cons_zero, List.set_cons_succ]
                repeat (first
                  | (refine inv_skip (by rfl) (by rfl) ?_; simp only [Act.put, List.setIfInBounds_toArray, List.set_cons_zero, List.set_cons_succ])
                  | (refine inv_val (v := ?_) (by rfl) (by rfl) (fun d os => ?_) ?_; rotate_left; (focus (go_simp; (try with_reducible rfl); done)); simp only [Act.put, List.setIfInBounds_toArray, List.set_cons_zero, List.set_cons_succ]))
                refine inv_end2 (t := 57) (t' := 71) ?_ ?_ (fun b b' d os => ?_)
                (focus (rfl; done))
                (focus (rfl; done))
                simp only [Act.put, List.setIfInBounds_toArray, List.set_cons_zero, List.set_cons_succ]
                clear d0 d1 d2 d3 d4 d5 d6 d7 d8 d9 d10 d11 d12 d13 d14 d15
                have hBW := below_regrown wc d os
                generalize Sort.grow (redrawn wc d) os = W at hBW ⊢
                go_step
                go_step
                go_meet
                case rel => exact ⟨rfl, hBW⟩

            case rest =>
              obtain ⟨rfl, hBe⟩ := hcut
              have RS3 := Lib.hid (isA_calls hBe RS2.out (Nat.le_refl _))
              have RP3 := Lib.hid (isA_calls hBe RP2.out (Nat.le_refl _))
              have RX3 := Lib.hid (isA_calls hBe RA8.out (Nat.le_refl _))
              have RE3 := Lib.hid (isA_calls hBe R10.out (Nat.le_refl _))
              have OW3 := Lib.hid (owns_below OW2.out hBe)
              have BB3 := Lib.hid (b_callsS hBe BB2.out (Nat.le_refl _))
              clear hBe R10 R11 RA8 RA9 RS2 RP2 OW2 BB2 KSu KRs KNg KRn KMu KRm KAd KRa KiD KiN KiM KiS K0
              go_wp2_with fail
              obtain ⟨⟨q0, q1, q2, q3⟩, _⟩ := fourV RS3.out
              have d0 := fun d os => cell_regrown q0 d os
              have d1 := fun d os => cell_regrown q1 d os
              have d2 := fun d os => cell_regrown q2 d os
              have d3 := fun d os => cell_regrown q3 d os
              clear q0 q1 q2 q3
              obtain ⟨⟨q0, q1, q2, q3⟩, _⟩ := fourV RP3.out
              have d4 := fun d os => cell_regrown q0 d os
              have d5 := fun d os => cell_regrown q1 d os
              have d6 := fun d os => cell_regrown q2 d os
              have d7 := fun d os => cell_regrown q3 d os
              clear q0 q1 q2 q3
              obtain ⟨⟨q0, q1, q2, q3⟩, _⟩ := fourV RX3.out
              have d8 := fun d os => cell_regrown q0 d os
              have d9 := fun d os => cell_regrown q1 d os
              have d10 := fun d os => cell_regrown q2 d os
              have d11 := fun d os => cell_regrown q3 d os
              clear q0 q1 q2 q3

              refine wp_region_inw 6 HMIX.out (by decide) (by kernel_rfl) (by kernel_rfl) ?_
              repeat (first
                | (refine inw_skip (by rfl) (by rfl) ?_; simp only [Act.put, List.setIfInBounds_toArray, List.set_cons_zero, List.set_cons_succ])
                | (refine inw_val (v := ?_) (by rfl) (by rfl) (fun d os => ?_) ?_; rotate_left; (focus (go_simp; (try with_reducible rfl); done)); simp only [Act.put, List.setIfInBounds_toArray, List.set_cons_zero, List.set_cons_succ]))
              refine inw_call (args := ?_) (v := ?_) (f := 25) (by rfl) (by rfl) (fun d os => ?_) (fun d os => ?_) ?_; rotate_left 3; (focus (exact KA2.out _; done)); rotate_left; (focus (go_simp; done)); simp only [Act.put, List.setIfInBounds_toArray, List.set_cons_zero, List.set_cons_succ]
              repeat (first
                | (refine inw_skip (by rfl) (by rfl) ?_; simp only [Act.put, List.setIfInBounds_toArray, List.set_cons_zero, List.set_cons_succ])
                | (refine inw_val (v := ?_) (by rfl) (by rfl) (fun d os => ?_) ?_; rotate_left; (focus (go_simp; (try with_reducible rfl); done)); simp only [Act.put, List.setIfInBounds_toArray, List.set_cons_zero, List.set_cons_succ]))
              refine inw_call (args := ?_) (v := ?_) (f := 23) (by rfl) (by rfl) (fun d os => ?_) (fun d os => ?_) ?_; rotate_left 3; (focus (exact KB2.out _; done)); rotate_left; (focus (go_simp; done)); simp only [Act.put, List.setIfInBounds_toArray, List.set_cons_zero, List.set_cons_succ]
              repeat (first
                | (refine inw_skip (by rfl) (by rfl) ?_; simp only [Act.put, List.setIfInBounds_toArray, List.set_cons_zero, List.set_cons_succ])
                | (refine inw_val (v := ?_) (by rfl) (by rfl) (fun d os => ?_) ?_; rotate_left; (focus (go_simp; (try with_reducible rfl); done)); simp only [Act.put, List.setIfInBounds_toArray, List.set_cons_zero, List.set_cons_succ]))
              refine inw_end (fun d os => ?_)
              have hBW := below_regrown wc d os
              generalize Sort.grow (redrawn wc d) os = W at hBW ⊢
              clear d0 d1 d2 d3 d4 d5 d6 d7 d8 d9 d10 d11
              have hS := isA_calls hBW RS3.out (Nat.le_refl _)
              have hP := isA_calls hBW RP3.out (Nat.le_refl _)
              have hE := isA_calls hBW RE3.out (Nat.le_refl _)
              have hOw := owns_below OW3.out hBW
              have hBb := b_callsS hBW BB3.out (Nat.le_refl _)
              have hle := XL.out
              have hlE := HL10.out
              have hs1 := (isA_set (n := A2) hS).far (c := b3 + 1) (v0 := .int .u64 (wd B2 0 : Int)) (v1 := .int .u64 (wd B2 1 : Int)) (v2 := .int .u64 (wd B2 2 : Int)) (v3 := .int .u64 (wd B2 3 : Int)) (by omega)
              have hp1 := hP.far (c := b3) (v0 := .int .u64 (wd A2 0 : Int)) (v1 := .int .u64 (wd A2 1 : Int)) (v2 := .int .u64 (wd A2 2 : Int)) (v3 := .int .u64 (wd A2 3 : Int)) (by omega)
              have hp2 := isA_set (n := B2) hp1
              have he2 := (hE.far (c := b3) (v0 := .int .u64 (wd A2 0 : Int)) (v1 := .int .u64 (wd A2 1 : Int)) (v2 := .int .u64 (wd A2 2 : Int)) (v3 := .int .u64 (wd A2 3 : Int)) (by omega)).far (c := b3 + 1) (v0 := .int .u64 (wd B2 0 : Int)) (v1 := .int .u64 (wd B2 1 : Int)) (v2 := .int .u64 (wd B2 2 : Int)) (v3 := .int .u64 (wd B2 3 : Int)) (by omega)
              have ho2 := own_far4 (c := b3 + 1) (v0 := .int .u64 (wd B2 0 : Int)) (v1 := .int .u64 (wd B2 1 : Int)) (v2 := .int .u64 (wd B2 2 : Int)) (v3 := .int .u64 (wd B2 3 : Int)) (own_far4 (c := b3) (v0 := .int .u64 (wd A2 0 : Int)) (v1 := .int .u64 (wd A2 1 : Int)) (v2 := .int .u64 (wd A2 2 : Int)) (v3 := .int .u64 (wd A2 3 : Int)) hOw (by omega)) (by omega)
              have hb2 := b_set4 (v0 := .int .u64 (wd B2 0 : Int)) (v1 := .int .u64 (wd B2 1 : Int)) (v2 := .int .u64 (wd B2 2 : Int)) (v3 := .int .u64 (wd B2 3 : Int)) (b := b3 + 1) (b_set4 (v0 := .int .u64 (wd A2 0 : Int)) (v1 := .int .u64 (wd A2 1 : Int)) (v2 := .int .u64 (wd A2 2 : Int)) (v3 := .int .u64 (wd A2 3 : Int)) (b := b3) hBb (by omega)) (by omega)
              have HH := Lib.hid (And.intro hs1 (And.intro hp2 (And.intro he2 (And.intro ho2 hb2))))
              have HP1 := Lib.hid hp1
              obtain ⟨⟨z0, z1, z2, z3⟩, zf0, zf1, zf2, zf3⟩ := fourV hS
              clear hs1 hp1 hp2 he2 ho2 hb2 hS hP hE hOw hBb hBW hle hlE RS3 RP3 RE3 OW3 BB3 KA2 KB2
              change wpAny _ _ _ _ 2 _ _ _
              refine any_one (i := 6) (by kernel_rfl) rfl (fun K hK => ?_)
              go_simp
              refine hK _ _ ?_
              clear hK K z0 z1 z2 z3 zf0 zf1 zf2 zf3
              obtain ⟨⟨z0, z1, z2, z3⟩, zf0, zf1, zf2, zf3⟩ := fourV HP1.out
              clear HP1
              refine any_one (i := 7) (by kernel_rfl) rfl (fun K hK => ?_)
              go_simp
              refine hK _ _ ?_
              clear hK K z0 z1 z2 z3 zf0 zf1 zf2 zf3
              refine wpAny_done (by kernel_rfl) ?_ _
              obtain ⟨U, hU⟩ : ∃ U, (((((((W.setCell ⟨b3, 0, none⟩ (.int .u64 (wd A2 0 : Int))).setCell ⟨b3, 1, none⟩ (.int .u64 (wd A2 1 : Int))).setCell ⟨b3, 2, none⟩ (.int .u64 (wd A2 2 : Int))).setCell ⟨b3, 3, none⟩ (.int .u64 (wd A2 3 : Int))).setCell ⟨b3 + 1, 0, none⟩ (.int .u64 (wd B2 0 : Int))).setCell ⟨b3 + 1, 1, none⟩ (.int .u64 (wd B2 1 : Int))).setCell ⟨b3 + 1, 2, none⟩ (.int .u64 (wd B2 2 : Int))).setCell ⟨b3 + 1, 3, none⟩ (.int .u64 (wd B2 3 : Int)) = U := ⟨_, rfl⟩
              rw [hU] at HH ⊢
              clear hU

              obtain ⟨⟨y0, y1, y2, y3⟩, _⟩ := fourV HH.out.2.2.1
              obtain ⟨hi, hz0, hz1, hz2⟩ := HIF.out
              have hzU : b3 + 2 ≤ U.heap.size := by have := lt_blk HH.out.2.1; omega
              go_wp2_with (at_builtin; refine wpList_append_own _ (by rfl) (.tmp 86) (.tmp 88) 45 (by rfl) (b3 + 2) 27 i0 (.agg #[.int .u64 0, .int .u64 0, .int .u64 0, .int .u64 0]) 4 32 Try.underlying45 hi hz0 hz1 hz2 rfl (by decide) _ k _ (by simp [Act.eval]; rfl) (by exact HH.out.2.2.2.1.alloc _) ⟨U.heap.size, 0, none⟩ 1 1 (numL X) (by simp [Act.eval]) rfl (by exact news4 U X _) (by simp [Value.oneCell', numL]) (by unfold maxLen; omega) (by omega) (by simp; omega) ?_; intro v3 w6 hown6 hgrow6 _)
              go_roundw
              case rel =>
                have hA : IsA w6 b3 A2 23 := (HH.out.1.alloc _).grown hgrow6 (fun e => by have := (HH.out.2.2.2.1.lt _ e.symm).1; omega)
                have hB : IsA w6 (b3 + 1) B2 23 := (HH.out.2.1.alloc _).grown hgrow6 (fun e => by have := (HH.out.2.2.2.1.lt _ e.symm).1; omega)
                refine ⟨k + 1, by omega, congrArg (Value.int .i64) (by omega), by rw [HA2.out]; exact hA, by rw [HB2.out]; exact hB, by rw [HTK.out, numsL_snoc]; exact hown6, (gr_alloc HH.out.2.2.2.2 _).grown hgrow6 (by rw [alloc_size1]; have := XL.out; omega) (fun j hj => by have := (HH.out.2.2.2.1.lt j hj).1; have := XL.out; omega)⟩
              case measure =>
                simp [Go.RowKit.intOf]
                omega
      · obtain rfl : k = len := by omega
        have p2 : ¬ (k : Int) < (k : Int) := by omega
        have hall : xs.take k = xs := List.take_of_length_le (by rw [HXN.out]; exact Nat.le_refl _)
        rw [hall] at hown
        obtain ⟨a1, cp1, rfl, hcp, hn1⟩ := own_nums hown HXN.out HXL.out
        have HMIX := Lib.hid (show Try.prog.follows .mixedOrders = true by kernel_rfl)
        have KS := Lib.hid (fun d os => padd_any a1 k cp1 xs (Sort.grow (redrawn wr d) os) (by omega) (hn1.below (below_regrown wr d os)))
        have KP := Lib.hid (fun d os => pmul_any a1 k cp1 xs (Sort.grow (redrawn wr d) os) (by omega) hcp (hn1.below (below_regrown wr d os)))
        have hmp := mulP_is xs HXL.out k
        rw [hmp] at KP
        have hA := sumP_lt xs k
        have hB := prdF_lt xs k
        obtain ⟨A, hAa⟩ : ∃ A, sumP xs k = A := ⟨_, rfl⟩
        obtain ⟨B, hBb⟩ : ∃ B, prdF xs k = B := ⟨_, rfl⟩
        rw [hAa] at rs KS hA
        rw [hBb] at rp KP hB
        have KiA := Lib.hid (fun w => is_any A A w (of_PN hA) (of_PN hA))
        have KiB := Lib.hid (fun w => is_any B B w (of_PN hB) (of_PN hB))
        simp only [decide_true] at KiA KiB
        simp only [numV_agg] at KS KP KiA KiB
        obtain ⟨⟨q0, q1, q2, q3⟩, _⟩ := fourV rs
        have d0 := fun d os => cell_regrown q0 d os
        have d1 := fun d os => cell_regrown q1 d os
        have d2 := fun d os => cell_regrown q2 d os
        have d3 := fun d os => cell_regrown q3 d os
        clear q0 q1 q2 q3
        obtain ⟨⟨q0, q1, q2, q3⟩, _⟩ := fourV rp
        have d4 := fun d os => cell_regrown q0 d os
        have d5 := fun d os => cell_regrown q1 d os
        have d6 := fun d os => cell_regrown q2 d os
        have d7 := fun d os => cell_regrown q3 d os
        clear q0 q1 q2 q3

        have HBE := Lib.hid hbe
        clear rs rp hown hbe hn1 hall hA hB hAa hBb hmp HAT hcp
        go_wp2_with fail
        refine wp_region_inv HMIX.out (by kernel_rfl) ?_
        repeat (first
          | (refine inv_skip (by rfl) (by rfl) ?_; simp only [Act.put, List.setIfInBounds_toArray, List.set_cons_zero, List.set_cons_succ])
          | (refine inv_val (v := ?_) (by rfl) (by rfl) (fun d os => ?_) ?_; rotate_left; (focus (go_simp; (try with_reducible rfl); done)); simp only [Act.put, List.setIfInBounds_toArray, List.set_cons_zero, List.set_cons_succ]))
        refine inv_call (args := ?_) (v := ?_) (f := 24) (by rfl) (by rfl) (fun d os => ?_) (fun d os => ?_) ?_; rotate_left 3; (focus (exact KS.out _ _; done)); rotate_left; (focus (go_simp; done)); simp only [Act.put, List.setIfInBounds_toArray, List.set_cons_zero, List.set_cons_succ]
        repeat (first
          | (refine inv_skip (by rfl) (by rfl) ?_; simp only [Act.put, List.setIfInBounds_toArray, List.set_cons_zero, List.set_cons_succ])
          | (refine inv_val (v := ?_) (by rfl) (by rfl) (fun d os => ?_) ?_; rotate_left; (focus (go_simp; (try with_reducible rfl); done)); simp only [Act.put, List.setIfInBounds_toArray, List.set_cons_zero, List.set_cons_succ]))
        refine inv_call (args := ?_) (v := ?_) (f := 10) (by rfl) (by rfl) (fun d os => ?_) (fun d os => ?_) ?_; rotate_left 3; (focus (exact KiA.out _; done)); rotate_left; (focus (go_simp; done)); simp only [Act.put, List.setIfInBounds_toArray, List.set_cons_zero, List.set_cons_succ]
        repeat (first
          | (refine inv_skip (by rfl) (by rfl) ?_; simp only [Act.put, List.setIfInBounds_toArray, List.set_cons_zero, List.set_cons_succ])
          | (refine inv_val (v := ?_) (by rfl) (by rfl) (fun d os => ?_) ?_; rotate_left; (focus (go_simp; (try with_reducible rfl); done)); simp only [Act.put, List.setIfInBounds_toArray, List.set_cons_zero, List.set_cons_succ]))
        refine inv_call (args := ?_) (v := ?_) (f := 22) (by rfl) (by rfl) (fun d os => ?_) (fun d os => ?_) ?_; rotate_left 3; (focus (exact KP.out _ _; done)); rotate_left; (focus (go_simp; done)); simp only [Act.put, List.setIfInBounds_toArray, List.set_cons_zero, List.set_cons_succ]
        repeat (first
          | (refine inv_skip (by rfl) (by rfl) ?_; simp only [Act.put, List.setIfInBounds_toArray, List.set_cons_zero, List.set_cons_succ])
          | (refine inv_val (v := ?_) (by rfl) (by rfl) (fun d os => ?_) ?_; rotate_left; (focus (go_simp; (try with_reducible rfl); done)); simp only [Act.put, List.setIfInBounds_toArray, List.set_cons_zero, List.set_cons_succ]))
        refine inv_call (args := ?_) (v := ?_) (f := 10) (by rfl) (by rfl) (fun d os => ?_) (fun d os => ?_) ?_; rotate_left 3; (focus (exact KiB.out _; done)); rotate_left; (focus (go_simp; done)); simp only [Act.put, List.setIfInBounds_toArray, List.set_cons_zero, List.set_cons_succ]
        repeat (first
          | (refine inv_skip (by rfl) (by rfl) ?_; simp only [Act.put, List.setIfInBounds_toArray, List.set_cons_zero, List.set_cons_succ])
          | (refine inv_val (v := ?_) (by rfl) (by rfl) (fun d os => ?_) ?_; rotate_left; (focus (go_simp; (try with_reducible rfl); done)); simp only [Act.put, List.setIfInBounds_toArray, List.set_cons_zero, List.set_cons_succ]))
        refine inv_call (args := ?_) (v := ?_) (f := 16) (by rfl) (by rfl) (fun d os => ?_) (fun d os => ?_) ?_; rotate_left 3; (focus (exact KLv.out _; done)); rotate_left; (focus (go_simp; done)); simp only [Act.put, List.setIfInBounds_toArray, List.set_cons_zero, List.set_cons_succ]
        repeat (first
          | (refine inv_skip (by rfl) (by rfl) ?_; simp only [Act.put, List.setIfInBounds_toArray, List.set_cons_zero, List.set_cons_succ])
          | (refine inv_val (v := ?_) (by rfl) (by rfl) (fun d os => ?_) ?_; rotate_left; (focus (go_simp; (try with_reducible rfl); done)); simp only [Act.put, List.setIfInBounds_toArray, List.set_cons_zero, List.set_cons_succ]))

        refine inv_end (fun d os => ?_)
        have hBW := b_callsS (below_regrown wr d os) HBE.out (Nat.le_refl _)
        go_step
        go_wp2_with fail
        go_ret
        exact ⟨rfl, hBW⟩
end Go.Proofs.Ytmpbndhlnnfbfaa
