/- The reference's P, p, fold (layer 19): contracts. -/
import Derived.Test.YthdbadomppohbaaPriL
namespace Go.Proofs.Ythdbadomppohbaa
set_option maxRecDepth 20000
set_option linter.unusedSimpArgs false
set_option linter.unusedVariables false
open Go.RowKit
theorem rp_any (w : World) : Calls Try.prog 74 #[] w fun e w' => e = .returned (numV PN) ∧ Below w.heap.size w w' := by
  have kl := load_arr (W := w.alloc (.cells (numL PN).toArray 23)) (b := w.heap.size) (n := PN) (alloc_new _ _)
  have e1 : (numL PN).toArray = #[.int .u64 18446744073709551597, .int .u64 18446744073709551615, .int .u64 18446744073709551615, .int .u64 9223372036854775807] := by
    have h := num_PN
    unfold numV at h
    unfold numL
    injection h
  rw [e1, num_PN] at kl
  rw [num_PN]
  have KL := Lib.hid kl
  clear kl e1
  go_enter Try.func74, Try.ntmps74
  go_wp2_with fail
  exact bodyPost_ret (results_arr Try.results74 (by rfl) KL.out) rfl ⟨rfl, gr_alloc (Below.refl _ _) _⟩
theorem rpl_any (w : World) : Calls Try.prog 56 #[] w fun e w' => ∃ g, e = .returned (.slice (some ⟨g, 0, none⟩) 16 16) ∧ OwnN w' g 16 PN ∧ w.heap.size ≤ g ∧ Below w.heap.size w w' := by
  have K1 := Lib.hid rp_any
  have K2 := Lib.hid (fun w => rof_any PN w PN_B)
  generalize PN = p at K1 K2 ⊢
  simp only [numV_agg] at K1 K2
  go_enter Try.func56, Try.ntmps56
  go_wp2_with fail
  refine (K1.out _).mono ?_
  rintro e w1 ⟨rfl, hb1⟩
  go_wp2_with fail
  refine (K2.out _).mono ?_
  rintro e w2 ⟨g, rfl, ho, hg, hb2⟩
  have HO := Lib.hid ho
  clear ho
  go_wp2_with fail
  go_ret
  exact ⟨g, rfl, HO.out, Nat.le_trans hb1.size hg, hb1.trans (hb2.mono hb1.size)⟩
theorem B16_is : (65536 : Nat) ^ 16 = B64 ^ 4 := by decide +kernel
/-- A number's next one, with what stands above 2^256 counted 38 times. -/
theorem great_mod (n : Nat) : (n % 65536 ^ 16 + n / 65536 ^ 16 * 38) % PN = n % PN := by
  have h := fold_mod (n / B64 ^ 4) (n % B64 ^ 4)
  rw [B16_is, Nat.add_comm, Nat.mul_comm _ 38, ← h, Nat.mul_comm, Nat.div_add_mod]
theorem great_less (n : Nat) (h : 65536 ^ 16 ≤ n) : n % 65536 ^ 16 + n / 65536 ^ 16 * 38 < n := by
  have h1 := Nat.div_add_mod n (65536 ^ 16)
  have h2 : 0 < n / 65536 ^ 16 := Nat.div_pos h (by decide)
  have h3 : n / 65536 ^ 16 * 38 < n / 65536 ^ 16 * 65536 ^ 16 := Nat.mul_lt_mul_of_pos_left (by decide) h2
  rw [Nat.mul_comm] at h1
  omega
theorem rto0 (a : Option Addr) (la ca n : Nat) (w : World) (ha : IsN w a la ca n) (hn : n < B64 ^ 4) :
    Calls Try.prog 59 #[.slice a la ca, .int .i64 0] w fun e w' => e = .returned (numV n) ∧ Below w.heap.size w w' := by
  have h := rto_any a la ca n 0 w ha (by omega)
  rw [Nat.pow_zero, Nat.div_one, Nat.mod_eq_of_lt hn] at h
  exact h
/-- One limb in a block of its own. -/
theorem one_limb {W : World} {b : Nat} (h : W.heap[b]? = some (.cells #[.int .u64 38] 22 (0, 0))) : IsN W (some ⟨b, 0, none⟩) 1 1 38 := by
  refine ⟨by decide, by omega, .inr ⟨b, rfl, Nat.le_refl _, lt_blk h, fun i hi => ?_⟩⟩
  obtain rfl : i = 0 := by omega
  simp [World.cell?, h]
  decide
set_option maxHeartbeats 8000000 in
theorem fold_any (g la ca n : Nat) (w : World) (h : IsN w (some ⟨g, 0, none⟩) la ca n) (h16 : 16 ≤ la) (hl : la ≤ 60) :
    Calls Try.prog 30 #[.slice (some ⟨g, 0, none⟩) la ca] w fun e w' => e = .returned (numV (n % PN)) ∧ Below w.heap.size w w' := by
  obtain ⟨xr, xz, xB⟩ := z1_at 23 w
  have HN := Lib.hid (And.intro (IsN_below h xB) (And.intro h16 hl))
  have HX := Lib.hid (And.intro xr xB)
  obtain ⟨R, hR⟩ : ∃ R, n % PN = R := ⟨_, rfl⟩
  have HR := Lib.hid hR
  rw [hR]
  have KG := Lib.hid great_any
  have KM := Lib.hid rmulO_any
  have KA := Lib.hid radd_any
  have KP := Lib.hid rpl_any
  have KL := Lib.hid rless_any
  have KS := Lib.hid rsub_any
  have KT := Lib.hid rto0
  simp only [numV_agg] at KT ⊢
  clear h xr xB h16 hl hR
  go_enter Try.func30, Try.ntmps30
  go_wp2_with fail
  change Code.wp _ _ _ _ (Z1 23 w)
  generalize Z1 23 w = X at *
  go_loopg [0] n (fun gk s0 wr => ∃ g la ca, s0 = .slice (some ⟨g, 0, none⟩) la ca ∧ IsN wr (some ⟨g, 0, none⟩) la ca gk ∧ 16 ≤ la ∧ la ≤ 60 ∧ gk % PN = R ∧ IsA wr w.heap.size 0 23 ∧ Below w.heap.size w wr)
  case atStart => exact ⟨g, la, ca, rfl, HN.out.1, HN.out.2.1, HN.out.2.2, HR.out, HX.out.1, HX.out.2⟩
  case round =>
    obtain ⟨g, la, ca, rfl, hin, h16, hl, hm, rr, rb⟩ := hrel
    clear HN HX HR xz
    obtain ⟨hca, hgl, _⟩ := IsN_cells hin (by omega)
    have hbs := rb.size
    have KG1 := KG.out g la ca gk wr hin h16 (by omega)
    by_cases hgr : 65536 ^ 16 ≤ gk
    · rw [decide_eq_true hgr] at KG1
      have la16 : 16 < la := by
        rcases Nat.lt_or_ge 16 la with h | h
        · exact h
        · have h1 := hin.1
          have h2 : 65536 ^ la ≤ 65536 ^ 16 := Nat.pow_le_pow_right (by decide) h
          omega
      have HG1 := Lib.hid KG1
      have HIN := Lib.hid (And.intro hin (And.intro hm hgr))
      have RR := Lib.hid rr
      have RB := Lib.hid rb
      have i1 : (16 : Int) ≤ (la : Int) := by omega
      have i2 : (16 : Int) ≤ (ca : Int) := by omega
      have i3 : (la : Int) ≤ (ca : Int) := by omega
      clear KG1 hin hm hgr rr rb
      go_wp2_with fail
      refine HG1.out.mono ?_
      rintro e w1 ⟨rfl, hb1⟩
      clear HG1
      have hs1 := hb1.size
      have HIN1 := Lib.hid (IsN_below HIN.out.1 hb1)
      have RR1 := Lib.hid (RR.out.keep hb1)
      have RB1 := Lib.hid (b_calls hb1 RB.out hbs)
      clear RR RB hb1
      have j1 : (16 : Int) < (ca : Int) := by omega
      have j2 : ¬ ca ≤ 16 := by omega
      have j3 : ¬ ca = 16 := by omega
      have HO : Hid (∀ W, Below w1.heap.size w1 W → IsO W g 16 (la - 16) (gk / 65536 ^ 16)) := fun W hW => (IsO_high HIN1.out la16).below hW
      have HLo : Hid (∀ W, Below w1.heap.size w1 W → IsN W (some ⟨g, 0, none⟩) 16 ca (gk % 65536 ^ 16)) := fun W hW => IsN_below (IsN_low HIN1.out h16) hW
      obtain ⟨H, hH⟩ : ∃ H, gk / 65536 ^ 16 = H := ⟨_, rfl⟩
      obtain ⟨lo, hlo⟩ : ∃ lo, gk % 65536 ^ 16 = lo := ⟨_, rfl⟩
      have hgm := great_mod gk
      have hgl := great_less gk HIN.out.2.2
      rw [hH] at HO hgm hgl
      rw [hlo] at HLo hgm hgl
      have HGM := Lib.hid (And.intro (hgm.trans HIN.out.2.1) hgl)
      clear hH hlo hgm hgl
      go_wp2_with fail
      go_region_held3 (fun w' => True) (first | (with_reducible exact trivial) | go_keep) (first
        | (go_at_call 55; (refine (KM.out g _ (la - 16) _ 1 1 H 38 _ ?_ ?_ ?_ ?_ ?_ ?_).mono ?_); (focus (refine HO.out _ ?_; (repeat (first | (with_reducible exact Below.refl _ _) | (with_reducible apply b_alloc) | (with_reducible apply b_drew))); done)); (focus (refine one_limb ?_; (first | (with_reducible exact alloc_new _ _) | (with_reducible exact drew_keep (alloc_new _ _))); done)); (focus (omega; done)); (focus (omega; done)); (focus (omega; done)); (focus (omega; done)); rintro e w3 ⟨g3, rfl, ho3, hg3, hb3⟩)
        | (go_at_call 54; (refine (KA.out (some ⟨g, 0, none⟩) (some ⟨g3, 0, none⟩) 16 _ (la - 16 + 1) (la - 16 + 1) lo (H * 38) _ ?_ ?_ ?_ ?_).mono ?_); (focus (refine HLo.out _ ?_; (repeat (first | (with_reducible assumption) | (with_reducible exact Below.refl _ _) | (with_reducible apply b_alloc) | (with_reducible apply b_drew) | (with_reducible apply b_callsS) | exact Nat.le_refl _ | (simp; done))); done)); (focus (exact ho3.is _ (Nat.le_refl _); done)); (focus (omega; done)); (focus (omega; done)); rintro e w4 ⟨g4, rfl, ho4, hg4, hb4⟩))
      rename_i hH
      clear hH
      have hb14 : Below w1.heap.size w1 w4 := by
        (repeat (first | (with_reducible assumption) | (with_reducible exact Below.refl _ _) | (with_reducible apply b_alloc) | (with_reducible apply b_drew) | (with_reducible apply b_callsS) | exact Nat.le_refl _ | (simp; done)))
      have hm1 : 16 ≤ max 16 (la - 16 + 1) + 1 := by have := Nat.le_max_left 16 (la - 16 + 1); omega
      have hm2 : max 16 (la - 16 + 1) + 1 ≤ 60 := by have := Nat.max_le.2 (And.intro (show 16 ≤ 59 by omega) (show la - 16 + 1 ≤ 59 by omega)); omega
      have HO4 := Lib.hid (And.intro (ho4.is _ (Nat.le_refl _)) (And.intro hm1 hm2))
      have RR4 := Lib.hid (isA_calls hb14 RR1.out (Nat.le_refl _))
      have RB4 := Lib.hid (b_callsS hb14 RB1.out (Nat.le_refl _))
      clear ho3 ho4 hb3 hb4 hb14 hm1 hm2 RR1 RB1 HO HLo
      generalize max 16 (la - 16 + 1) + 1 = ml at *
      go_wp2_with fail
      go_roundg (lo + H * 38)
      case rel => exact ⟨g4, ml, ml, rfl, HO4.out.1, HO4.out.2.1, HO4.out.2.2, HGM.out.1, RR4.out, RB4.out⟩
      case measure => exact HGM.out.2
    · rw [decide_eq_false hgr] at KG1
      have HG1 := Lib.hid KG1
      have HIN := Lib.hid (And.intro hin (And.intro hm hgr))
      have RR := Lib.hid rr
      have RB := Lib.hid rb
      clear KG1 hin hm hgr rr rb
      go_wp2_with fail
      refine HG1.out.mono ?_
      rintro e w1 ⟨rfl, hb1⟩
      clear HG1
      go_wp2_with fail
      refine (KP.out _).mono ?_
      rintro e w2 ⟨gp, rfl, hop, hgp, hb2⟩
      have hb12 := b_callsS hb2 hb1 (Nat.le_refl _)
      have HIN2 := Lib.hid (IsN_below HIN.out.1 hb12)
      have RR2 := Lib.hid (RR.out.keep hb12)
      have RB2 := Lib.hid (b_callsS hb12 RB.out (Nat.le_refl _))
      have HOP := Lib.hid hop
      have HM := Lib.hid HIN.out.2
      clear RR RB hb1 hb2 hb12 hop hgp HIN
      go_wp2_with fail
      generalize w2 = Z at *
      go_loopg [0] gk (fun gq s0 wr => ∃ g la ca, s0 = .slice (some ⟨g, 0, none⟩) la ca ∧ IsN wr (some ⟨g, 0, none⟩) la ca gq ∧ 16 ≤ la ∧ gq < 65536 ^ 16 ∧ gq % PN = R ∧ OwnN wr gp 16 PN ∧ IsA wr w.heap.size 0 23 ∧ Below w.heap.size w wr)
      case atStart => exact ⟨g, la, ca, rfl, HIN2.out, h16, by have := HM.out.2; omega, HM.out.1, HOP.out, RR2.out, RB2.out⟩
      case round =>
        obtain ⟨g', la', ca', rfl, hin, h16', hgq, hm, hop, rr, rb⟩ := hrel
        clear HIN2 RR2 RB2 HOP HM
        have hbs2 := rb.size
        have KL1 := KL.out (some ⟨g', 0, none⟩) (some ⟨gp, 0, none⟩) la' ca' 16 16 gk PN wr hin (hop.is 16 (Nat.le_refl _))
        by_cases hlt : gk < PN
        · rw [decide_eq_true hlt] at KL1
          have HL1 := Lib.hid KL1
          have hE : gk = R := by rw [← hm, Nat.mod_eq_of_lt hlt]
          have KT1 := fun w' (hw : IsN w' (some ⟨g', 0, none⟩) la' ca' gk) => KT.out (some ⟨g', 0, none⟩) la' ca' gk w' hw (of_PN hlt)
          have HT1 := Lib.hid KT1
          have HIN := Lib.hid hin
          have RR := Lib.hid rr
          have RB := Lib.hid rb
          have HE := Lib.hid hE
          clear KL1 hin hop rr rb hm hgq hlt hE KT1
          go_wp2_with fail
          refine HL1.out.mono ?_
          rintro e w3 ⟨rfl, nq, rfl⟩
          clear HL1
          have bq : Below wr.heap.size wr (wr.drewN nq) := below_drewN1 (Below.refl _ _) nq
          have HIN3 := Lib.hid (IsN_below HIN.out bq)
          have RR3 := Lib.hid (RR.out.keep bq)
          have RB3 := Lib.hid (b_callsS bq RB.out (Nat.le_refl _))
          clear HIN RR RB bq
          go_wp2_with fail
          generalize wr.drewN nq = Z3 at *
          refine (HT1.out Z3 HIN3.out).mono ?_
          rintro e w4 ⟨rfl, hb4⟩
          have xr := isA_zero' (RR3.out.keep hb4)
          obtain ⟨⟨d0, d1, d2, d3⟩, e0, e1, e2, e3⟩ := fourV xr
          have KLd := Lib.hid (load_arr (isA_set (n := gk) xr))
          have BR := Lib.hid (b_set4 (b_callsS hb4 RB3.out (Nat.le_refl _)) (v0 := .int .u64 (wd gk 0 : Int)) (v1 := .int .u64 (wd gk 1 : Int)) (v2 := .int .u64 (wd gk 2 : Int)) (v3 := .int .u64 (wd gk 3 : Int)) (b := w.heap.size) (Nat.le_refl _))
          clear xr RR3 RB3 HIN3 hb4 HT1
          go_wp2_with fail
          exact bodyPost_ret (results_arr Try.results30 (by rfl) KLd.out) rfl ⟨by rw [← HE.out]; rfl, BR.out⟩
        · rw [decide_eq_false hlt] at KL1
          have HL1 := Lib.hid KL1
          have KS1 := fun w' (hw : IsN w' (some ⟨g', 0, none⟩) la' ca' gk) (hp : OwnN w' gp 16 PN) => KS.out (some ⟨g', 0, none⟩) (some ⟨gp, 0, none⟩) la' ca' 16 16 gk PN w' hw (hp.is 16 (Nat.le_refl _)) (Nat.le_of_not_lt hlt)
          have HS1 := Lib.hid KS1
          have hle : PN ≤ gk := Nat.le_of_not_lt hlt
          have HIN := Lib.hid (And.intro hin hop)
          have RR := Lib.hid rr
          have RB := Lib.hid rb
          have HE := Lib.hid (And.intro hm (And.intro hgq hle))
          clear KL1 hin hop rr rb hm hgq hlt hle KS1
          go_wp2_with fail
          refine HL1.out.mono ?_
          rintro e w3 ⟨rfl, nq, rfl⟩
          clear HL1
          have bq : Below wr.heap.size wr (wr.drewN nq) := below_drewN1 (Below.refl _ _) nq
          have HIN3 := Lib.hid (And.intro (IsN_below HIN.out.1 bq) (HIN.out.2.below bq))
          have RR3 := Lib.hid (RR.out.keep bq)
          have RB3 := Lib.hid (b_callsS bq RB.out (Nat.le_refl _))
          clear HIN RR RB bq
          go_wp2_with fail
          generalize wr.drewN nq = Z3 at *
          refine (HS1.out Z3 HIN3.out.1 HIN3.out.2).mono ?_
          rintro e w4 ⟨rfl, ho4, hb4⟩
          have HO4 := Lib.hid (And.intro (ho4.is la' (Nat.le_refl _)) (HIN3.out.2.below hb4))
          have RR4 := Lib.hid (RR3.out.keep hb4)
          have RB4 := Lib.hid (b_callsS hb4 RB3.out (Nat.le_refl _))
          clear RR3 RB3 HIN3 hb4 HS1 ho4
          go_wp2_with fail
          go_roundg (gk - PN)
          case rel =>
            have h1 := HE.out
            refine ⟨_, la', la', rfl, HO4.out.1, h16', by omega, ?_, HO4.out.2, RR4.out, RB4.out⟩
            rw [← h1.1]
            exact (Nat.mod_eq_sub_mod h1.2.2).symm
          case measure =>
            have h1 := HE.out
            have h2 := PN_pos
            omega
end Go.Proofs.Ythdbadomppohbaa
