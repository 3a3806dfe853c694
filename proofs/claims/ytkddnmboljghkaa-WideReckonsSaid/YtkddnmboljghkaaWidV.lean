/- The law of sums, differences, products, layer 13. -/
import Derived.Test.YtkddnmboljghkaaWidN
import Derived.Test.YtkddnmboljghkaaWidLb
import Derived.Test.YtkddnmboljghkaaWidMb
import Derived.Test.YtkddnmboljghkaaWidMc
import Derived.Test.YtkddnmboljghkaaWidJ
import Derived.Test.YtkddnmboljghkaaWidH
namespace Go.Proofs.Ytkddnmboljghkaa
open Go.RowKit
/-- The block b holds the number n, as an array of type t. -/
def IsA (w : World) (b n : Nat) (t : TypeId) : Prop := w.heap[b]? = some (.cells #[.int .u64 (wd n 0 : Int), .int .u64 (wd n 1 : Int), .int .u64 (wd n 2 : Int), .int .u64 (wd n 3 : Int)] t (0, 0))
theorem IsA.keep {w w' : World} {b n : Nat} {t : TypeId} (r : IsA w b n t) (hb : Below w.heap.size w w') : IsA w' b n t := Go.Proofs.Ytkddnmboljghkaa.keep r hb
theorem IsA.alloc {w : World} {b n : Nat} {t : TypeId} (r : IsA w b n t) (z : Obj) : IsA (w.alloc z) b n t := alloc_keep r z
theorem alloc_new1 (w : World) (z o : Obj) : ((w.alloc z).alloc o).heap[w.heap.size + 1]? = some o := by
  have := alloc_new (w.alloc z) o
  rw [alloc_size1] at this
  exact this
theorem mul_high (a b : Nat) (ha : a < B64 ^ 4) (hb : b < B64 ^ 4) : a * b / 65536 ^ 16 % B64 ^ 4 = a * b / B64 ^ 4 := by
  rw [show (65536 : Nat) ^ 16 = B64 ^ 4 by decide]
  apply Nat.mod_eq_of_lt
  rw [Nat.div_lt_iff_lt_mul (Nat.pow_pos B64_pos)]
  exact Nat.mul_lt_mul'' ha hb
theorem less_is (a b : Nat) : ((subK a b : Int) == 1) = decide (a < b) := by
  unfold subK
  split
  · rename_i h; rw [decide_eq_true h]; rfl
  · rename_i h; rw [decide_eq_false h]; rfl
theorem sub_fits (a b : Nat) (ha : a < B64 ^ 4) (hb : b < B64 ^ 4) : subN a b < B64 ^ 4 := by
  unfold subN
  split <;> omega
theorem sub_back (a b : Nat) (ha : a < B64 ^ 4) (hb : b < B64 ^ 4) : addN (subN a b) b = a := by
  unfold addN subN
  split
  · rw [show a + B64 ^ 4 - b + b = a + B64 ^ 4 by omega, Nat.add_mod_right, Nat.mod_eq_of_lt ha]
  · rw [show a - b + b = a by omega, Nat.mod_eq_of_lt ha]
theorem top_limb (a b : Nat) (ha : a < B64 ^ 4) (hb : b < B64 ^ 4) : dg (a + b) 16 = addK a b := by
  unfold dg addK
  rw [show (65536 : Nat) ^ 16 = B64 ^ 4 by decide]
  have : (a + b) / B64 ^ 4 < 2 := by rw [Nat.div_lt_iff_lt_mul (Nat.pow_pos B64_pos)]; omega
  exact Nat.mod_eq_of_lt (by omega)
set_option maxRecDepth 20000 in
set_option maxHeartbeats 4000000 in
theorem wideReckons_w (a b : Nat) (w : World) (ha : a < B64 ^ 4) (hb : b < B64 ^ 4) :
    Calls Try.prog 4 #[numV a, numV b] w fun e w' => e = .returned (.bool true) ∧ Below w.heap.size w w' := by
  have hm : Try.prog.follows .mixedOrders = true := by kernel_rfl
  rw [show numV a = .agg #[.int .u64 (wd a 0 : Int), .int .u64 (wd a 1 : Int), .int .u64 (wd a 2 : Int), .int .u64 (wd a 3 : Int)] from rfl, show numV b = .agg #[.int .u64 (wd b 0 : Int), .int .u64 (wd b 1 : Int), .int .u64 (wd b 2 : Int), .int .u64 (wd b 3 : Int)] from rfl]
  have xa : IsA ((w.alloc (.cells #[.int .u64 (wd a 0 : Int), .int .u64 (wd a 1 : Int), .int .u64 (wd a 2 : Int), .int .u64 (wd a 3 : Int)] 23)).alloc (.cells #[.int .u64 (wd b 0 : Int), .int .u64 (wd b 1 : Int), .int .u64 (wd b 2 : Int), .int .u64 (wd b 3 : Int)] 23)) w.heap.size a 23 := alloc_keep (alloc_new w _) _
  have xb : IsA ((w.alloc (.cells #[.int .u64 (wd a 0 : Int), .int .u64 (wd a 1 : Int), .int .u64 (wd a 2 : Int), .int .u64 (wd a 3 : Int)] 23)).alloc (.cells #[.int .u64 (wd b 0 : Int), .int .u64 (wd b 1 : Int), .int .u64 (wd b 2 : Int), .int .u64 (wd b 3 : Int)] 23)) (w.heap.size + 1) b 23 := by
    have := alloc_new (w.alloc (.cells #[.int .u64 (wd a 0 : Int), .int .u64 (wd a 1 : Int), .int .u64 (wd a 2 : Int), .int .u64 (wd a 3 : Int)] 23)) (.cells #[.int .u64 (wd b 0 : Int), .int .u64 (wd b 1 : Int), .int .u64 (wd b 2 : Int), .int .u64 (wd b 3 : Int)] 23)
    rw [alloc_size1] at this
    exact this
  have xl : Below w.heap.size w ((w.alloc (.cells #[.int .u64 (wd a 0 : Int), .int .u64 (wd a 1 : Int), .int .u64 (wd a 2 : Int), .int .u64 (wd a 3 : Int)] 23)).alloc (.cells #[.int .u64 (wd b 0 : Int), .int .u64 (wd b 1 : Int), .int .u64 (wd b 2 : Int), .int .u64 (wd b 3 : Int)] 23)) := gr_alloc (gr_alloc (Below.refl _ _) _) _
  have HA := Lib.hid ha
  have HB := Lib.hid hb
  clear ha hb
  go_enter Try.func4, Try.ntmps4
  go_wp2_with fail
  generalize (w.alloc (.cells #[.int .u64 (wd a 0 : Int), .int .u64 (wd a 1 : Int), .int .u64 (wd a 2 : Int), .int .u64 (wd a 3 : Int)] 23)).alloc (.cells #[.int .u64 (wd b 0 : Int), .int .u64 (wd b 1 : Int), .int .u64 (wd b 2 : Int), .int .u64 (wd b 3 : Int)] 23) = X at *
  have XA := Lib.hid xa
  have XB := Lib.hid xb
  have XL := Lib.hid xl
  clear xa xb xl
  go_cut [5, 6] (fun s5 s6 wc => ∃ bx bY, s5 = .pointer (some ⟨bx, 0, none⟩) ∧ s6 = .pointer (some ⟨bY, 0, none⟩) ∧ IsA wc w.heap.size a 23 ∧ IsA wc (w.heap.size + 1) b 23 ∧ IsA wc bx a 24 ∧ IsA wc bY b 24 ∧ Below w.heap.size w wc)
  case rest =>
    clear XA XB XL
    obtain ⟨bx, bY, rfl, rfl, ra, rb, rx, ry, hbe⟩ := hcut
    have RA := Lib.hid ra
    have RB := Lib.hid rb
    have RX := Lib.hid rx
    have RY := Lib.hid ry
    have BE := Lib.hid hbe
    have KA : Hid (∀ w, Calls Try.prog 11 #[.agg #[.int .u64 (wd a 0 : Int), .int .u64 (wd a 1 : Int), .int .u64 (wd a 2 : Int), .int .u64 (wd a 3 : Int)]] w fun e w' => ∃ g, e = .returned (.slice (some ⟨g, 0, none⟩) 16 16) ∧ OwnN w' g 16 a ∧ w.heap.size ≤ g ∧ Below w.heap.size w w') := fun w => rof_any a w HA.out
    have KB : Hid (∀ w, Calls Try.prog 11 #[.agg #[.int .u64 (wd b 0 : Int), .int .u64 (wd b 1 : Int), .int .u64 (wd b 2 : Int), .int .u64 (wd b 3 : Int)]] w fun e w' => ∃ g, e = .returned (.slice (some ⟨g, 0, none⟩) 16 16) ∧ OwnN w' g 16 b ∧ w.heap.size ≤ g ∧ Below w.heap.size w w') := fun w => rof_any b w HB.out
    clear ra rb rx ry hbe
    go_wp2_with fail
    go_cut [7, 8] (fun s7 s8 wd' => ∃ g1 g2, s7 = .slice (some ⟨g1, 0, none⟩) 16 16 ∧ s8 = .slice (some ⟨g2, 0, none⟩) 16 16 ∧ OwnN wd' g1 16 a ∧ OwnN wd' g2 16 b ∧ IsA wd' bx a 24 ∧ IsA wd' bY b 24 ∧ Below w.heap.size w wd')
    case rest =>
      obtain ⟨g1, g2, rfl, rfl, ol, om, rx, ry, be⟩ := hcut
      clear RA RB RX RY BE KA KB
      have lx := lt_blk rx
      have ly := lt_blk ry
      have OL := Lib.hid ol
      have OM := Lib.hid om
      have RX := Lib.hid rx
      have RY := Lib.hid ry
      have BE := Lib.hid be
      clear ol om rx ry be
      have PA := HA.out
      have PB := HB.out
      have hS : addN a b < B64 ^ 4 := Nat.mod_lt _ (Nat.pow_pos B64_pos)
      have hD : subN a b < B64 ^ 4 := sub_fits a b PA PB
      have KAdd := Lib.hid (fun w => add_open a b w HA.out HB.out)
      have KSub := Lib.hid (fun w => sub_open a b w HA.out HB.out)
      have KBack := Lib.hid (fun w => add_open (subN a b) b w hD HB.out)
      rw [sub_back a b PA PB] at KBack
      have KMul : Hid (∀ w, Calls Try.prog 22 #[.agg #[.int .u64 (wd a 0 : Int), .int .u64 (wd a 1 : Int), .int .u64 (wd a 2 : Int), .int .u64 (wd a 3 : Int)], .agg #[.int .u64 (wd b 0 : Int), .int .u64 (wd b 1 : Int), .int .u64 (wd b 2 : Int), .int .u64 (wd b 3 : Int)]] w fun e w' => e = .returned (.tuple #[.agg #[.int .u64 (wd (a * b % B64 ^ 4) 0 : Int), .int .u64 (wd (a * b % B64 ^ 4) 1 : Int), .int .u64 (wd (a * b % B64 ^ 4) 2 : Int), .int .u64 (wd (a * b % B64 ^ 4) 3 : Int)], .agg #[.int .u64 (wd (a * b / B64 ^ 4) 0 : Int), .int .u64 (wd (a * b / B64 ^ 4) 1 : Int), .int .u64 (wd (a * b / B64 ^ 4) 2 : Int), .int .u64 (wd (a * b / B64 ^ 4) 3 : Int)]]) ∧ Below w.heap.size w w') := fun w => mul_any a b w HA.out HB.out
      have KCmp : Hid (∀ w, Calls Try.prog 24 #[.agg #[.int .u64 (wd a 0 : Int), .int .u64 (wd a 1 : Int), .int .u64 (wd a 2 : Int), .int .u64 (wd a 3 : Int)], .agg #[.int .u64 (wd b 0 : Int), .int .u64 (wd b 1 : Int), .int .u64 (wd b 2 : Int), .int .u64 (wd b 3 : Int)]] w fun e w' => e = .returned (.int .i64 (cmpI a b)) ∧ Below w.heap.size w w') := fun w => cmp_any a b w HA.out HB.out
      clear PA PB hS hD
      obtain ⟨⟨x0, x1, x2, x3⟩, _⟩ := fourV RX.out
      obtain ⟨⟨y0, y1, y2, y3⟩, _⟩ := fourV RY.out
      go_wp2_with fail
      refine (KAdd.out _).mono ?_
      rintro e w3 ⟨rfl, hb3⟩
      clear x0 x1 x2 x3 y0 y1 y2 y3 lx ly
      have rs := alloc_new w3 (.cells #[.int .u64 (wd (addN a b) 0 : Int), .int .u64 (wd (addN a b) 1 : Int), .int .u64 (wd (addN a b) 2 : Int), .int .u64 (wd (addN a b) 3 : Int)] 24)
      have rx := (RX.out.keep hb3).alloc (.cells #[.int .u64 (wd (addN a b) 0 : Int), .int .u64 (wd (addN a b) 1 : Int), .int .u64 (wd (addN a b) 2 : Int), .int .u64 (wd (addN a b) 3 : Int)] 24)
      have ry := (RY.out.keep hb3).alloc (.cells #[.int .u64 (wd (addN a b) 0 : Int), .int .u64 (wd (addN a b) 1 : Int), .int .u64 (wd (addN a b) 2 : Int), .int .u64 (wd (addN a b) 3 : Int)] 24)
      have ol := (OL.out.below hb3).below (gr_alloc (Below.refl _ _) (.cells #[.int .u64 (wd (addN a b) 0 : Int), .int .u64 (wd (addN a b) 1 : Int), .int .u64 (wd (addN a b) 2 : Int), .int .u64 (wd (addN a b) 3 : Int)] 24))
      have om := (OM.out.below hb3).below (gr_alloc (Below.refl _ _) (.cells #[.int .u64 (wd (addN a b) 0 : Int), .int .u64 (wd (addN a b) 1 : Int), .int .u64 (wd (addN a b) 2 : Int), .int .u64 (wd (addN a b) 3 : Int)] 24))
      have be3 := BE.out.trans (hb3.mono BE.out.size)
      have be := gr_allocB be3 be3.size (.cells #[.int .u64 (wd (addN a b) 0 : Int), .int .u64 (wd (addN a b) 1 : Int), .int .u64 (wd (addN a b) 2 : Int), .int .u64 (wd (addN a b) 3 : Int)] 24)
      clear RX RY OL OM BE hb3
      go_wp2_with fail
      generalize w3.alloc (.cells #[.int .u64 (wd (addN a b) 0 : Int), .int .u64 (wd (addN a b) 1 : Int), .int .u64 (wd (addN a b) 2 : Int), .int .u64 (wd (addN a b) 3 : Int)] 24) = W3 at *
      generalize w3.heap.size = bs at *
      refine (radd_any (some ⟨g1, 0, none⟩) (some ⟨g2, 0, none⟩) 16 16 16 16 a b W3 (ol.is 16 (Nat.le_refl _)) (om.is 16 (Nat.le_refl _)) (by omega) (by omega)).mono ?_
      rw [show max 16 16 + 1 = 17 from rfl]
      rintro e w4 ⟨g3, rfl, o3, _, hb4⟩
      have rs4 := keep rs hb4
      have RX := Lib.hid ((show IsA W3 bx a 24 from rx).keep hb4)
      have RY := Lib.hid ((show IsA W3 bY b 24 from ry).keep hb4)
      have OL := Lib.hid (ol.below hb4)
      have OM := Lib.hid (om.below hb4)
      have BE := Lib.hid (be.trans (hb4.mono be.size))
      clear rs rx ry ol om be hb4 be3
      have KT : Hid (∀ p : Regrown, Calls Try.prog 19 #[.slice (some ⟨g3, 0, none⟩) 17 17, .int .i64 0] (Go.Sort.grow (redrawn w4 p.d) p.os) fun e w' => e = .returned (.agg #[.int .u64 (wd (addN a b) 0 : Int), .int .u64 (wd (addN a b) 1 : Int), .int .u64 (wd (addN a b) 2 : Int), .int .u64 (wd (addN a b) 3 : Int)]) ∧ Below (Go.Sort.grow (redrawn w4 p.d) p.os).heap.size (Go.Sort.grow (redrawn w4 p.d) p.os) w') := fun p => by
        have h := rto_any (some ⟨g3, 0, none⟩) 17 17 (a + b) 0 _ (IsN_below (o3.is 17 (Nat.le_refl _)) (below_regrown w4 p.d p.os)) (by omega)
        rw [Nat.pow_zero, Nat.div_one] at h
        exact h
      obtain ⟨⟨s0, s1, s2, s3⟩, _⟩ := fourV rs4
      have c16 : w4.cell? ⟨g3, 16, none⟩ = some (.int .u64 (addK a b : Int)) := by
        rw [← top_limb a b HA.out HB.out]
        exact (arr_get o3.1 (rowH_get _ 17 16 (by omega))).1
      have S0 := fun d os => cell_regrown s0 d os
      have S1 := fun d os => cell_regrown s1 d os
      have S2 := fun d os => cell_regrown s2 d os
      have S3 := fun d os => cell_regrown s3 d os
      have C16 := fun d os => cell_regrown c16 d os
      have kq := fun w => eql_num w (wd (addN a b) 0) (wd (addN a b) 1) (wd (addN a b) 2) (wd (addN a b) 3) (wd (addN a b) 0) (wd (addN a b) 1) (wd (addN a b) 2) (wd (addN a b) 3)
      clear s0 s1 s2 s3 c16 rs4 o3
      generalize (wd (addN a b) 0 : Int) = t0 at *
      generalize (wd (addN a b) 1 : Int) = t1 at *
      generalize (wd (addN a b) 2 : Int) = t2 at *
      generalize (wd (addN a b) 3 : Int) = t3 at *
      generalize (addK a b : Int) = cy at *
      go_wp2_with fail
      refine wp_region_quiet_below (by assumption) (by kernel_rfl) ?_
      repeat (quiet_step (first
        | (go_at_call 19; exact Calls.regrown_of (KT.out ⟨_, _⟩))))
      refine wpQuiet_nil ?_
      intro _ hw'
      obtain ⟨⟨nq, osq⟩, hw''⟩ := hw'
      subst hw''
      have hb5 := below_regrown w4 nq osq
      have rx := RX.out.keep hb5
      have ry := RY.out.keep hb5
      have OL5 := Lib.hid (OL.out.below hb5)
      have OM5 := Lib.hid (OM.out.below hb5)
      have BE5 := Lib.hid (BE.out.trans (hb5.mono BE.out.size))
      clear RX RY OL OM BE S0 S1 S2 S3 C16 kq KT hb5
      generalize Go.Sort.grow (redrawn w4 nq) osq = w5 at *
      have RX := Lib.hid rx
      have RY := Lib.hid ry
      obtain ⟨⟨x0, x1, x2, x3⟩, _⟩ := fourV rx
      obtain ⟨⟨y0, y1, y2, y3⟩, _⟩ := fourV ry
      clear rx ry
      go_wp2_with fail
      refine (KSub.out _).mono ?_
      rintro e w6 ⟨rfl, hb6⟩
      have rx := RX.out.keep hb6
      have ry := RY.out.keep hb6
      have ol6 := OL5.out.below hb6
      have om6 := OM5.out.below hb6
      have be6 := BE5.out.trans (hb6.mono BE5.out.size)
      have HK := Lib.hid (less_is a b)
      have hk1 : subK a b ≤ 1 := by unfold subK; split <;> omega
      clear x0 x1 x2 x3 y0 y1 y2 y3 RX RY OL5 OM5 BE5 hb6
      generalize subK a b = K at *
      have RX := Lib.hid rx
      have RY := Lib.hid ry
      have OL := Lib.hid ol6
      have OM := Lib.hid om6
      have BE := Lib.hid be6
      have ly := lt_blk ry
      obtain ⟨⟨y0, y1, y2, y3⟩, _⟩ := fourV ry
      clear rx ry ol6 om6 be6
      go_wp2_with fail
      refine (KBack.out _).mono ?_
      rintro e w7 ⟨rfl, hb7⟩
      have rx := (RX.out.alloc _).keep hb7
      have ry := (RY.out.alloc _).keep hb7
      have ol7 := (OL.out.below (gr_alloc (Below.refl _ _) _)).below hb7
      have om7 := (OM.out.below (gr_alloc (Below.refl _ _) _)).below hb7
      have be7 := gr_step (gr_alloc BE.out _) hb7
      clear y0 y1 y2 y3 RX RY OL OM BE hb7 ly
      have RX := Lib.hid rx
      have RY := Lib.hid ry
      have OL := Lib.hid ol7
      have OM := Lib.hid om7
      have BE := Lib.hid be7
      have lx := lt_blk rx
      have ly := lt_blk ry
      obtain ⟨⟨x0, x1, x2, x3⟩, _⟩ := fourV rx
      obtain ⟨⟨y0, y1, y2, y3⟩, _⟩ := fourV ry
      have kq0 := fun w => eql_num w (wd a 0) (wd a 1) (wd a 2) (wd a 3) (wd a 0) (wd a 1) (wd a 2) (wd a 3)
      clear rx ry ol7 om7 be7
      have hk2 : ¬ (1 : Int) < (K : Int) := by omega
      go_wp2_with fail
      have kl := rless_any (some ⟨g1, 0, none⟩) (some ⟨g2, 0, none⟩) 16 16 16 16 a b (w7.alloc (.cells #[.int .u64 (wd a 0 : Int), .int .u64 (wd a 1 : Int), .int .u64 (wd a 2 : Int), .int .u64 (wd a 3 : Int)] 24)) ((OL.out.below (gr_alloc (Below.refl _ _) _)).is 16 (Nat.le_refl _)) ((OM.out.below (gr_alloc (Below.refl _ _) _)).is 16 (Nat.le_refl _))
      rw [← HK.out] at kl
      refine kl.mono ?_
      rintro e w8 ⟨rfl, nq, rfl⟩
      clear kl
      go_wp2_with fail
      refine (KMul.out _).mono ?_
      rintro e w9 ⟨rfl, hb9⟩
      have rx := ((show IsA ((w7.alloc (.cells #[.int .u64 (wd a 0 : Int), .int .u64 (wd a 1 : Int), .int .u64 (wd a 2 : Int), .int .u64 (wd a 3 : Int)] 24)).drewN nq) bx a 24 from (RX.out.alloc _)).keep hb9)
      have ry := ((show IsA ((w7.alloc (.cells #[.int .u64 (wd a 0 : Int), .int .u64 (wd a 1 : Int), .int .u64 (wd a 2 : Int), .int .u64 (wd a 3 : Int)] 24)).drewN nq) bY b 24 from (RY.out.alloc _)).keep hb9)
      have ol9 := (show OwnN ((w7.alloc (.cells #[.int .u64 (wd a 0 : Int), .int .u64 (wd a 1 : Int), .int .u64 (wd a 2 : Int), .int .u64 (wd a 3 : Int)] 24)).drewN nq) g1 16 a from (OL.out.below (below_drewN1 (gr_alloc (Below.refl _ _) _) nq))).below hb9
      have om9 := (show OwnN ((w7.alloc (.cells #[.int .u64 (wd a 0 : Int), .int .u64 (wd a 1 : Int), .int .u64 (wd a 2 : Int), .int .u64 (wd a 3 : Int)] 24)).drewN nq) g2 16 b from (OM.out.below (below_drewN1 (gr_alloc (Below.refl _ _) _) nq))).below hb9
      have be9 : Below w.heap.size w w9 := gr_step (below_drewN1 (gr_alloc BE.out (.cells #[.int .u64 (wd a 0 : Int), .int .u64 (wd a 1 : Int), .int .u64 (wd a 2 : Int), .int .u64 (wd a 3 : Int)] 24)) nq) hb9
      clear x0 x1 x2 x3 y0 y1 y2 y3 RX RY OL OM BE hb9 lx ly kq0 hk2 HK
      have rl := alloc_keep (alloc_new w9 (.cells #[.int .u64 (wd (a * b % B64 ^ 4) 0 : Int), .int .u64 (wd (a * b % B64 ^ 4) 1 : Int), .int .u64 (wd (a * b % B64 ^ 4) 2 : Int), .int .u64 (wd (a * b % B64 ^ 4) 3 : Int)] 24)) (.cells #[.int .u64 (wd (a * b / B64 ^ 4) 0 : Int), .int .u64 (wd (a * b / B64 ^ 4) 1 : Int), .int .u64 (wd (a * b / B64 ^ 4) 2 : Int), .int .u64 (wd (a * b / B64 ^ 4) 3 : Int)] 24)
      have rh := alloc_new1 w9 (.cells #[.int .u64 (wd (a * b % B64 ^ 4) 0 : Int), .int .u64 (wd (a * b % B64 ^ 4) 1 : Int), .int .u64 (wd (a * b % B64 ^ 4) 2 : Int), .int .u64 (wd (a * b % B64 ^ 4) 3 : Int)] 24) (.cells #[.int .u64 (wd (a * b / B64 ^ 4) 0 : Int), .int .u64 (wd (a * b / B64 ^ 4) 1 : Int), .int .u64 (wd (a * b / B64 ^ 4) 2 : Int), .int .u64 (wd (a * b / B64 ^ 4) 3 : Int)] 24)
      have RX := Lib.hid ((rx.alloc (.cells #[.int .u64 (wd (a * b % B64 ^ 4) 0 : Int), .int .u64 (wd (a * b % B64 ^ 4) 1 : Int), .int .u64 (wd (a * b % B64 ^ 4) 2 : Int), .int .u64 (wd (a * b % B64 ^ 4) 3 : Int)] 24)).alloc (.cells #[.int .u64 (wd (a * b / B64 ^ 4) 0 : Int), .int .u64 (wd (a * b / B64 ^ 4) 1 : Int), .int .u64 (wd (a * b / B64 ^ 4) 2 : Int), .int .u64 (wd (a * b / B64 ^ 4) 3 : Int)] 24))
      have RY := Lib.hid ((ry.alloc (.cells #[.int .u64 (wd (a * b % B64 ^ 4) 0 : Int), .int .u64 (wd (a * b % B64 ^ 4) 1 : Int), .int .u64 (wd (a * b % B64 ^ 4) 2 : Int), .int .u64 (wd (a * b % B64 ^ 4) 3 : Int)] 24)).alloc (.cells #[.int .u64 (wd (a * b / B64 ^ 4) 0 : Int), .int .u64 (wd (a * b / B64 ^ 4) 1 : Int), .int .u64 (wd (a * b / B64 ^ 4) 2 : Int), .int .u64 (wd (a * b / B64 ^ 4) 3 : Int)] 24))
      have BE := Lib.hid (gr_alloc (gr_alloc be9 (.cells #[.int .u64 (wd (a * b % B64 ^ 4) 0 : Int), .int .u64 (wd (a * b % B64 ^ 4) 1 : Int), .int .u64 (wd (a * b % B64 ^ 4) 2 : Int), .int .u64 (wd (a * b % B64 ^ 4) 3 : Int)] 24)) (.cells #[.int .u64 (wd (a * b / B64 ^ 4) 0 : Int), .int .u64 (wd (a * b / B64 ^ 4) 1 : Int), .int .u64 (wd (a * b / B64 ^ 4) 2 : Int), .int .u64 (wd (a * b / B64 ^ 4) 3 : Int)] 24))
      have ol := ol9.below (gr_alloc (gr_alloc (Below.refl w9.heap.size w9) (.cells #[.int .u64 (wd (a * b % B64 ^ 4) 0 : Int), .int .u64 (wd (a * b % B64 ^ 4) 1 : Int), .int .u64 (wd (a * b % B64 ^ 4) 2 : Int), .int .u64 (wd (a * b % B64 ^ 4) 3 : Int)] 24)) (.cells #[.int .u64 (wd (a * b / B64 ^ 4) 0 : Int), .int .u64 (wd (a * b / B64 ^ 4) 1 : Int), .int .u64 (wd (a * b / B64 ^ 4) 2 : Int), .int .u64 (wd (a * b / B64 ^ 4) 3 : Int)] 24))
      have om := om9.below (gr_alloc (gr_alloc (Below.refl w9.heap.size w9) (.cells #[.int .u64 (wd (a * b % B64 ^ 4) 0 : Int), .int .u64 (wd (a * b % B64 ^ 4) 1 : Int), .int .u64 (wd (a * b % B64 ^ 4) 2 : Int), .int .u64 (wd (a * b % B64 ^ 4) 3 : Int)] 24)) (.cells #[.int .u64 (wd (a * b / B64 ^ 4) 0 : Int), .int .u64 (wd (a * b / B64 ^ 4) 1 : Int), .int .u64 (wd (a * b / B64 ^ 4) 2 : Int), .int .u64 (wd (a * b / B64 ^ 4) 3 : Int)] 24))
      clear rx ry be9 ol9 om9
      go_wp2_with fail
      generalize (w9.alloc (.cells #[.int .u64 (wd (a * b % B64 ^ 4) 0 : Int), .int .u64 (wd (a * b % B64 ^ 4) 1 : Int), .int .u64 (wd (a * b % B64 ^ 4) 2 : Int), .int .u64 (wd (a * b % B64 ^ 4) 3 : Int)] 24)).alloc (.cells #[.int .u64 (wd (a * b / B64 ^ 4) 0 : Int), .int .u64 (wd (a * b / B64 ^ 4) 1 : Int), .int .u64 (wd (a * b / B64 ^ 4) 2 : Int), .int .u64 (wd (a * b / B64 ^ 4) 3 : Int)] 24) = W9 at *
      generalize w9.heap.size = bl at *
      refine (rmul_any g1 g2 16 16 16 16 a b W9 (ol.is 16 (Nat.le_refl _)) (om.is 16 (Nat.le_refl _)) (by omega) (by omega) (by omega) (by omega)).mono ?_
      rw [show 16 + 16 = 32 from rfl]
      rintro e w10 ⟨g4, rfl, o4, _, hb10⟩
      have RL := Lib.hid (keep rl hb10)
      have RH := Lib.hid (keep rh hb10)
      have rx := RX.out.keep hb10
      have ry := RY.out.keep hb10
      have be10 := BE.out.trans (hb10.mono BE.out.size)
      have OL := Lib.hid (ol.below hb10)
      have OM := Lib.hid (om.below hb10)
      have OP := Lib.hid o4
      clear RX RY BE rl rh ol om hb10 o4
      have RX := Lib.hid rx
      have RY := Lib.hid ry
      have BE := Lib.hid be10
      clear rx ry be10
      have HH := Lib.hid (mul_high a b HA.out HB.out)
      obtain ⟨lo, hlo⟩ : ∃ lo, a * b % B64 ^ 4 = lo := ⟨_, rfl⟩
      obtain ⟨hi, hhi⟩ : ∃ hi, a * b / B64 ^ 4 = hi := ⟨_, rfl⟩
      rw [hlo] at RL
      rw [hhi] at RH HH
      go_wp2_with fail
      have HLO := Lib.hid hlo
      have HHI := Lib.hid hhi
      clear hlo hhi KMul
      rcases Nat.lt_trichotomy a b with hlt | hlt | hlt
      · rw [show cmpI a b = -1 from if_pos hlt] at KCmp
        have kl := fun q => rless_any (some ⟨g1, 0, none⟩) (some ⟨g2, 0, none⟩) 16 16 16 16 a b (w10.drewN q) (IsN_drew (OL.out.is 16 (Nat.le_refl _)) q) (IsN_drew (OM.out.is 16 (Nat.le_refl _)) q)
        have km := fun q => rless_any (some ⟨g2, 0, none⟩) (some ⟨g1, 0, none⟩) 16 16 16 16 b a (w10.drewN q) (IsN_drew (OM.out.is 16 (Nat.le_refl _)) q) (IsN_drew (OL.out.is 16 (Nat.le_refl _)) q)
        rw [decide_eq_true hlt] at kl
        rw [decide_eq_false (by omega)] at km
        clear hlt
        refine (kl 0).mono ?_
        rintro e w' ⟨rfl, nq1, rfl⟩
        rw [World.drewN_drewN]
        clear km kl
        generalize 0 + nq1 = cnt
        obtain ⟨W, hW⟩ : ∃ W, w10.drewN cnt = W := ⟨_, rfl⟩
        have rl : IsA W bl lo 24 := by rw [← hW]; exact RL.out
        have rh : IsA W (bl + 1) hi 24 := by rw [← hW]; exact RH.out
        have rx : IsA W bx a 24 := by rw [← hW]; exact RX.out
        have ry : IsA W bY b 24 := by rw [← hW]; exact RY.out
        have op : OwnN W g4 32 (a * b) := by rw [← hW]; exact OP.out
        have BEW := Lib.hid (show Below w.heap.size w W by rw [← hW]; exact below_drewN1 BE.out cnt)
        rw [hW]
        clear hW RL RH RX RY OP BE OL OM
        have KT0 : Hid (∀ p : Regrown, Calls Try.prog 19 #[.slice (some ⟨g4, 0, none⟩) 32 32, .int .i64 0] (Go.Sort.grow (redrawn W p.d) p.os) fun e w' => e = .returned (.agg #[.int .u64 (wd lo 0 : Int), .int .u64 (wd lo 1 : Int), .int .u64 (wd lo 2 : Int), .int .u64 (wd lo 3 : Int)]) ∧ Below (Go.Sort.grow (redrawn W p.d) p.os).heap.size (Go.Sort.grow (redrawn W p.d) p.os) w') := fun p => by
          have h := rto_any (some ⟨g4, 0, none⟩) 32 32 (a * b) 0 _ (IsN_below (op.is 32 (Nat.le_refl _)) (below_regrown W p.d p.os)) (by omega)
          rw [Nat.pow_zero, Nat.div_one, HLO.out] at h
          exact h
        have KT1 : Hid (∀ p : Regrown, Calls Try.prog 19 #[.slice (some ⟨g4, 0, none⟩) 32 32, .int .i64 16] (Go.Sort.grow (redrawn W p.d) p.os) fun e w' => e = .returned (.agg #[.int .u64 (wd hi 0 : Int), .int .u64 (wd hi 1 : Int), .int .u64 (wd hi 2 : Int), .int .u64 (wd hi 3 : Int)]) ∧ Below (Go.Sort.grow (redrawn W p.d) p.os).heap.size (Go.Sort.grow (redrawn W p.d) p.os) w') := fun p => by
          have h := rto_any (some ⟨g4, 0, none⟩) 32 32 (a * b) 16 _ (IsN_below (op.is 32 (Nat.le_refl _)) (below_regrown W p.d p.os)) (by omega)
          rw [HH.out] at h
          exact h
        obtain ⟨⟨x0, x1, x2, x3⟩, _⟩ := fourV rx
        obtain ⟨⟨y0, y1, y2, y3⟩, _⟩ := fourV ry
        obtain ⟨⟨l0, l1, l2, l3⟩, _⟩ := fourV rl
        obtain ⟨⟨h0, h1, h2, h3⟩, _⟩ := fourV rh
        have X0 := fun d os => cell_regrown x0 d os
        have X1 := fun d os => cell_regrown x1 d os
        have X2 := fun d os => cell_regrown x2 d os
        have X3 := fun d os => cell_regrown x3 d os
        have Y0 := fun d os => cell_regrown y0 d os
        have Y1 := fun d os => cell_regrown y1 d os
        have Y2 := fun d os => cell_regrown y2 d os
        have Y3 := fun d os => cell_regrown y3 d os
        have L0 := fun d os => cell_regrown l0 d os
        have L1 := fun d os => cell_regrown l1 d os
        have L2 := fun d os => cell_regrown l2 d os
        have L3 := fun d os => cell_regrown l3 d os
        have H0 := fun d os => cell_regrown h0 d os
        have H1 := fun d os => cell_regrown h1 d os
        have H2 := fun d os => cell_regrown h2 d os
        have H3 := fun d os => cell_regrown h3 d os
        have kq1 := fun w => eql_num w (wd lo 0) (wd lo 1) (wd lo 2) (wd lo 3) (wd lo 0) (wd lo 1) (wd lo 2) (wd lo 3)
        have kq2 := fun w => eql_num w (wd hi 0) (wd hi 1) (wd hi 2) (wd hi 3) (wd hi 0) (wd hi 1) (wd hi 2) (wd hi 3)
        clear x0 x1 x2 x3 y0 y1 y2 y3 l0 l1 l2 l3 h0 h1 h2 h3 rl rh rx ry op KBack HH HLO HHI KSub
        go_wp2_with fail
        refine wp_region_quiet_below (by assumption) (by kernel_rfl) ?_
        repeat (quiet_step (first
          | (go_at_call_of 19 (Value.int IntKind.i64 0); exact Calls.regrown_of (KT0.out ⟨_, _⟩))
          | (go_at_call_of 19 (Value.int IntKind.i64 16); exact Calls.regrown_of (KT1.out ⟨_, _⟩))
          | (go_at_call 24; exact Calls.regrown_of (KCmp.out _))
          | (go_at_call 9; exact Calls.regrown_of (lives13 _))))
        refine wpQuiet_nil ?_
        intro _ hw'
        obtain ⟨⟨nq, osq⟩, hw''⟩ := hw'
        subst hw''
        go_wp2_with fail
        go_ret
        exact ⟨rfl, BEW.out.trans ((below_regrown W _ _).mono BEW.out.size)⟩
      · rw [show cmpI a b = 0 from by rw [hlt]; simp [cmpI]] at KCmp
        have kl := fun q => rless_any (some ⟨g1, 0, none⟩) (some ⟨g2, 0, none⟩) 16 16 16 16 a b (w10.drewN q) (IsN_drew (OL.out.is 16 (Nat.le_refl _)) q) (IsN_drew (OM.out.is 16 (Nat.le_refl _)) q)
        have km := fun q => rless_any (some ⟨g2, 0, none⟩) (some ⟨g1, 0, none⟩) 16 16 16 16 b a (w10.drewN q) (IsN_drew (OM.out.is 16 (Nat.le_refl _)) q) (IsN_drew (OL.out.is 16 (Nat.le_refl _)) q)
        rw [decide_eq_false (by omega)] at kl
        rw [decide_eq_false (by omega)] at km
        clear hlt
        refine (kl 0).mono ?_
        rintro e w' ⟨rfl, nq1, rfl⟩
        rw [World.drewN_drewN]
        have KM := Lib.hid km
        clear km kl
        go_wp2_with fail
        refine (KM.out _).mono ?_
        rintro e w' ⟨rfl, nq2, rfl⟩
        rw [World.drewN_drewN]
        clear KM
        generalize nq1 + nq2 = cnt
        obtain ⟨W, hW⟩ : ∃ W, w10.drewN cnt = W := ⟨_, rfl⟩
        have rl : IsA W bl lo 24 := by rw [← hW]; exact RL.out
        have rh : IsA W (bl + 1) hi 24 := by rw [← hW]; exact RH.out
        have rx : IsA W bx a 24 := by rw [← hW]; exact RX.out
        have ry : IsA W bY b 24 := by rw [← hW]; exact RY.out
        have op : OwnN W g4 32 (a * b) := by rw [← hW]; exact OP.out
        have BEW := Lib.hid (show Below w.heap.size w W by rw [← hW]; exact below_drewN1 BE.out cnt)
        rw [hW]
        clear hW RL RH RX RY OP BE OL OM
        have KT0 : Hid (∀ p : Regrown, Calls Try.prog 19 #[.slice (some ⟨g4, 0, none⟩) 32 32, .int .i64 0] (Go.Sort.grow (redrawn W p.d) p.os) fun e w' => e = .returned (.agg #[.int .u64 (wd lo 0 : Int), .int .u64 (wd lo 1 : Int), .int .u64 (wd lo 2 : Int), .int .u64 (wd lo 3 : Int)]) ∧ Below (Go.Sort.grow (redrawn W p.d) p.os).heap.size (Go.Sort.grow (redrawn W p.d) p.os) w') := fun p => by
          have h := rto_any (some ⟨g4, 0, none⟩) 32 32 (a * b) 0 _ (IsN_below (op.is 32 (Nat.le_refl _)) (below_regrown W p.d p.os)) (by omega)
          rw [Nat.pow_zero, Nat.div_one, HLO.out] at h
          exact h
        have KT1 : Hid (∀ p : Regrown, Calls Try.prog 19 #[.slice (some ⟨g4, 0, none⟩) 32 32, .int .i64 16] (Go.Sort.grow (redrawn W p.d) p.os) fun e w' => e = .returned (.agg #[.int .u64 (wd hi 0 : Int), .int .u64 (wd hi 1 : Int), .int .u64 (wd hi 2 : Int), .int .u64 (wd hi 3 : Int)]) ∧ Below (Go.Sort.grow (redrawn W p.d) p.os).heap.size (Go.Sort.grow (redrawn W p.d) p.os) w') := fun p => by
          have h := rto_any (some ⟨g4, 0, none⟩) 32 32 (a * b) 16 _ (IsN_below (op.is 32 (Nat.le_refl _)) (below_regrown W p.d p.os)) (by omega)
          rw [HH.out] at h
          exact h
        obtain ⟨⟨x0, x1, x2, x3⟩, _⟩ := fourV rx
        obtain ⟨⟨y0, y1, y2, y3⟩, _⟩ := fourV ry
        obtain ⟨⟨l0, l1, l2, l3⟩, _⟩ := fourV rl
        obtain ⟨⟨h0, h1, h2, h3⟩, _⟩ := fourV rh
        have X0 := fun d os => cell_regrown x0 d os
        have X1 := fun d os => cell_regrown x1 d os
        have X2 := fun d os => cell_regrown x2 d os
        have X3 := fun d os => cell_regrown x3 d os
        have Y0 := fun d os => cell_regrown y0 d os
        have Y1 := fun d os => cell_regrown y1 d os
        have Y2 := fun d os => cell_regrown y2 d os
        have Y3 := fun d os => cell_regrown y3 d os
        have L0 := fun d os => cell_regrown l0 d os
        have L1 := fun d os => cell_regrown l1 d os
        have L2 := fun d os => cell_regrown l2 d os
        have L3 := fun d os => cell_regrown l3 d os
        have H0 := fun d os => cell_regrown h0 d os
        have H1 := fun d os => cell_regrown h1 d os
        have H2 := fun d os => cell_regrown h2 d os
        have H3 := fun d os => cell_regrown h3 d os
        have kq1 := fun w => eql_num w (wd lo 0) (wd lo 1) (wd lo 2) (wd lo 3) (wd lo 0) (wd lo 1) (wd lo 2) (wd lo 3)
        have kq2 := fun w => eql_num w (wd hi 0) (wd hi 1) (wd hi 2) (wd hi 3) (wd hi 0) (wd hi 1) (wd hi 2) (wd hi 3)
        clear x0 x1 x2 x3 y0 y1 y2 y3 l0 l1 l2 l3 h0 h1 h2 h3 rl rh rx ry op KBack HH HLO HHI KSub
        go_wp2_with fail
        refine wp_region_quiet_below (by assumption) (by kernel_rfl) ?_
        repeat (quiet_step (first
          | (go_at_call_of 19 (Value.int IntKind.i64 0); exact Calls.regrown_of (KT0.out ⟨_, _⟩))
          | (go_at_call_of 19 (Value.int IntKind.i64 16); exact Calls.regrown_of (KT1.out ⟨_, _⟩))
          | (go_at_call 24; exact Calls.regrown_of (KCmp.out _))
          | (go_at_call 9; exact Calls.regrown_of (lives13 _))))
        refine wpQuiet_nil ?_
        intro _ hw'
        obtain ⟨⟨nq, osq⟩, hw''⟩ := hw'
        subst hw''
        go_wp2_with fail
        go_ret
        exact ⟨rfl, BEW.out.trans ((below_regrown W _ _).mono BEW.out.size)⟩
      · rw [show cmpI a b = 1 from by rw [cmpI, if_neg (by omega), if_pos hlt]] at KCmp
        have kl := fun q => rless_any (some ⟨g1, 0, none⟩) (some ⟨g2, 0, none⟩) 16 16 16 16 a b (w10.drewN q) (IsN_drew (OL.out.is 16 (Nat.le_refl _)) q) (IsN_drew (OM.out.is 16 (Nat.le_refl _)) q)
        have km := fun q => rless_any (some ⟨g2, 0, none⟩) (some ⟨g1, 0, none⟩) 16 16 16 16 b a (w10.drewN q) (IsN_drew (OM.out.is 16 (Nat.le_refl _)) q) (IsN_drew (OL.out.is 16 (Nat.le_refl _)) q)
        rw [decide_eq_false (by omega)] at kl
        rw [decide_eq_true hlt] at km
        clear hlt
        refine (kl 0).mono ?_
        rintro e w' ⟨rfl, nq1, rfl⟩
        rw [World.drewN_drewN]
        have KM := Lib.hid km
        clear km kl
        go_wp2_with fail
        refine (KM.out _).mono ?_
        rintro e w' ⟨rfl, nq2, rfl⟩
        rw [World.drewN_drewN]
        clear KM
        generalize nq1 + nq2 = cnt
        obtain ⟨W, hW⟩ : ∃ W, w10.drewN cnt = W := ⟨_, rfl⟩
        have rl : IsA W bl lo 24 := by rw [← hW]; exact RL.out
        have rh : IsA W (bl + 1) hi 24 := by rw [← hW]; exact RH.out
        have rx : IsA W bx a 24 := by rw [← hW]; exact RX.out
        have ry : IsA W bY b 24 := by rw [← hW]; exact RY.out
        have op : OwnN W g4 32 (a * b) := by rw [← hW]; exact OP.out
        have BEW := Lib.hid (show Below w.heap.size w W by rw [← hW]; exact below_drewN1 BE.out cnt)
        rw [hW]
        clear hW RL RH RX RY OP BE OL OM
        have KT0 : Hid (∀ p : Regrown, Calls Try.prog 19 #[.slice (some ⟨g4, 0, none⟩) 32 32, .int .i64 0] (Go.Sort.grow (redrawn W p.d) p.os) fun e w' => e = .returned (.agg #[.int .u64 (wd lo 0 : Int), .int .u64 (wd lo 1 : Int), .int .u64 (wd lo 2 : Int), .int .u64 (wd lo 3 : Int)]) ∧ Below (Go.Sort.grow (redrawn W p.d) p.os).heap.size (Go.Sort.grow (redrawn W p.d) p.os) w') := fun p => by
          have h := rto_any (some ⟨g4, 0, none⟩) 32 32 (a * b) 0 _ (IsN_below (op.is 32 (Nat.le_refl _)) (below_regrown W p.d p.os)) (by omega)
          rw [Nat.pow_zero, Nat.div_one, HLO.out] at h
          exact h
        have KT1 : Hid (∀ p : Regrown, Calls Try.prog 19 #[.slice (some ⟨g4, 0, none⟩) 32 32, .int .i64 16] (Go.Sort.grow (redrawn W p.d) p.os) fun e w' => e = .returned (.agg #[.int .u64 (wd hi 0 : Int), .int .u64 (wd hi 1 : Int), .int .u64 (wd hi 2 : Int), .int .u64 (wd hi 3 : Int)]) ∧ Below (Go.Sort.grow (redrawn W p.d) p.os).heap.size (Go.Sort.grow (redrawn W p.d) p.os) w') := fun p => by
          have h := rto_any (some ⟨g4, 0, none⟩) 32 32 (a * b) 16 _ (IsN_below (op.is 32 (Nat.le_refl _)) (below_regrown W p.d p.os)) (by omega)
          rw [HH.out] at h
          exact h
        obtain ⟨⟨x0, x1, x2, x3⟩, _⟩ := fourV rx
        obtain ⟨⟨y0, y1, y2, y3⟩, _⟩ := fourV ry
        obtain ⟨⟨l0, l1, l2, l3⟩, _⟩ := fourV rl
        obtain ⟨⟨h0, h1, h2, h3⟩, _⟩ := fourV rh
        have X0 := fun d os => cell_regrown x0 d os
        have X1 := fun d os => cell_regrown x1 d os
        have X2 := fun d os => cell_regrown x2 d os
        have X3 := fun d os => cell_regrown x3 d os
        have Y0 := fun d os => cell_regrown y0 d os
        have Y1 := fun d os => cell_regrown y1 d os
        have Y2 := fun d os => cell_regrown y2 d os
        have Y3 := fun d os => cell_regrown y3 d os
        have L0 := fun d os => cell_regrown l0 d os
        have L1 := fun d os => cell_regrown l1 d os
        have L2 := fun d os => cell_regrown l2 d os
        have L3 := fun d os => cell_regrown l3 d os
        have H0 := fun d os => cell_regrown h0 d os
        have H1 := fun d os => cell_regrown h1 d os
        have H2 := fun d os => cell_regrown h2 d os
        have H3 := fun d os => cell_regrown h3 d os
        have kq1 := fun w => eql_num w (wd lo 0) (wd lo 1) (wd lo 2) (wd lo 3) (wd lo 0) (wd lo 1) (wd lo 2) (wd lo 3)
        have kq2 := fun w => eql_num w (wd hi 0) (wd hi 1) (wd hi 2) (wd hi 3) (wd hi 0) (wd hi 1) (wd hi 2) (wd hi 3)
        clear x0 x1 x2 x3 y0 y1 y2 y3 l0 l1 l2 l3 h0 h1 h2 h3 rl rh rx ry op KBack HH HLO HHI KSub
        go_wp2_with fail
        refine wp_region_quiet_below (by assumption) (by kernel_rfl) ?_
        repeat (quiet_step (first
          | (go_at_call_of 19 (Value.int IntKind.i64 0); exact Calls.regrown_of (KT0.out ⟨_, _⟩))
          | (go_at_call_of 19 (Value.int IntKind.i64 16); exact Calls.regrown_of (KT1.out ⟨_, _⟩))
          | (go_at_call 24; exact Calls.regrown_of (KCmp.out _))
          | (go_at_call 9; exact Calls.regrown_of (lives13 _))))
        refine wpQuiet_nil ?_
        intro _ hw'
        obtain ⟨⟨nq, osq⟩, hw''⟩ := hw'
        subst hw''
        go_wp2_with fail
        go_ret
        exact ⟨rfl, BEW.out.trans ((below_regrown W _ _).mono BEW.out.size)⟩
    case first =>
      obtain ⟨⟨p0, p1, p2, p3⟩, _⟩ := fourV RA.out
      obtain ⟨⟨q0, q1, q2, q3⟩, _⟩ := fourV RB.out
      go_region_held3 (fun w' => w'.cell? ⟨w.heap.size, 0, none⟩ = some (.int .u64 (wd a 0 : Int)) ∧ w'.cell? ⟨w.heap.size, 1, none⟩ = some (.int .u64 (wd a 1 : Int)) ∧ w'.cell? ⟨w.heap.size, 2, none⟩ = some (.int .u64 (wd a 2 : Int)) ∧ w'.cell? ⟨w.heap.size, 3, none⟩ = some (.int .u64 (wd a 3 : Int)) ∧ w'.cell? ⟨w.heap.size + 1, 0, none⟩ = some (.int .u64 (wd b 0 : Int)) ∧ w'.cell? ⟨w.heap.size + 1, 1, none⟩ = some (.int .u64 (wd b 1 : Int)) ∧ w'.cell? ⟨w.heap.size + 1, 2, none⟩ = some (.int .u64 (wd b 2 : Int)) ∧ w'.cell? ⟨w.heap.size + 1, 3, none⟩ = some (.int .u64 (wd b 3 : Int))) (first | go_keep | (with_reducible exact ⟨m0, m1, m2, m3, n0, n1, n2, n3⟩) | (with_reducible exact ⟨k0, k1, k2, k3, l0, l1, l2, l3⟩)) (first
        | (go_at_call_of 11 (Value.agg #[.int .u64 (wd a 0 : Int), .int .u64 (wd a 1 : Int), .int .u64 (wd a 2 : Int), .int .u64 (wd a 3 : Int)]); go_must (refine (KA.out _).mono ?_); rintro e w1 ⟨g1, rfl, ho1, hg1, hb1⟩
           have ra1 := (show IsA wc.drew _ _ _ from RA.out).keep hb1
           have rb1 := (show IsA wc.drew _ _ _ from RB.out).keep hb1
           obtain ⟨⟨k0, k1, k2, k3⟩, _⟩ := fourV ra1
           obtain ⟨⟨l0, l1, l2, l3⟩, _⟩ := fourV rb1)
        | (go_at_call_of 11 (Value.agg #[.int .u64 (wd b 0 : Int), .int .u64 (wd b 1 : Int), .int .u64 (wd b 2 : Int), .int .u64 (wd b 3 : Int)]); go_must (refine (KB.out _).mono ?_); rintro e w2 ⟨g2, rfl, ho2, hg2, hb2⟩
           have ra2 := ra1.keep hb2
           have rb2 := rb1.keep hb2
           obtain ⟨⟨m0, m1, m2, m3⟩, _⟩ := fourV ra2
           obtain ⟨⟨n0, n1, n2, n3⟩, _⟩ := fourV rb2))
      go_wp2_with fail
      go_meet
      case rel =>
        refine ⟨g1, g2, rfl, rfl, ho1.below hb2, ho2, ((show IsA wc.drew _ _ _ from RX.out).keep hb1).keep hb2, ((show IsA wc.drew _ _ _ from RY.out).keep hb1).keep hb2, ?_⟩
        have h1 := (BE.out.drew).trans (hb1.mono BE.out.size)
        exact h1.trans (hb2.mono h1.size)
  case first =>
    obtain ⟨⟨p0, p1, p2, p3⟩, _⟩ := fourV XA.out
    obtain ⟨⟨q0, q1, q2, q3⟩, _⟩ := fourV XB.out
    have ep0 := World.new_ne X _ p0
    have ep1 := World.new_ne X _ p1
    have ep2 := World.new_ne X _ p2
    have ep3 := World.new_ne X _ p3
    have eq0 := World.new_ne X _ q0
    have eq1 := World.new_ne X _ q1
    have eq2 := World.new_ne X _ q2
    have eq3 := World.new_ne X _ q3
    go_region_held3 (fun w' => w'.cell? ⟨w.heap.size, 0, none⟩ = some (.int .u64 (wd a 0 : Int)) ∧ w'.cell? ⟨w.heap.size, 1, none⟩ = some (.int .u64 (wd a 1 : Int)) ∧ w'.cell? ⟨w.heap.size, 2, none⟩ = some (.int .u64 (wd a 2 : Int)) ∧ w'.cell? ⟨w.heap.size, 3, none⟩ = some (.int .u64 (wd a 3 : Int)) ∧ w'.cell? ⟨w.heap.size + 1, 0, none⟩ = some (.int .u64 (wd b 0 : Int)) ∧ w'.cell? ⟨w.heap.size + 1, 1, none⟩ = some (.int .u64 (wd b 1 : Int)) ∧ w'.cell? ⟨w.heap.size + 1, 2, none⟩ = some (.int .u64 (wd b 2 : Int)) ∧ w'.cell? ⟨w.heap.size + 1, 3, none⟩ = some (.int .u64 (wd b 3 : Int))) (go_keep) (fail)
    all_goals
      rename_i hH
      clear hH ep0 ep1 ep2 ep3 eq0 eq1 eq2 eq3 p0 p1 p2 p3 q0 q1 q2 q3
      go_wp2_with fail
      go_meet
      case rel =>
        refine ⟨_, _, rfl, rfl, (XA.out.alloc _).alloc _, (XB.out.alloc _).alloc _, ?_, ?_, ?_⟩
        · first
            | exact alloc_keep (alloc_new X _) _
            | exact alloc_new1 X _ _
        · first
            | exact alloc_new1 X _ _
            | exact alloc_keep (alloc_new X _) _
        · exact (gr_allocB (gr_allocB XL.out XL.out.size _) (by rw [alloc_size1]; exact Nat.le_succ_of_le XL.out.size) _).drew
end Go.Proofs.Ytkddnmboljghkaa
