/- prime.Pow, prime.Inv (layer 19): contracts. -/
import Derived.Test.YthdbadomppohbaaPriG
namespace Go.Proofs.Ythdbadomppohbaa
set_option maxRecDepth 20000
set_option linter.unusedSimpArgs false
set_option linter.unusedVariables false
open Go.RowKit
theorem two_of {W : World} {b p q : Nat} (h : W.heap[b]? = some (.cells #[.int .u64 (wd p 0 : Int), .int .u64 (wd p 1 : Int), .int .u64 (wd p 2 : Int), .int .u64 (wd p 3 : Int), .int .u64 (wd q 0 : Int), .int .u64 (wd q 1 : Int), .int .u64 (wd q 2 : Int), .int .u64 (wd q 3 : Int)] 28 (0, 0))) (hp : p < PN) (hq : q < PN) : IsNums W (some ⟨b, 0, none⟩) 2 [p, q] := by
  refine ⟨rfl, fun n hn => ?_, fun _ => ⟨b, rfl, lt_blk h, fun i k hi hk => ?_⟩⟩
  · simp at hn
    rcases hn with rfl | rfl <;> assumption
  · have hi2 : i = 0 ∨ i = 1 := by omega
    have hk4 : k = 0 ∨ k = 1 ∨ k = 2 ∨ k = 3 := by omega
    rcases hi2 with rfl | rfl <;> rcases hk4 with rfl | rfl | rfl | rfl <;> simp [World.cell?, h]
theorem mul_two (p q : Nat) (hp : p < PN) (hq : q < PN) (b : Nat) (W : World) (h : W.heap[b]? = some (.cells #[.int .u64 (wd p 0 : Int), .int .u64 (wd p 1 : Int), .int .u64 (wd p 2 : Int), .int .u64 (wd p 3 : Int), .int .u64 (wd q 0 : Int), .int .u64 (wd q 1 : Int), .int .u64 (wd q 2 : Int), .int .u64 (wd q 3 : Int)] 28 (0, 0))) :
    Calls Try.prog 32 #[.slice (some ⟨b, 0, none⟩) 2 2] W fun e w' => e = .returned (numV (p * q % PN)) ∧ Below W.heap.size W w' :=
  pmul_any (some ⟨b, 0, none⟩) 2 2 [p, q] W (by omega) (by omega) (two_of h hp hq)
theorem add_two (p q : Nat) (hp : p < PN) (hq : q < PN) (b : Nat) (W : World) (h : W.heap[b]? = some (.cells #[.int .u64 (wd p 0 : Int), .int .u64 (wd p 1 : Int), .int .u64 (wd p 2 : Int), .int .u64 (wd p 3 : Int), .int .u64 (wd q 0 : Int), .int .u64 (wd q 1 : Int), .int .u64 (wd q 2 : Int), .int .u64 (wd q 3 : Int)] 28 (0, 0))) :
    Calls Try.prog 47 #[.slice (some ⟨b, 0, none⟩) 2 2] W fun e w' => e = .returned (numV ((p + q) % PN)) ∧ Below W.heap.size W w' := by
  have h2 := padd_any (some ⟨b, 0, none⟩) 2 2 [p, q] W (by omega) (two_of h hp hq)
  have e : sumP [p, q] 2 = (p + q) % PN := by
    show ((0 + p) % PN + q) % PN = _
    rw [Nat.zero_add, Nat.mod_eq_of_lt hp]
  rw [e] at h2
  exact h2
/-- What the first steps come to. -/
def powN (a k j : Nat) : Nat := a ^ (k / 2 ^ j) % PN
theorem powN_lt (a k j : Nat) : powN a k j < PN := Nat.mod_lt _ PN_pos
theorem powN_next (a k j : Nat) : powN a k j = if bitN k j = 1 then powN a k (j + 1) * powN a k (j + 1) % PN * a % PN else powN a k (j + 1) * powN a k (j + 1) % PN := by
  have hd : k / 2 ^ j = 2 * (k / 2 ^ (j + 1)) + bitN k j := by
    unfold bitN
    rw [Nat.pow_succ, ← Nat.div_div_eq_div_mul]
    omega
  have hb := bitN_lt k j
  unfold powN
  rw [hd, Nat.pow_add, Nat.two_mul, Nat.pow_add, ← Nat.mul_mod]
  split
  · rename_i h
    rw [h, Nat.pow_one]
    exact (Nat.mul_mod _ a PN).trans (by rw [Nat.mul_mod (_ % PN) a PN, Nat.mod_mod])
  · rename_i h
    have h0 : bitN k j = 0 := by omega
    rw [h0, Nat.pow_zero, Nat.mul_one]
theorem powN_start (a k : Nat) : powN a k (Go.bitLen k) = 1 := by
  unfold powN
  rw [Nat.div_eq_of_lt (Go.bitLen_spec k).1, Nat.pow_zero]
  decide +kernel
theorem bitLen_256 (k : Nat) (h : k < B64 ^ 4) : Go.bitLen k ≤ 256 := by
  rcases Nat.lt_or_ge 256 (Go.bitLen k) with hl | hl
  · have h0 : k ≠ 0 := fun e => by subst e; revert hl; decide
    have h1 := (Go.bitLen_spec k).2 h0
    have h2 : 2 ^ 256 ≤ 2 ^ (Go.bitLen k - 1) := Nat.pow_le_pow_right (by decide) (by omega)
    have h3 : (2 : Nat) ^ 256 = B64 ^ 4 := by decide +kernel
    omega
  · exact hl
def A3p (a k : Nat) (w : World) : World := ((w.alloc (.cells #[.int .u64 (wd a 0 : Int), .int .u64 (wd a 1 : Int), .int .u64 (wd a 2 : Int), .int .u64 (wd a 3 : Int)] 28)).alloc (.cells #[.int .u64 (wd k 0 : Int), .int .u64 (wd k 1 : Int), .int .u64 (wd k 2 : Int), .int .u64 (wd k 3 : Int)] 26)).alloc (.cells #[.int .u64 0, .int .u64 0, .int .u64 0, .int .u64 0] 28)
theorem a3p_at (a k : Nat) (w : World) : IsA (A3p a k w) w.heap.size a 28 ∧ IsA (A3p a k w) (w.heap.size + 1) k 26 ∧ IsA (A3p a k w) (w.heap.size + 1 + 1) 0 28 ∧ (A3p a k w).heap.size = w.heap.size + 3 ∧ Below w.heap.size w (A3p a k w) := by
  unfold A3p
  refine ⟨(isA_a1 w a _ _).alloc _, (alloc_keep (alloc_new1 w _ _) _ : _), isA_zero (alloc_new2 w _ _ _), by simp, gr_alloc (gr_alloc (gr_alloc (Below.refl _ _) _) _) _⟩
set_option maxHeartbeats 8000000 in
theorem ppow_any (a k : Nat) (w : World) (ha : a < PN) (hk : k < B64 ^ 4) :
    Calls Try.prog 69 #[numV a, numV k] w fun e w' => e = .returned (numV (a ^ k % PN)) ∧ Below w.heap.size w w' := by
  have KS := Lib.hid (fun w => psmall_any 1 w (by decide))
  obtain ⟨c1, hc1⟩ : ∃ c1, c1 = 1 := ⟨1, rfl⟩
  have KS : Hid (∀ w, Calls Try.prog 33 #[.int .u64 1] w fun e w' => e = .returned (numV c1) ∧ Below w.heap.size w w') := fun w => by rw [hc1]; exact KS.out w
  have KL := Lib.hid (fun w => len_any k w hk)
  have hst : powN a k (Go.bitLen k) = c1 := by rw [powN_start, hc1]
  have hle := bitLen_256 k hk
  have hend : powN a k 0 = a ^ k % PN := by unfold powN; rw [Nat.pow_zero, Nat.div_one]
  obtain ⟨L, hL⟩ : ∃ L, Go.bitLen k = L := ⟨_, rfl⟩
  rw [hL] at KL hst hle
  rw [← hend]
  have HST := Lib.hid hst
  have HAK := Lib.hid (And.intro ha hk)
  obtain ⟨xa, xk, xr, xz, xB⟩ := a3p_at a k w
  have KSQ := Lib.hid mul_two
  have KB := Lib.hid bit_any
  simp only [numV_agg] at KS KL KSQ KB ⊢
  clear hc1 hst hend hL ha hk
  go_enter Try.func69, Try.ntmps69
  go_wp2_with fail
  change Calls _ _ _ (A3p a k w) _
  generalize A3p a k w = X at *
  refine (KS.out X).mono ?_
  rintro e w1 ⟨rfl, hb1⟩
  have hs1 : w.heap.size + 3 ≤ w1.heap.size := by have := hb1.size; omega
  have XA := Lib.hid ((xa.keep hb1).alloc (.cells #[.int .u64 (wd c1 0 : Int), .int .u64 (wd c1 1 : Int), .int .u64 (wd c1 2 : Int), .int .u64 (wd c1 3 : Int)] 28))
  have xk1 := (xk.keep hb1).alloc (.cells #[.int .u64 (wd c1 0 : Int), .int .u64 (wd c1 1 : Int), .int .u64 (wd c1 2 : Int), .int .u64 (wd c1 3 : Int)] 28)
  have XR := Lib.hid ((xr.keep hb1).alloc (.cells #[.int .u64 (wd c1 0 : Int), .int .u64 (wd c1 1 : Int), .int .u64 (wd c1 2 : Int), .int .u64 (wd c1 3 : Int)] 28))
  have XB := Lib.hid (b_alloc (b_calls hb1 xB (by omega)) (.cells #[.int .u64 (wd c1 0 : Int), .int .u64 (wd c1 1 : Int), .int .u64 (wd c1 2 : Int), .int .u64 (wd c1 3 : Int)] 28))
  have XO : Hid (IsA (w1.alloc (.cells #[.int .u64 (wd c1 0 : Int), .int .u64 (wd c1 1 : Int), .int .u64 (wd c1 2 : Int), .int .u64 (wd c1 3 : Int)] 28)) w1.heap.size c1 28) := (alloc_new w1 _ :)
  obtain ⟨⟨k0, k1, k2, k3⟩, _⟩ := fourV xk1
  have XK := Lib.hid xk1
  clear xa xk xr xB xk1 hb1 xz
  go_wp2_with fail
  have hY1 : (w1.alloc (.cells #[.int .u64 (wd c1 0 : Int), .int .u64 (wd c1 1 : Int), .int .u64 (wd c1 2 : Int), .int .u64 (wd c1 3 : Int)] 28)).heap.size = w1.heap.size + 1 := alloc_size1 _ _
  have hYs : w1.heap.size + 1 ≤ (w1.alloc (.cells #[.int .u64 (wd c1 0 : Int), .int .u64 (wd c1 1 : Int), .int .u64 (wd c1 2 : Int), .int .u64 (wd c1 3 : Int)] 28)).heap.size := by rw [hY1]; omega
  clear hY1
  generalize w1.alloc (.cells #[.int .u64 (wd c1 0 : Int), .int .u64 (wd c1 1 : Int), .int .u64 (wd c1 2 : Int), .int .u64 (wd c1 3 : Int)] 28) = Y at *
  generalize w1.heap.size = go at *
  refine (KL.out Y).mono ?_
  rintro e w2 ⟨rfl, hb2⟩
  have hs2 := hb2.size
  have XA2 := Lib.hid (XA.out.keep hb2)
  have XK2 := Lib.hid (XK.out.keep hb2)
  have XR2 := Lib.hid (XR.out.keep hb2)
  have XO2 := Lib.hid (XO.out.keep hb2)
  have XB2 := Lib.hid (b_calls hb2 XB.out (by omega))
  clear k0 k1 k2 k3 XA XK XR XO XB hb2
  go_wp2_with fail
  go_loopw [6] (fun i wr => ∃ j : Nat, j ≤ L ∧ i = .int .i64 ((j : Int) - 1) ∧ IsA wr go (powN a k j) 28 ∧ IsA wr w.heap.size a 28 ∧ IsA wr (w.heap.size + 1) k 26 ∧ IsA wr (w.heap.size + 1 + 1) 0 28 ∧ Below w.heap.size w wr) (fun i _ => (Go.RowKit.intOf i + 1).toNat)
  case atStart => exact ⟨L, Nat.le_refl _, rfl, by rw [HST.out]; exact XO2.out, XA2.out, XK2.out, XR2.out, XB2.out⟩
  case round =>
    obtain ⟨j, hj, rfl, ro, ra, rk, rr, rb⟩ := hrel
    clear XA2 XK2 XR2 XO2 XB2 HST hs2 hYs
    have hbs := rb.size
    have hlo := lt_blk ro
    have hlr := lt_blk rr
    cases j with
    | zero =>
      have q1 : ¬ (0 : Int) ≤ ((0 : Nat) : Int) - 1 := by omega
      have q2 : ((0 : Nat) : Int) - 1 = -1 := by omega
      rw [q2] at q1
      rw [q2]
      obtain ⟨R, hR⟩ : ∃ R, powN a k 0 = R := ⟨_, rfl⟩
      rw [hR] at ro
      have HR := Lib.hid hR
      obtain ⟨⟨s0, s1, s2, s3⟩, _⟩ := fourV ro
      have xr := isA_zero' rr
      obtain ⟨⟨d0, d1, d2, d3⟩, e0, e1, e2, e3⟩ := fourV xr
      have KL := Lib.hid (load_el (isA_set (n := R) xr))
      have BR := Lib.hid (b_set4 (v0 := .int .u64 (wd R 0 : Int)) (v1 := .int .u64 (wd R 1 : Int)) (v2 := .int .u64 (wd R 2 : Int)) (v3 := .int .u64 (wd R 3 : Int)) rb (b := w.heap.size + 1 + 1) (by omega))
      clear hR ro ra rk rr xr rb
      go_wp2_with fail
      exact bodyPost_ret (results_arr Try.results69 (by rfl) KL.out) rfl ⟨by rw [HR.out]; rfl, BR.out⟩
    | succ j =>
      have q2 : ((j + 1 : Nat) : Int) - 1 = (j : Int) := by omega
      rw [q2]
      have q1 : (0 : Int) ≤ (j : Int) := by omega
      have hj2 : (j : Int) < 256 := by omega
      have hnx := powN_next a k j
      have hvl := powN_lt a k (j + 1)
      obtain ⟨V, hV⟩ : ∃ V, powN a k (j + 1) = V := ⟨_, rfl⟩
      rw [hV] at ro hnx hvl
      have KQ := Lib.hid (KSQ.out V V hvl hvl)
      have hql : V * V % PN < PN := Nat.mod_lt _ PN_pos
      obtain ⟨Q, hQ⟩ : ∃ Q, V * V % PN = Q := ⟨_, rfl⟩
      rw [hQ] at KQ hnx hql
      have KMA := Lib.hid (KSQ.out Q a hql HAK.out.1)
      obtain ⟨R, hR⟩ : ∃ R, Q * a % PN = R := ⟨_, rfl⟩
      rw [hR] at KMA hnx
      have KBJ := Lib.hid (KB.out k j)
      obtain ⟨⟨s0, s1, s2, s3⟩, _⟩ := fourV ro
      have RO := Lib.hid (ro.alloc (.cells #[.int .u64 (wd V 0 : Int), .int .u64 (wd V 1 : Int), .int .u64 (wd V 2 : Int), .int .u64 (wd V 3 : Int), .int .u64 (wd V 0 : Int), .int .u64 (wd V 1 : Int), .int .u64 (wd V 2 : Int), .int .u64 (wd V 3 : Int)] 28))
      have RA := Lib.hid (ra.alloc (.cells #[.int .u64 (wd V 0 : Int), .int .u64 (wd V 1 : Int), .int .u64 (wd V 2 : Int), .int .u64 (wd V 3 : Int), .int .u64 (wd V 0 : Int), .int .u64 (wd V 1 : Int), .int .u64 (wd V 2 : Int), .int .u64 (wd V 3 : Int)] 28))
      have RK := Lib.hid (rk.alloc (.cells #[.int .u64 (wd V 0 : Int), .int .u64 (wd V 1 : Int), .int .u64 (wd V 2 : Int), .int .u64 (wd V 3 : Int), .int .u64 (wd V 0 : Int), .int .u64 (wd V 1 : Int), .int .u64 (wd V 2 : Int), .int .u64 (wd V 3 : Int)] 28))
      have RR := Lib.hid (rr.alloc (.cells #[.int .u64 (wd V 0 : Int), .int .u64 (wd V 1 : Int), .int .u64 (wd V 2 : Int), .int .u64 (wd V 3 : Int), .int .u64 (wd V 0 : Int), .int .u64 (wd V 1 : Int), .int .u64 (wd V 2 : Int), .int .u64 (wd V 3 : Int)] 28))
      have RB := Lib.hid (b_alloc rb (.cells #[.int .u64 (wd V 0 : Int), .int .u64 (wd V 1 : Int), .int .u64 (wd V 2 : Int), .int .u64 (wd V 3 : Int), .int .u64 (wd V 0 : Int), .int .u64 (wd V 1 : Int), .int .u64 (wd V 2 : Int), .int .u64 (wd V 3 : Int)] 28))
      have hjb : (wr.alloc (.cells #[.int .u64 (wd V 0 : Int), .int .u64 (wd V 1 : Int), .int .u64 (wd V 2 : Int), .int .u64 (wd V 3 : Int), .int .u64 (wd V 0 : Int), .int .u64 (wd V 1 : Int), .int .u64 (wd V 2 : Int), .int .u64 (wd V 3 : Int)] 28)).heap.size = wr.heap.size + 1 := alloc_size1 _ _
      have HNX := Lib.hid hnx
      have H256 := Lib.hid (show j < 256 by omega)
      have HJL := Lib.hid (show j ≤ L by omega)
      clear ro ra rk rr rb hnx hvl hql hV hQ hR hle hj
      have RV := Lib.hid (alloc_new wr (.cells #[.int .u64 (wd V 0 : Int), .int .u64 (wd V 1 : Int), .int .u64 (wd V 2 : Int), .int .u64 (wd V 3 : Int), .int .u64 (wd V 0 : Int), .int .u64 (wd V 1 : Int), .int .u64 (wd V 2 : Int), .int .u64 (wd V 3 : Int)] 28))
      go_wp2_with fail
      refine (KQ.out wr.heap.size _ RV.out).mono ?_
      rintro e w3 ⟨rfl, hb3⟩
      have hs3 : wr.heap.size + 1 ≤ w3.heap.size := by have := hb3.size; omega
      have ro3 := RO.out.keep hb3
      obtain ⟨⟨d0, d1, d2, d3⟩, e0, e1, e2, e3⟩ := fourV ro3
      have RO3 := Lib.hid (isA_set (n := Q) ro3)
      have RA3 := Lib.hid ((RA.out.keep hb3).far (c := go) (v0 := .int .u64 (wd Q 0 : Int)) (v1 := .int .u64 (wd Q 1 : Int)) (v2 := .int .u64 (wd Q 2 : Int)) (v3 := .int .u64 (wd Q 3 : Int)) (by have := hs1; omega))
      have rk3 := (RK.out.keep hb3).far (c := go) (v0 := .int .u64 (wd Q 0 : Int)) (v1 := .int .u64 (wd Q 1 : Int)) (v2 := .int .u64 (wd Q 2 : Int)) (v3 := .int .u64 (wd Q 3 : Int)) (by omega)
      have RR3 := Lib.hid ((RR.out.keep hb3).far (c := go) (v0 := .int .u64 (wd Q 0 : Int)) (v1 := .int .u64 (wd Q 1 : Int)) (v2 := .int .u64 (wd Q 2 : Int)) (v3 := .int .u64 (wd Q 3 : Int)) (by omega))
      have RB3 := Lib.hid (b_set4 (b_calls hb3 RB.out (by omega)) (v0 := .int .u64 (wd Q 0 : Int)) (v1 := .int .u64 (wd Q 1 : Int)) (v2 := .int .u64 (wd Q 2 : Int)) (v3 := .int .u64 (wd Q 3 : Int)) (b := go) (by omega))
      obtain ⟨⟨k0, k1, k2, k3⟩, _⟩ := fourV rk3
      have RK3 := Lib.hid rk3
      clear RO RA RK RR RB RV hb3 ro3 rk3 s0 s1 s2 s3 hjb
      have hzs : ((((w3.setCell ⟨go, 0, none⟩ (.int .u64 (wd Q 0 : Int))).setCell ⟨go, 1, none⟩ (.int .u64 (wd Q 1 : Int))).setCell ⟨go, 2, none⟩ (.int .u64 (wd Q 2 : Int))).setCell ⟨go, 3, none⟩ (.int .u64 (wd Q 3 : Int))).heap.size = w3.heap.size := by simp only [set_size]
      go_wp2_with fail
      generalize (((w3.setCell ⟨go, 0, none⟩ (.int .u64 (wd Q 0 : Int))).setCell ⟨go, 1, none⟩ (.int .u64 (wd Q 1 : Int))).setCell ⟨go, 2, none⟩ (.int .u64 (wd Q 2 : Int))).setCell ⟨go, 3, none⟩ (.int .u64 (wd Q 3 : Int)) = Z at *
      refine (KBJ.out Z H256.out).mono ?_
      rintro e w4 ⟨rfl, hb4⟩
      have hs4 := hb4.size
      have RO4 := Lib.hid (RO3.out.keep hb4)
      have RA4 := Lib.hid (RA3.out.keep hb4)
      have RK4 := Lib.hid (RK3.out.keep hb4)
      have RR4 := Lib.hid (RR3.out.keep hb4)
      have RB4 := Lib.hid (b_calls hb4 RB3.out (by omega))
      have hbj := bitN_lt k j
      clear RO3 RA3 RK3 RR3 RB3 hb4 k0 k1 k2 k3 KBJ KB
      by_cases h1 : bitN k j = 1
      · have hN : powN a k j = R := by rw [HNX.out, if_pos h1]
        have b1 : (bitN k j : Int) = 1 := by omega
        rw [b1]
        have HN := Lib.hid hN
        clear hbj h1 b1 hN HNX
        obtain ⟨⟨s0, s1, s2, s3⟩, _⟩ := fourV RO4.out
        obtain ⟨⟨t0, t1, t2, t3⟩, _⟩ := fourV RA4.out
        have RV := Lib.hid (alloc_new w4 (.cells #[.int .u64 (wd Q 0 : Int), .int .u64 (wd Q 1 : Int), .int .u64 (wd Q 2 : Int), .int .u64 (wd Q 3 : Int), .int .u64 (wd a 0 : Int), .int .u64 (wd a 1 : Int), .int .u64 (wd a 2 : Int), .int .u64 (wd a 3 : Int)] 28))
        have hjb : (w4.alloc (.cells #[.int .u64 (wd Q 0 : Int), .int .u64 (wd Q 1 : Int), .int .u64 (wd Q 2 : Int), .int .u64 (wd Q 3 : Int), .int .u64 (wd a 0 : Int), .int .u64 (wd a 1 : Int), .int .u64 (wd a 2 : Int), .int .u64 (wd a 3 : Int)] 28)).heap.size = w4.heap.size + 1 := alloc_size1 _ _
        go_wp2_with fail
        refine (KMA.out w4.heap.size _ RV.out).mono ?_
        rintro e w5 ⟨rfl, hb5⟩
        have hs5 : w4.heap.size + 1 ≤ w5.heap.size := by have := hb5.size; omega
        have ro5 := (RO4.out.alloc (.cells #[.int .u64 (wd Q 0 : Int), .int .u64 (wd Q 1 : Int), .int .u64 (wd Q 2 : Int), .int .u64 (wd Q 3 : Int), .int .u64 (wd a 0 : Int), .int .u64 (wd a 1 : Int), .int .u64 (wd a 2 : Int), .int .u64 (wd a 3 : Int)] 28)).keep hb5
        obtain ⟨⟨d0, d1, d2, d3⟩, e0, e1, e2, e3⟩ := fourV ro5
        have RO5 := Lib.hid (isA_set (n := R) ro5)
        have RA5 := Lib.hid (((RA4.out.alloc (.cells #[.int .u64 (wd Q 0 : Int), .int .u64 (wd Q 1 : Int), .int .u64 (wd Q 2 : Int), .int .u64 (wd Q 3 : Int), .int .u64 (wd a 0 : Int), .int .u64 (wd a 1 : Int), .int .u64 (wd a 2 : Int), .int .u64 (wd a 3 : Int)] 28)).keep hb5).far (c := go) (v0 := .int .u64 (wd R 0 : Int)) (v1 := .int .u64 (wd R 1 : Int)) (v2 := .int .u64 (wd R 2 : Int)) (v3 := .int .u64 (wd R 3 : Int)) (by omega))
        have RK5 := Lib.hid (((RK4.out.alloc (.cells #[.int .u64 (wd Q 0 : Int), .int .u64 (wd Q 1 : Int), .int .u64 (wd Q 2 : Int), .int .u64 (wd Q 3 : Int), .int .u64 (wd a 0 : Int), .int .u64 (wd a 1 : Int), .int .u64 (wd a 2 : Int), .int .u64 (wd a 3 : Int)] 28)).keep hb5).far (c := go) (v0 := .int .u64 (wd R 0 : Int)) (v1 := .int .u64 (wd R 1 : Int)) (v2 := .int .u64 (wd R 2 : Int)) (v3 := .int .u64 (wd R 3 : Int)) (by omega))
        have RR5 := Lib.hid (((RR4.out.alloc (.cells #[.int .u64 (wd Q 0 : Int), .int .u64 (wd Q 1 : Int), .int .u64 (wd Q 2 : Int), .int .u64 (wd Q 3 : Int), .int .u64 (wd a 0 : Int), .int .u64 (wd a 1 : Int), .int .u64 (wd a 2 : Int), .int .u64 (wd a 3 : Int)] 28)).keep hb5).far (c := go) (v0 := .int .u64 (wd R 0 : Int)) (v1 := .int .u64 (wd R 1 : Int)) (v2 := .int .u64 (wd R 2 : Int)) (v3 := .int .u64 (wd R 3 : Int)) (by omega))
        have RB5 := Lib.hid (b_set4 (b_calls hb5 (b_alloc RB4.out (.cells #[.int .u64 (wd Q 0 : Int), .int .u64 (wd Q 1 : Int), .int .u64 (wd Q 2 : Int), .int .u64 (wd Q 3 : Int), .int .u64 (wd a 0 : Int), .int .u64 (wd a 1 : Int), .int .u64 (wd a 2 : Int), .int .u64 (wd a 3 : Int)] 28)) (by omega)) (v0 := .int .u64 (wd R 0 : Int)) (v1 := .int .u64 (wd R 1 : Int)) (v2 := .int .u64 (wd R 2 : Int)) (v3 := .int .u64 (wd R 3 : Int)) (b := go) (by omega))
        clear RO4 RA4 RK4 RR4 RB4 hb5 ro5 s0 s1 s2 s3 t0 t1 t2 t3 hjb RV
        go_wp2_with fail
        go_roundw
        case rel => exact ⟨j, HJL.out, rfl, by rw [HN.out]; exact RO5.out, RA5.out, RK5.out, RR5.out, RB5.out⟩
        case measure =>
          simp [Go.RowKit.intOf]
          try omega
      · have hN : powN a k j = Q := by rw [HNX.out, if_neg h1]
        have b1 : (bitN k j : Int) = 0 := by omega
        rw [b1]
        have HN := Lib.hid hN
        clear hbj h1 b1 hN HNX
        go_wp2_with fail
        go_roundw
        case rel => exact ⟨j, HJL.out, rfl, by rw [HN.out]; exact RO4.out, RA4.out, RK4.out, RR4.out, RB4.out⟩
        case measure =>
          simp [Go.RowKit.intOf]
          try omega
end Go.Proofs.Ythdbadomppohbaa
