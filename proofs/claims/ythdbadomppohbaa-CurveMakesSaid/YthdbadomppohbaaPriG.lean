/- prime.Mul (layer 19): its contract. -/
import Derived.Test.YthdbadomppohbaaPriF
namespace Go.Proofs.Ythdbadomppohbaa
set_option maxRecDepth 20000
set_option linter.unusedSimpArgs false
set_option linter.unusedVariables false
open Go.RowKit
/-- The product of the first number and the k behind it. -/
def prodP (ns : List Nat) : Nat → Nat
  | 0 => ns.getD 0 0
  | k + 1 => prodP ns k * ns.getD (k + 1) 0 % PN
theorem prodP_lt (ns : List Nat) (h : ∀ n ∈ ns, n < PN) : ∀ k, prodP ns k < PN
  | 0 => getD_ltP h 0
  | _ + 1 => Nat.mod_lt _ PN_pos
/-- What Mul answers. -/
def mulP (ns : List Nat) : Nat → Nat
  | 0 => 1
  | k + 1 => prodP ns k
theorem mul_rest (a b : Nat) : (a * b / B64 ^ 4 * B64 ^ 4 + a * b % B64 ^ 4) % PN = a * b % PN := by
  rw [Nat.mul_comm (a * b / B64 ^ 4), Nat.div_add_mod]
set_option maxHeartbeats 8000000 in
theorem pmul_any (a : Option Addr) (len cap : Nat) (ns : List Nat) (w : World) (hl : len ≤ 100) (hcap : len ≤ cap) (hn : IsNums w a len ns) :
    Calls Try.prog 32 #[.slice a len cap] w fun e w' => e = .returned (numV (mulP ns len)) ∧ Below w.heap.size w w' := by
  by_cases hl0 : len = 0
  · subst hl0
    have K1 := Lib.hid (fun w => psmall_any 1 w (by decide))
    obtain ⟨xr, xz, xB⟩ := z1_at 28 w
    have m1 : mulP ns 0 = 1 := rfl
    rw [m1]
    obtain ⟨c1, hc1⟩ : ∃ c1, c1 = 1 := ⟨1, rfl⟩
    have K1 : Hid (∀ w, Calls Try.prog 33 #[.int .u64 1] w fun e w' => e = .returned (numV c1) ∧ Below w.heap.size w w') := fun w => by rw [hc1]; exact K1.out w
    rw [← hc1]
    simp only [numV_agg] at K1 ⊢
    clear hc1 m1
    go_enter Try.func32, Try.ntmps32
    go_wp2_with fail
    change Calls _ _ _ (Z1 28 w) _
    generalize Z1 28 w = X at *
    refine (K1.out X).mono ?_
    rintro e w1 ⟨rfl, hb1⟩
    have xr1 := isA_zero' (xr.keep hb1)
    obtain ⟨⟨d0, d1, d2, d3⟩, e0, e1, e2, e3⟩ := fourV xr1
    have KL := Lib.hid (load_el (isA_set (n := c1) xr1))
    have BR := Lib.hid (b_set4 (v0 := .int .u64 (wd c1 0 : Int)) (v1 := .int .u64 (wd c1 1 : Int)) (v2 := .int .u64 (wd c1 2 : Int)) (v3 := .int .u64 (wd c1 3 : Int)) (b_calls hb1 xB (by omega)) (b := w.heap.size) (Nat.le_refl _))
    clear xr xr1 xB hb1
    go_wp2_with fail
    exact bodyPost_ret (results_arr Try.results32 (by rfl) KL.out) rfl ⟨rfl, BR.out⟩
  · obtain ⟨b, rfl, hb, hc⟩ := hn.at_ (by omega)
    obtain ⟨xr, xz, xB⟩ := z1_at 28 w
    have HN := Lib.hid (hn.below xB)
    have HLT := Lib.hid hn.lt
    have c0 : w.cell? ⟨b, 0, none⟩ = _ := hc 0 0 (by omega) (by omega)
    have c1 : w.cell? ⟨b, 1, none⟩ = _ := hc 0 1 (by omega) (by omega)
    have c2 : w.cell? ⟨b, 2, none⟩ = _ := hc 0 2 (by omega) (by omega)
    have c3 : w.cell? ⟨b, 3, none⟩ = _ := hc 0 3 (by omega) (by omega)
    have p0 : ((len : Int) == 0) = false := by simp; omega
    have p1 : (0 : Int) < (len : Int) := by omega
    have p2 : (1 : Int) ≤ (len : Int) := by omega
    have p3 : (len : Int) ≤ (cap : Int) := by omega
    have hP0 : prodP ns 0 = ns.getD 0 0 := rfl
    obtain ⟨S, hS⟩ : ∃ S, ns.getD 0 0 = S := ⟨_, rfl⟩
    rw [hS] at c0 c1 c2 c3 hP0
    have HP0 := Lib.hid hP0
    have HXR := Lib.hid xr
    have HXB := Lib.hid xB
    have HL0 := Lib.hid hl0
    clear hn hc hS hP0 xr xB hl0
    have XS := Lib.hid (show IsA ((Z1 28 w).alloc (.cells #[.int .u64 (wd S 0 : Int), .int .u64 (wd S 1 : Int), .int .u64 (wd S 2 : Int), .int .u64 (wd S 3 : Int)] 28)) (Z1 28 w).heap.size S 28 from alloc_new _ _)
    rw [xz] at XS
    have XR := Lib.hid (HXR.out.alloc (.cells #[.int .u64 (wd S 0 : Int), .int .u64 (wd S 1 : Int), .int .u64 (wd S 2 : Int), .int .u64 (wd S 3 : Int)] 28))
    have XB := Lib.hid (b_alloc HXB.out (.cells #[.int .u64 (wd S 0 : Int), .int .u64 (wd S 1 : Int), .int .u64 (wd S 2 : Int), .int .u64 (wd S 3 : Int)] 28))
    have XN := Lib.hid (HN.out.below ((Below.refl (Z1 28 w).heap.size _).alloc (Nat.le_refl _) (.cells #[.int .u64 (wd S 0 : Int), .int .u64 (wd S 1 : Int), .int .u64 (wd S 2 : Int), .int .u64 (wd S 3 : Int)] 28)))
    have hXs : ((Z1 28 w).alloc (.cells #[.int .u64 (wd S 0 : Int), .int .u64 (wd S 1 : Int), .int .u64 (wd S 2 : Int), .int .u64 (wd S 3 : Int)] 28)).heap.size = w.heap.size + 2 := by rw [alloc_size1, xz]
    clear HXR HXB HN xz
    by_cases hc1 : cap = 1
    · obtain rfl : len = 1 := by omega
      subst hc1
      have hM : mulP ns 1 = S := HP0.out
      rw [hM]
      clear hM HP0
      go_enter Try.func32, Try.ntmps32
      go_wp2_with fail
      change Code.wp _ _ _ _ ((Z1 28 w).alloc (.cells #[.int .u64 (wd S 0 : Int), .int .u64 (wd S 1 : Int), .int .u64 (wd S 2 : Int), .int .u64 (wd S 3 : Int)] 28))
      generalize (Z1 28 w).alloc (.cells #[.int .u64 (wd S 0 : Int), .int .u64 (wd S 1 : Int), .int .u64 (wd S 2 : Int), .int .u64 (wd S 3 : Int)] 28) = X at *
      refine wp_loop_rounds 1 ?_
      rw [rounds_succ]
      have rs := XS.out
      have rr := XR.out
      have hbe := XB.out
      obtain ⟨R, hR⟩ : ∃ R, S = R := ⟨_, rfl⟩
      subst hR
      obtain ⟨⟨s0, s1, s2, s3⟩, _⟩ := fourV rs
      have xr := isA_zero' rr
      obtain ⟨⟨d0, d1, d2, d3⟩, e0, e1, e2, e3⟩ := fourV xr
      have KL := Lib.hid (load_el (isA_set (n := S) xr))
      have BR := Lib.hid (b_set4 (v0 := .int .u64 (wd S 0 : Int)) (v1 := .int .u64 (wd S 1 : Int)) (v2 := .int .u64 (wd S 2 : Int)) (v3 := .int .u64 (wd S 3 : Int)) hbe (b := w.heap.size) (by omega))
      clear rs rr hbe xr XS XR XB XN
      go_wp2_with fail
      exact bodyPost_ret (results_arr Try.results32 (by rfl) KL.out) rfl ⟨rfl, BR.out⟩
    · have hM : mulP ns len = prodP ns (len - 1) := by
        obtain ⟨j, rfl⟩ : ∃ j, len = j + 1 := ⟨len - 1, by omega⟩
        rfl
      have HM := Lib.hid hM
      have p4 : ((len - 1 : Nat) : Int) ≤ 100 := by omega
      clear hM
      go_enter Try.func32, Try.ntmps32
      go_wp2_with fail
      change Code.wp _ _ _ _ ((Z1 28 w).alloc (.cells #[.int .u64 (wd S 0 : Int), .int .u64 (wd S 1 : Int), .int .u64 (wd S 2 : Int), .int .u64 (wd S 3 : Int)] 28))
      generalize (Z1 28 w).alloc (.cells #[.int .u64 (wd S 0 : Int), .int .u64 (wd S 1 : Int), .int .u64 (wd S 2 : Int), .int .u64 (wd S 3 : Int)] 28) = X at *
      clear c0 c1 c2 c3
      go_loopw [16] (fun i wr => ∃ k : Nat, k ≤ len - 1 ∧ i = .int .i64 (k : Int) ∧ IsA wr (w.heap.size + 1) (prodP ns k) 28 ∧ IsA wr w.heap.size 0 28 ∧ IsNums wr (some ⟨b, 0, none⟩) len ns ∧ Below w.heap.size w wr) (fun i _ => len - 1 - (Go.RowKit.intOf i).toNat)
      case atStart => exact ⟨0, by omega, rfl, by rw [HP0.out]; exact XS.out, XR.out, XN.out, XB.out⟩
      case round =>
        obtain ⟨k, hk, rfl, rs, rr, hn, hbe⟩ := hrel
        clear XS XR XB XN HP0 hXs
        have hs := hbe.size
        have hls := lt_blk rs
        have hsP := prodP_lt ns HLT.out k
        by_cases hlt : k < len - 1
        · have q1 : (k : Int) < ((len - 1 : Nat) : Int) := by omega
          obtain ⟨b', hbb, hb', hc⟩ := hn.at_ (by omega)
          cases hbb
          have c0 : wr.cell? ⟨b, 4 + k * 4, none⟩ = some (.int .u64 (wd (ns.getD (k + 1) 0) 0 : Int)) := by have h := hc (k + 1) 0 (by omega) (by omega); rw [show (k + 1) * 4 + 0 = 4 + k * 4 by omega] at h; exact h
          have c1 : wr.cell? ⟨b, 4 + k * 4 + 1, none⟩ = some (.int .u64 (wd (ns.getD (k + 1) 0) 1 : Int)) := by have h := hc (k + 1) 1 (by omega) (by omega); rw [show (k + 1) * 4 + 1 = 4 + k * 4 + 1 by omega] at h; exact h
          have c2 : wr.cell? ⟨b, 4 + k * 4 + 2, none⟩ = some (.int .u64 (wd (ns.getD (k + 1) 0) 2 : Int)) := by have h := hc (k + 1) 2 (by omega) (by omega); rw [show (k + 1) * 4 + 2 = 4 + k * 4 + 2 by omega] at h; exact h
          have c3 : wr.cell? ⟨b, 4 + k * 4 + 3, none⟩ = some (.int .u64 (wd (ns.getD (k + 1) 0) 3 : Int)) := by have h := hc (k + 1) 3 (by omega) (by omega); rw [show (k + 1) * 4 + 3 = 4 + k * 4 + 3 by omega] at h; exact h
          have hstep : prodP ns (k + 1) = prodP ns k * ns.getD (k + 1) 0 % PN := rfl
          have hxP := getD_ltP HLT.out (k + 1)
          obtain ⟨P, hP⟩ : ∃ P, prodP ns k = P := ⟨_, rfl⟩
          obtain ⟨Y, hY⟩ : ∃ Y, ns.getD (k + 1) 0 = Y := ⟨_, rfl⟩
          rw [hP] at rs hsP hstep
          rw [hY] at c0 c1 c2 c3 hxP hstep
          have KA := Lib.hid (fun w => mul_any P Y w (of_PN hsP) (of_PN hxP))
          have KM := Lib.hid (fun w => prest_any (P * Y % B64 ^ 4) (P * Y / B64 ^ 4) w (Nat.mod_lt _ (by decide)) (Nat.div_lt_of_lt_mul (Nat.mul_lt_mul'' (of_PN hsP) (of_PN hxP))))
          rw [mul_rest P Y] at KM
          obtain ⟨R, hR⟩ : ∃ R, P * Y % PN = R := ⟨_, rfl⟩
          obtain ⟨A, hAA⟩ : ∃ A, P * Y % B64 ^ 4 = A := ⟨_, rfl⟩
          obtain ⟨C, hC⟩ : ∃ C, P * Y / B64 ^ 4 = C := ⟨_, rfl⟩
          rw [hAA, hC] at KA
          rw [hAA, hC, hR] at KM
          rw [hR] at hstep
          have HS := Lib.hid hstep
          simp only [numV_agg] at KA KM
          obtain ⟨⟨s0, s1, s2, s3⟩, _⟩ := fourV rs
          have RS := Lib.hid (rs.alloc (.cells #[.int .u64 (wd Y 0 : Int), .int .u64 (wd Y 1 : Int), .int .u64 (wd Y 2 : Int), .int .u64 (wd Y 3 : Int)] 28))
          have RR := Lib.hid (rr.alloc (.cells #[.int .u64 (wd Y 0 : Int), .int .u64 (wd Y 1 : Int), .int .u64 (wd Y 2 : Int), .int .u64 (wd Y 3 : Int)] 28))
          have RB := Lib.hid (b_alloc hbe (.cells #[.int .u64 (wd Y 0 : Int), .int .u64 (wd Y 1 : Int), .int .u64 (wd Y 2 : Int), .int .u64 (wd Y 3 : Int)] 28))
          have RN := Lib.hid (hn.below ((Below.refl wr.heap.size wr).alloc (Nat.le_refl _) (.cells #[.int .u64 (wd Y 0 : Int), .int .u64 (wd Y 1 : Int), .int .u64 (wd Y 2 : Int), .int .u64 (wd Y 3 : Int)] 28)))
          obtain ⟨⟨u0, u1, u2, u3⟩, _⟩ := fourV RS.out
          clear hc hP hY hR hAA hC hstep hxP hsP rs rr hbe hn
          go_wp2_with fail
          refine (KA.out _).mono ?_
          rintro e w2 ⟨rfl, hb2⟩
          have hs2 := hb2.size
          have hs2' : wr.heap.size + 1 ≤ w2.heap.size := by rw [alloc_size1] at hs2; exact hs2
          have RS2 := Lib.hid (RS.out.keep hb2)
          have RR2 := Lib.hid (RR.out.keep hb2)
          have RB2 := Lib.hid (b_calls hb2 RB.out (by rw [alloc_size1]; omega))
          have RN2 := Lib.hid (RN.out.below hb2)
          clear RS RR RB RN hb2 hs2 u0 u1 u2 u3 s0 s1 s2 s3 KA c0 c1 c2 c3
          go_wp2_with fail
          refine (KM.out _).mono ?_
          rintro e w3 ⟨rfl, hb3⟩
          have hs3 := hb3.size
          have rs3 := RS2.out.keep hb3
          obtain ⟨⟨d0, d1, d2, d3⟩, e0, e1, e2, e3⟩ := fourV rs3
          have RS3 := Lib.hid (isA_set (n := R) rs3)
          have RR3 := Lib.hid ((RR2.out.keep hb3).far (c := w.heap.size + 1) (v0 := .int .u64 (wd R 0 : Int)) (v1 := .int .u64 (wd R 1 : Int)) (v2 := .int .u64 (wd R 2 : Int)) (v3 := .int .u64 (wd R 3 : Int)) (by omega))
          have RB3 := Lib.hid (b_set4 (b_calls hb3 RB2.out (by omega)) (v0 := .int .u64 (wd R 0 : Int)) (v1 := .int .u64 (wd R 1 : Int)) (v2 := .int .u64 (wd R 2 : Int)) (v3 := .int .u64 (wd R 3 : Int)) (b := w.heap.size + 1) (by omega))
          have RN3 := Lib.hid ((RN2.out.below hb3).far (c := w.heap.size + 1) (v0 := .int .u64 (wd R 0 : Int)) (v1 := .int .u64 (wd R 1 : Int)) (v2 := .int .u64 (wd R 2 : Int)) (v3 := .int .u64 (wd R 3 : Int)) (fun q hq => by cases hq; omega))
          clear RS2 RR2 RB2 RN2 hb3 rs3 KM
          go_wp2_with fail
          go_roundw
          case rel => exact ⟨k + 1, by omega, congrArg (Value.int .i64) (by omega), by rw [HS.out]; exact RS3.out, RR3.out, RN3.out, RB3.out⟩
          case measure =>
            simp [Go.RowKit.intOf]
            omega
        · obtain ⟨k', hk'⟩ : ∃ k', len - 1 = k' := ⟨_, rfl⟩
          have HK := Lib.hid (show k = len - 1 by omega)
          have q1 : ¬ (k : Int) < ((len - 1 : Nat) : Int) := by omega
          obtain ⟨R, hR⟩ : ∃ R, prodP ns k = R := ⟨_, rfl⟩
          rw [hR] at rs
          have HR2 := Lib.hid hR
          obtain ⟨⟨s0, s1, s2, s3⟩, _⟩ := fourV rs
          have xr := isA_zero' rr
          obtain ⟨⟨d0, d1, d2, d3⟩, e0, e1, e2, e3⟩ := fourV xr
          have KL := Lib.hid (load_el (isA_set (n := R) xr))
          have BR := Lib.hid (b_set4 (v0 := .int .u64 (wd R 0 : Int)) (v1 := .int .u64 (wd R 1 : Int)) (v2 := .int .u64 (wd R 2 : Int)) (v3 := .int .u64 (wd R 3 : Int)) hbe (b := w.heap.size) (by omega))
          clear hR hn rs rr xr hbe hk' hsP hlt
          go_wp2_with fail
          exact bodyPost_ret (results_arr Try.results32 (by rfl) KL.out) rfl ⟨by rw [HM.out, ← HK.out, HR2.out], BR.out⟩
end Go.Proofs.Ythdbadomppohbaa
