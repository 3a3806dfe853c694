/- prime.Root (layer 19): its contract. -/
import Derived.Test.YthdbadomppohbaaPriI
namespace Go.Proofs.Ythdbadomppohbaa
set_option maxRecDepth 20000
set_option linter.unusedSimpArgs false
set_option linter.unusedVariables false
open Go.RowKit
abbrev C8 (w : World) (b n c m : Nat) : Prop := w.cell? ⟨b, 0, none⟩ = some (.int .u64 (wd n 0 : Int)) ∧ w.cell? ⟨b, 1, none⟩ = some (.int .u64 (wd n 1 : Int)) ∧ w.cell? ⟨b, 2, none⟩ = some (.int .u64 (wd n 2 : Int)) ∧ w.cell? ⟨b, 3, none⟩ = some (.int .u64 (wd n 3 : Int)) ∧ w.cell? ⟨c, 0, none⟩ = some (.int .u64 (wd m 0 : Int)) ∧ w.cell? ⟨c, 1, none⟩ = some (.int .u64 (wd m 1 : Int)) ∧ w.cell? ⟨c, 2, none⟩ = some (.int .u64 (wd m 2 : Int)) ∧ w.cell? ⟨c, 3, none⟩ = some (.int .u64 (wd m 3 : Int))
theorem C8.of {w : World} {b n c m : Nat} (h : C4 w b n) (g : C4 w c m) : C8 w b n c m := ⟨h.1, h.2.1, h.2.2.1, h.2.2.2, g⟩
theorem C8.left {w : World} {b n c m : Nat} (h : C8 w b n c m) : C4 w b n := ⟨h.1, h.2.1, h.2.2.1, h.2.2.2.1⟩
theorem C8.right {w : World} {b n c m : Nat} (h : C8 w b n c m) : C4 w c m := h.2.2.2.2
theorem C8.calls {w w' : World} {b n c m N : Nat} (hb : Below N w w') (h : C8 w b n c m) (hN : w.heap.size ≤ N) : C8 w' b n c m := C8.of (C4.calls hb h.left hN) (C4.calls hb h.right hN)
theorem C8.alloc {w : World} {b n c m : Nat} (h : C8 w b n c m) (o : Obj) : C8 (w.alloc o) b n c m := C8.of (h.left.alloc o) (h.right.alloc o)
theorem C8.drew {w : World} {b n c m : Nat} (h : C8 w b n c m) : C8 w.drew b n c m := h
def P3 : Nat := (PN + 3) / 8
def P4 : Nat := (PN - 1) / 4
theorem P3_B : P3 < B64 ^ 4 := by decide +kernel
theorem P4_B : P4 < B64 ^ 4 := by decide +kernel
theorem num_P3 : numV P3 = .agg #[.int .u64 18446744073709551614, .int .u64 18446744073709551615, .int .u64 18446744073709551615, .int .u64 1152921504606846975] := by
  unfold numV
  rw [show wd P3 0 = 18446744073709551614 by decide +kernel, show wd P3 1 = 18446744073709551615 by decide +kernel, show wd P3 2 = 18446744073709551615 by decide +kernel, show wd P3 3 = 1152921504606846975 by decide +kernel]
  rfl
theorem num_P4 : numV P4 = .agg #[.int .u64 18446744073709551611, .int .u64 18446744073709551615, .int .u64 18446744073709551615, .int .u64 2305843009213693951] := by
  unfold numV
  rw [show wd P4 0 = 18446744073709551611 by decide +kernel, show wd P4 1 = 18446744073709551615 by decide +kernel, show wd P4 2 = 18446744073709551615 by decide +kernel, show wd P4 3 = 2305843009213693951 by decide +kernel]
  rfl
def r0N (a : Nat) : Nat := a ^ P3 % PN
theorem powmod_lt (g k : Nat) : g ^ k % PN < PN := Nat.mod_lt _ PN_pos
/-- With i, a root of -1. -/
def r1N (i a : Nat) : Nat := if r0N a * r0N a % PN = a then r0N a else r0N a * i % PN
def okN (i a : Nat) : Bool := decide (r1N i a * r1N i a % PN = a)
def rootN (i a : Nat) : Nat := if r1N i a * r1N i a % PN = a then (if r1N i a % 2 = 1 then (0 + PN - r1N i a) % PN else r1N i a) else 0
theorem r0N_lt (a : Nat) : r0N a < PN := Nat.mod_lt _ PN_pos
theorem r1N_lt (i a : Nat) : r1N i a < PN := by
  unfold r1N
  split
  · exact r0N_lt a
  · exact Nat.mod_lt _ PN_pos
/-- 2 to the power (p - 1) / 4, behind an equation alone. -/
theorem i_is : ∃ i, i < PN ∧ ∀ w, Calls Try.prog 69 #[numV 2, numV P4] w fun e w' => e = .returned (numV i) ∧ Below w.heap.size w w' := ⟨2 ^ P4 % PN, powmod_lt 2 P4, fun w => ppow_any 2 P4 w (by decide +kernel) P4_B⟩
set_option maxHeartbeats 8000000 in
theorem proot_any (i : Nat) (hi : i < PN) (KI : ∀ w, Calls Try.prog 69 #[numV 2, numV P4] w fun e w' => e = .returned (numV i) ∧ Below w.heap.size w w') (a : Nat) (w : World) (ha : a < PN) : Calls Try.prog 46 #[numV a] w fun e w' => e = .returned (.tuple #[numV (rootN i a), .bool (okN i a)]) ∧ Below w.heap.size w w' := by
  have K3 := Lib.hid (fun w => ppow_any a P3 w ha P3_B)
  rw [num_P3, show a ^ P3 % PN = r0N a from rfl] at K3
  have hr0 := r0N_lt a
  obtain ⟨xa, xr, xz, xB⟩ := a2_at a 28 28 w
  have H1 : Hid (r1N i a = if r0N a * r0N a % PN = a then r0N a else r0N a * i % PN) := rfl
  have hr1 := r1N_lt i a
  obtain ⟨r0, hr⟩ : ∃ r0, r0N a = r0 := ⟨_, rfl⟩
  rw [hr] at K3 hr0 H1
  obtain ⟨r1, hq⟩ : ∃ r1, r1N i a = r1 := ⟨_, rfl⟩
  rw [hq] at H1 hr1
  have HR1 := Lib.hid hq
  have KMM := Lib.hid mul_two
  have KI := Lib.hid KI
  rw [num_P4] at KI
  have KS := Lib.hid (fun w => psmall_any 2 w (by decide))
  obtain ⟨c2, hc2⟩ : ∃ c2, c2 = 2 := ⟨2, rfl⟩
  have KS : Hid (∀ w, Calls Try.prog 33 #[.int .u64 2] w fun e w' => e = .returned (numV c2) ∧ Below w.heap.size w w') := fun w => by rw [hc2]; exact KS.out w
  rw [← hc2] at KI
  clear hc2
  simp only [numV_agg] at K3 KMM KI KS ⊢
  obtain ⟨⟨p0, p1, p2, p3⟩, _⟩ := fourV xa
  have HLT := Lib.hid (And.intro ha (And.intro hr0 (And.intro hr1 hi)))
  clear hr hq ha hr0 hr1 hi
  go_enter Try.func46, Try.ntmps46
  go_wp2_with fail
  change Calls _ _ _ (A2 a 28 28 w) _
  generalize A2 a 28 28 w = X at *
  refine (K3.out X).mono ?_
  rintro e w1 ⟨rfl, hb1⟩
  have hs1 : w.heap.size + 2 ≤ w1.heap.size := by have := hb1.size; omega
  have XA := Lib.hid ((xa.keep hb1).alloc (.cells #[.int .u64 (wd r0 0 : Int), .int .u64 (wd r0 1 : Int), .int .u64 (wd r0 2 : Int), .int .u64 (wd r0 3 : Int)] 28))
  have XR := Lib.hid ((xr.keep hb1).alloc (.cells #[.int .u64 (wd r0 0 : Int), .int .u64 (wd r0 1 : Int), .int .u64 (wd r0 2 : Int), .int .u64 (wd r0 3 : Int)] 28))
  have XB := Lib.hid (b_alloc (b_calls hb1 xB (by omega)) (.cells #[.int .u64 (wd r0 0 : Int), .int .u64 (wd r0 1 : Int), .int .u64 (wd r0 2 : Int), .int .u64 (wd r0 3 : Int)] 28))
  have XO : Hid (IsA (w1.alloc (.cells #[.int .u64 (wd r0 0 : Int), .int .u64 (wd r0 1 : Int), .int .u64 (wd r0 2 : Int), .int .u64 (wd r0 3 : Int)] 28)) w1.heap.size r0 28) := (alloc_new w1 _ :)
  have hY1 : (w1.alloc (.cells #[.int .u64 (wd r0 0 : Int), .int .u64 (wd r0 1 : Int), .int .u64 (wd r0 2 : Int), .int .u64 (wd r0 3 : Int)] 28)).heap.size = w1.heap.size + 1 := alloc_size1 _ _
  have hYs : w1.heap.size + 1 ≤ (w1.alloc (.cells #[.int .u64 (wd r0 0 : Int), .int .u64 (wd r0 1 : Int), .int .u64 (wd r0 2 : Int), .int .u64 (wd r0 3 : Int)] 28)).heap.size := by rw [hY1]; omega
  clear xa xr xB hb1 xz hY1 p0 p1 p2 p3
  go_wp2_with fail
  generalize w1.alloc (.cells #[.int .u64 (wd r0 0 : Int), .int .u64 (wd r0 1 : Int), .int .u64 (wd r0 2 : Int), .int .u64 (wd r0 3 : Int)] 28) = Y at *
  generalize w1.heap.size = go at *
  have hq0 : r0 * r0 % PN < PN := Nat.mod_lt _ PN_pos
  have KQ := Lib.hid (KMM.out r0 r0 HLT.out.2.1 HLT.out.2.1)
  obtain ⟨q0, hq0'⟩ : ∃ q0, r0 * r0 % PN = q0 := ⟨_, rfl⟩
  rw [hq0'] at KQ H1 hq0
  have kq := fun w => eql_el q0 a w (of_PN hq0) (of_PN HLT.out.1)
  have hC : C8 Y go r0 w.heap.size a := C8.of (cells4 XO.out) (cells4 XA.out)
  have hCd : C8 Y.drew go r0 w.heap.size a := hC
  clear hq0 hq0'
  go_region_held3 (fun w' => w'.cell? ⟨go, 0, none⟩ = some (.int .u64 (wd r0 0 : Int)) ∧ w'.cell? ⟨go, 1, none⟩ = some (.int .u64 (wd r0 1 : Int)) ∧ w'.cell? ⟨go, 2, none⟩ = some (.int .u64 (wd r0 2 : Int)) ∧ w'.cell? ⟨go, 3, none⟩ = some (.int .u64 (wd r0 3 : Int)) ∧ w'.cell? ⟨w.heap.size, 0, none⟩ = some (.int .u64 (wd a 0 : Int)) ∧ w'.cell? ⟨w.heap.size, 1, none⟩ = some (.int .u64 (wd a 1 : Int)) ∧ w'.cell? ⟨w.heap.size, 2, none⟩ = some (.int .u64 (wd a 2 : Int)) ∧ w'.cell? ⟨w.heap.size, 3, none⟩ = some (.int .u64 (wd a 3 : Int))) (first | (with_reducible exact hCd) | (focus ((repeat (first | (with_reducible assumption) | (with_reducible apply C8.alloc) | (with_reducible apply C8.drew) | (with_reducible apply C8.calls) | exact Nat.le_refl _ | omega | (simp; done))); done))) (first
    | (go_at_call 32; (refine (KQ.out _ _ ?_).mono ?_); (focus ((first | exact alloc_new _ _ | exact drew_keep (alloc_new _ _)); done)); rintro e w3 ⟨rfl, hb3⟩))
  rename_i hH
  clear hH hC hCd
  have hs3 : Y.heap.size + 1 ≤ w3.heap.size := by have := hb3.size; rw [World.size_drew, alloc_size1] at this; exact this
  have ro3 := isA_calls hb3 (XO.out.alloc _).drew (Nat.le_refl _)
  have ra3 := isA_calls hb3 (XA.out.alloc _).drew (Nat.le_refl _)
  have rr3 := isA_calls hb3 (XR.out.alloc _).drew (Nat.le_refl _)
  have rb3 := b_calls hb3 (b_drew (b_alloc XB.out _)) (by rw [World.size_drew, alloc_size1]; omega)
  clear hb3 kq XO XA XR XB
  by_cases h0 : q0 = a
  · rw [decide_eq_true h0]
    have hr1 := H1.out
    rw [if_pos h0] at hr1
    subst hr1
    have RO := Lib.hid ro3
    have RA := Lib.hid ra3
    have RR := Lib.hid rr3
    have RB := Lib.hid rb3
    have hU : go < w3.heap.size := by omega
    clear ro3 ra3 rr3 rb3 h0 H1
    go_wp2_with fail
    generalize w3 = U at *

    have HQR := Lib.hid (show r1 * r1 % PN = r1 * r1 % PN from rfl)
    have hq1 : r1 * r1 % PN < PN := Nat.mod_lt _ PN_pos
    have KQ1 := Lib.hid (KMM.out r1 r1 HLT.out.2.2.1 HLT.out.2.2.1)
    obtain ⟨q1, hq1'⟩ : ∃ q1, r1 * r1 % PN = q1 := ⟨_, rfl⟩
    have HQ1 := Lib.hid hq1'
    rw [hq1'] at KQ1 hq1
    have kq := fun w => eql_el q1 a w (of_PN hq1) (of_PN HLT.out.1)
    have hC : C8 U go r1 w.heap.size a := C8.of (cells4 RO.out) (cells4 RA.out)
    have hCd : C8 U.drew go r1 w.heap.size a := hC
    clear hq1 hq1'
    go_region_held3 (fun w' => w'.cell? ⟨go, 0, none⟩ = some (.int .u64 (wd r1 0 : Int)) ∧ w'.cell? ⟨go, 1, none⟩ = some (.int .u64 (wd r1 1 : Int)) ∧ w'.cell? ⟨go, 2, none⟩ = some (.int .u64 (wd r1 2 : Int)) ∧ w'.cell? ⟨go, 3, none⟩ = some (.int .u64 (wd r1 3 : Int)) ∧ w'.cell? ⟨w.heap.size, 0, none⟩ = some (.int .u64 (wd a 0 : Int)) ∧ w'.cell? ⟨w.heap.size, 1, none⟩ = some (.int .u64 (wd a 1 : Int)) ∧ w'.cell? ⟨w.heap.size, 2, none⟩ = some (.int .u64 (wd a 2 : Int)) ∧ w'.cell? ⟨w.heap.size, 3, none⟩ = some (.int .u64 (wd a 3 : Int))) (first | (with_reducible exact hCd) | (focus ((repeat (first | (with_reducible assumption) | (with_reducible apply C8.alloc) | (with_reducible apply C8.drew) | (with_reducible apply C8.calls) | exact Nat.le_refl _ | omega | (simp; done))); done))) (first
      | (go_at_call 32; (refine (KQ1.out _ _ ?_).mono ?_); (focus ((first | exact alloc_new _ _ | exact drew_keep (alloc_new _ _)); done)); rintro e w6 ⟨rfl, hb6⟩))
    rename_i hH
    clear hH hC hCd
    have hs6 : U.heap.size + 1 ≤ w6.heap.size := by have := hb6.size; rw [World.size_drew, alloc_size1] at this; exact this
    have ro6 := isA_calls hb6 (RO.out.alloc _).drew (Nat.le_refl _)
    have ra6 := isA_calls hb6 (RA.out.alloc _).drew (Nat.le_refl _)
    have rr6 := isA_zero' (isA_calls hb6 (RR.out.alloc _).drew (Nat.le_refl _))
    have rb6 := b_calls hb6 (b_drew (b_alloc RB.out _)) (by rw [World.size_drew, alloc_size1]; omega)
    clear hb6 kq
    by_cases h1 : q1 = a
    · rw [decide_eq_true h1]
      have KO := Lib.hid (fun w => podd_any r1 w)
      have KN := Lib.hid (fun w => pneg_any r1 w HLT.out.2.2.1)
      simp only [numV_agg] at KO KN
      obtain ⟨⟨s0, s1, s2, s3⟩, _⟩ := fourV ro6
      have RO6 := Lib.hid ro6
      have RR6 := Lib.hid rr6
      have RB6 := Lib.hid rb6
      have H1T := Lib.hid h1
      clear ro6 ra6 rr6 rb6 h1 RO RA RR RB
      go_wp2_with fail
      refine (KO.out _).mono ?_
      rintro e w7 ⟨rfl, hb7⟩
      have hs7 := hb7.size
      have ro7 := RO6.out.keep hb7
      have rr7 := keep RR6.out hb7
      have rb7 := b_calls hb7 RB6.out (by omega)
      clear RO6 RR6 RB6 hb7 s0 s1 s2 s3
      by_cases h2 : r1 % 2 = 1
      · rw [decide_eq_true h2]
        have hR : rootN i a = (0 + PN - r1) % PN := by
          unfold rootN
          rw [HR1.out, HQ1.out, if_pos H1T.out, if_pos h2]
        have hO : okN i a = true := by
          unfold okN
          rw [HR1.out, HQ1.out]
          exact decide_eq_true H1T.out
        obtain ⟨R, hRR⟩ : ∃ R, (0 + PN - r1) % PN = R := ⟨_, rfl⟩
        rw [hRR] at KN hR
        have HRT := Lib.hid (And.intro hR hO)
        obtain ⟨⟨s0, s1, s2, s3⟩, _⟩ := fourV ro7
        have RO7 := Lib.hid ro7
        have RR7 := Lib.hid rr7
        have RB7 := Lib.hid rb7
        clear h2 hR hO hRR ro7 rr7 rb7
        go_wp2_with fail
        refine (KN.out _).mono ?_
        rintro e w8 ⟨rfl, hb8⟩
        have hs8 := hb8.size
        have ro8 := RO7.out.keep hb8
        have rr8 := keep RR7.out hb8
        obtain ⟨⟨d0, d1, d2, d3⟩, e0, e1, e2, e3⟩ := fourV ro8
        obtain ⟨⟨c0, c1, c2, c3⟩, f0, f1, f2, f3⟩ := fourV rr8
        have hne1 : go ≠ w.heap.size + 1 := by omega
        have hne2 : w.heap.size + 1 ≠ go := by omega
        have KL := Lib.hid (load_el (isA_set (n := R) (far_keep (b := go) (v0 := .int .u64 (wd R 0 : Int)) (v1 := .int .u64 (wd R 1 : Int)) (v2 := .int .u64 (wd R 2 : Int)) (v3 := .int .u64 (wd R 3 : Int)) rr8 hne2)))
        have BR := Lib.hid (b_set4 (b_set4 (b_calls hb8 RB7.out (by omega)) (v0 := .int .u64 (wd R 0 : Int)) (v1 := .int .u64 (wd R 1 : Int)) (v2 := .int .u64 (wd R 2 : Int)) (v3 := .int .u64 (wd R 3 : Int)) (b := go) (by omega)) (v0 := .int .u64 (wd R 0 : Int)) (v1 := .int .u64 (wd R 1 : Int)) (v2 := .int .u64 (wd R 2 : Int)) (v3 := .int .u64 (wd R 3 : Int)) (b := w.heap.size + 1) (by omega))
        clear RO7 RR7 RB7 hb8 ro8 rr8 s0 s1 s2 s3
        go_wp2_with fail
        exact bodyPost_ret (results_arr_tmp Try.results46 (by rfl) (by rfl) KL.out) rfl ⟨by rw [HRT.out.1, HRT.out.2]; rfl, BR.out⟩
      · rw [decide_eq_false h2]
        have hR : rootN i a = r1 := by
          unfold rootN
          rw [HR1.out, HQ1.out, if_pos H1T.out, if_neg h2]
        have hO : okN i a = true := by
          unfold okN
          rw [HR1.out, HQ1.out]
          exact decide_eq_true H1T.out
        have HRT := Lib.hid (And.intro hR hO)
        obtain ⟨⟨s0, s1, s2, s3⟩, _⟩ := fourV ro7
        obtain ⟨⟨d0, d1, d2, d3⟩, e0, e1, e2, e3⟩ := fourV rr7
        have KL := Lib.hid (load_el (isA_set (n := r1) rr7))
        have BR := Lib.hid (b_set4 rb7 (v0 := .int .u64 (wd r1 0 : Int)) (v1 := .int .u64 (wd r1 1 : Int)) (v2 := .int .u64 (wd r1 2 : Int)) (v3 := .int .u64 (wd r1 3 : Int)) (b := w.heap.size + 1) (by omega))
        clear h2 hR hO ro7 rr7 rb7
        go_wp2_with fail
        exact bodyPost_ret (results_arr_tmp Try.results46 (by rfl) (by rfl) KL.out) rfl ⟨by rw [HRT.out.1, HRT.out.2]; rfl, BR.out⟩
    · rw [decide_eq_false h1]
      have hR : rootN i a = 0 := by
        unfold rootN
        rw [HR1.out, HQ1.out, if_neg h1]
      have hO : okN i a = false := by
        unfold okN
        rw [HR1.out, HQ1.out]
        exact decide_eq_false h1
      have HRT := Lib.hid (And.intro hR hO)
      obtain ⟨⟨d0, d1, d2, d3⟩, e0, e1, e2, e3⟩ := fourV rr6
      have KL := Lib.hid (load_el (isA_zero (set4_row (v0 := .int .u64 0) (v1 := .int .u64 0) (v2 := .int .u64 0) (v3 := .int .u64 0) rr6)))
      have BR := Lib.hid (b_set4 rb6 (v0 := .int .u64 0) (v1 := .int .u64 0) (v2 := .int .u64 0) (v3 := .int .u64 0) (b := w.heap.size + 1) (by omega))
      clear h1 hR hO ro6 ra6 rr6 rb6 RO RA RR RB
      go_wp2_with fail
      exact bodyPost_ret (results_arr_tmp Try.results46 (by rfl) (by rfl) KL.out) rfl ⟨by rw [HRT.out.1, HRT.out.2]; rfl, BR.out⟩

  · rw [decide_eq_false h0]
    have hr1 := H1.out
    rw [if_neg h0] at hr1
    have KR := Lib.hid (KMM.out r0 i HLT.out.2.1 HLT.out.2.2.2)
    rw [← hr1] at KR
    obtain ⟨⟨p0, p1, p2, p3⟩, g0, g1, g2, g3⟩ := fourV ro3
    have RO := Lib.hid ro3
    have RA := Lib.hid ra3
    have RR := Lib.hid rr3
    have RB := Lib.hid rb3
    clear ro3 ra3 rr3 rb3 h0 H1 hr1
    go_wp2_with fail
    go_cut [] (fun wc => IsA wc go r1 28 ∧ IsA wc w.heap.size a 28 ∧ IsA wc (w.heap.size + 1) 0 28 ∧ Below w.heap.size w wc ∧ go < wc.heap.size)
    case first =>
      go_region_law (first
        | (go_simp; go_at_call 33; go_must (refine (KS.out _).mono ?_); rintro e w4 ⟨rfl, hb4⟩
           have ro4 := isA_calls hb4 RO.out.drew (Nat.le_refl _)
           obtain ⟨⟨k0, k1, k2, k3⟩, f0, f1, f2, f3⟩ := fourV ro4)
        | (go_simp; go_at_call 69; go_must (refine (KI.out _).mono ?_); rintro e w5 ⟨rfl, hb5⟩
           have ro5 := isA_calls hb5 ro4 (Nat.le_refl _)
           obtain ⟨⟨m0, m1, m2, m3⟩, h0, h1, h2, h3⟩ := fourV ro5)
        | (go_simp; go_at_call 32; (refine (KR.out _ _ ?_).mono ?_); (focus ((first | exact alloc_new _ _ | exact drew_keep (alloc_new _ _)); done)); rintro e w6 ⟨rfl, hb6⟩
           have ro6 := isA_calls hb6 (ro5.alloc _) (Nat.le_refl _)
           obtain ⟨⟨n0, n1, n2, n3⟩, o0, o1, o2, o3⟩ := fourV ro6))
      all_goals
        have hz4 : w3.heap.size ≤ w4.heap.size := hb4.size
        have hz5 := hb5.size
        have hz6 : w5.heap.size + 1 ≤ w6.heap.size := by have := hb6.size; rw [alloc_size1] at this; exact this
        have RO' := Lib.hid (isA_set (n := r1) ro6)
        have RA' := Lib.hid ((isA_calls hb6 ((isA_calls hb5 (isA_calls hb4 RA.out.drew (Nat.le_refl _)) (Nat.le_refl _)).alloc _) (Nat.le_refl _)).far (c := go) (v0 := .int .u64 (wd r1 0 : Int)) (v1 := .int .u64 (wd r1 1 : Int)) (v2 := .int .u64 (wd r1 2 : Int)) (v3 := .int .u64 (wd r1 3 : Int)) (by omega))
        have RR' := Lib.hid ((isA_calls hb6 ((isA_calls hb5 (isA_calls hb4 RR.out.drew (Nat.le_refl _)) (Nat.le_refl _)).alloc _) (Nat.le_refl _)).far (c := go) (v0 := .int .u64 (wd r1 0 : Int)) (v1 := .int .u64 (wd r1 1 : Int)) (v2 := .int .u64 (wd r1 2 : Int)) (v3 := .int .u64 (wd r1 3 : Int)) (by omega))
        have RB' := Lib.hid (b_set4 (b_calls hb6 (b_alloc (b_calls hb5 (b_calls hb4 (b_drew RB.out) (by rw [World.size_drew]; omega)) (by omega)) _) (by rw [alloc_size1]; omega)) (v0 := .int .u64 (wd r1 0 : Int)) (v1 := .int .u64 (wd r1 1 : Int)) (v2 := .int .u64 (wd r1 2 : Int)) (v3 := .int .u64 (wd r1 3 : Int)) (b := go) (by omega))
        have hU : go < ((((w6.setCell ⟨go, 0, none⟩ (.int .u64 (wd r1 0 : Int))).setCell ⟨go, 1, none⟩ (.int .u64 (wd r1 1 : Int))).setCell ⟨go, 2, none⟩ (.int .u64 (wd r1 2 : Int))).setCell ⟨go, 3, none⟩ (.int .u64 (wd r1 3 : Int))).heap.size := by simp only [set_size]; omega
        go_wp2_with fail
        go_meet
        case rel => exact ⟨RO'.out, RA'.out, RR'.out, RB'.out, hU⟩
    case rest =>
      clear RO RA RR RB p0 p1 p2 p3 g0 g1 g2 g3 KS KI KR
      obtain ⟨ro, ra, rr, rb, hU⟩ := hcut
      have RO := Lib.hid ro
      have RA := Lib.hid ra
      have RR := Lib.hid rr
      have RB := Lib.hid rb
      clear ro ra rr rb
      go_wp2_with fail
      generalize wc = U at *

      have HQR := Lib.hid (show r1 * r1 % PN = r1 * r1 % PN from rfl)
      have hq1 : r1 * r1 % PN < PN := Nat.mod_lt _ PN_pos
      have KQ1 := Lib.hid (KMM.out r1 r1 HLT.out.2.2.1 HLT.out.2.2.1)
      obtain ⟨q1, hq1'⟩ : ∃ q1, r1 * r1 % PN = q1 := ⟨_, rfl⟩
      have HQ1 := Lib.hid hq1'
      rw [hq1'] at KQ1 hq1
      have kq := fun w => eql_el q1 a w (of_PN hq1) (of_PN HLT.out.1)
      have hC : C8 U go r1 w.heap.size a := C8.of (cells4 RO.out) (cells4 RA.out)
      have hCd : C8 U.drew go r1 w.heap.size a := hC
      clear hq1 hq1'
      go_region_held3 (fun w' => w'.cell? ⟨go, 0, none⟩ = some (.int .u64 (wd r1 0 : Int)) ∧ w'.cell? ⟨go, 1, none⟩ = some (.int .u64 (wd r1 1 : Int)) ∧ w'.cell? ⟨go, 2, none⟩ = some (.int .u64 (wd r1 2 : Int)) ∧ w'.cell? ⟨go, 3, none⟩ = some (.int .u64 (wd r1 3 : Int)) ∧ w'.cell? ⟨w.heap.size, 0, none⟩ = some (.int .u64 (wd a 0 : Int)) ∧ w'.cell? ⟨w.heap.size, 1, none⟩ = some (.int .u64 (wd a 1 : Int)) ∧ w'.cell? ⟨w.heap.size, 2, none⟩ = some (.int .u64 (wd a 2 : Int)) ∧ w'.cell? ⟨w.heap.size, 3, none⟩ = some (.int .u64 (wd a 3 : Int))) (first | (with_reducible exact hCd) | (focus ((repeat (first | (with_reducible assumption) | (with_reducible apply C8.alloc) | (with_reducible apply C8.drew) | (with_reducible apply C8.calls) | exact Nat.le_refl _ | omega | (simp; done))); done))) (first
        | (go_at_call 32; (refine (KQ1.out _ _ ?_).mono ?_); (focus ((first | exact alloc_new _ _ | exact drew_keep (alloc_new _ _)); done)); rintro e w6 ⟨rfl, hb6⟩))
      rename_i hH
      clear hH hC hCd
      have hs6 : U.heap.size + 1 ≤ w6.heap.size := by have := hb6.size; rw [World.size_drew, alloc_size1] at this; exact this
      have ro6 := isA_calls hb6 (RO.out.alloc _).drew (Nat.le_refl _)
      have ra6 := isA_calls hb6 (RA.out.alloc _).drew (Nat.le_refl _)
      have rr6 := isA_zero' (isA_calls hb6 (RR.out.alloc _).drew (Nat.le_refl _))
      have rb6 := b_calls hb6 (b_drew (b_alloc RB.out _)) (by rw [World.size_drew, alloc_size1]; omega)
      clear hb6 kq
      by_cases h1 : q1 = a
      · rw [decide_eq_true h1]
        have KO := Lib.hid (fun w => podd_any r1 w)
        have KN := Lib.hid (fun w => pneg_any r1 w HLT.out.2.2.1)
        simp only [numV_agg] at KO KN
        obtain ⟨⟨s0, s1, s2, s3⟩, _⟩ := fourV ro6
        have RO6 := Lib.hid ro6
        have RR6 := Lib.hid rr6
        have RB6 := Lib.hid rb6
        have H1T := Lib.hid h1
        clear ro6 ra6 rr6 rb6 h1 RO RA RR RB
        go_wp2_with fail
        refine (KO.out _).mono ?_
        rintro e w7 ⟨rfl, hb7⟩
        have hs7 := hb7.size
        have ro7 := RO6.out.keep hb7
        have rr7 := keep RR6.out hb7
        have rb7 := b_calls hb7 RB6.out (by omega)
        clear RO6 RR6 RB6 hb7 s0 s1 s2 s3
        by_cases h2 : r1 % 2 = 1
        · rw [decide_eq_true h2]
          have hR : rootN i a = (0 + PN - r1) % PN := by
            unfold rootN
            rw [HR1.out, HQ1.out, if_pos H1T.out, if_pos h2]
          have hO : okN i a = true := by
            unfold okN
            rw [HR1.out, HQ1.out]
            exact decide_eq_true H1T.out
          obtain ⟨R, hRR⟩ : ∃ R, (0 + PN - r1) % PN = R := ⟨_, rfl⟩
          rw [hRR] at KN hR
          have HRT := Lib.hid (And.intro hR hO)
          obtain ⟨⟨s0, s1, s2, s3⟩, _⟩ := fourV ro7
          have RO7 := Lib.hid ro7
          have RR7 := Lib.hid rr7
          have RB7 := Lib.hid rb7
          clear h2 hR hO hRR ro7 rr7 rb7
          go_wp2_with fail
          refine (KN.out _).mono ?_
          rintro e w8 ⟨rfl, hb8⟩
          have hs8 := hb8.size
          have ro8 := RO7.out.keep hb8
          have rr8 := keep RR7.out hb8
          obtain ⟨⟨d0, d1, d2, d3⟩, e0, e1, e2, e3⟩ := fourV ro8
          obtain ⟨⟨c0, c1, c2, c3⟩, f0, f1, f2, f3⟩ := fourV rr8
          have hne1 : go ≠ w.heap.size + 1 := by omega
          have hne2 : w.heap.size + 1 ≠ go := by omega
          have KL := Lib.hid (load_el (isA_set (n := R) (far_keep (b := go) (v0 := .int .u64 (wd R 0 : Int)) (v1 := .int .u64 (wd R 1 : Int)) (v2 := .int .u64 (wd R 2 : Int)) (v3 := .int .u64 (wd R 3 : Int)) rr8 hne2)))
          have BR := Lib.hid (b_set4 (b_set4 (b_calls hb8 RB7.out (by omega)) (v0 := .int .u64 (wd R 0 : Int)) (v1 := .int .u64 (wd R 1 : Int)) (v2 := .int .u64 (wd R 2 : Int)) (v3 := .int .u64 (wd R 3 : Int)) (b := go) (by omega)) (v0 := .int .u64 (wd R 0 : Int)) (v1 := .int .u64 (wd R 1 : Int)) (v2 := .int .u64 (wd R 2 : Int)) (v3 := .int .u64 (wd R 3 : Int)) (b := w.heap.size + 1) (by omega))
          clear RO7 RR7 RB7 hb8 ro8 rr8 s0 s1 s2 s3
          go_wp2_with fail
          exact bodyPost_ret (results_arr_tmp Try.results46 (by rfl) (by rfl) KL.out) rfl ⟨by rw [HRT.out.1, HRT.out.2]; rfl, BR.out⟩
        · rw [decide_eq_false h2]
          have hR : rootN i a = r1 := by
            unfold rootN
            rw [HR1.out, HQ1.out, if_pos H1T.out, if_neg h2]
          have hO : okN i a = true := by
            unfold okN
            rw [HR1.out, HQ1.out]
            exact decide_eq_true H1T.out
          have HRT := Lib.hid (And.intro hR hO)
          obtain ⟨⟨s0, s1, s2, s3⟩, _⟩ := fourV ro7
          obtain ⟨⟨d0, d1, d2, d3⟩, e0, e1, e2, e3⟩ := fourV rr7
          have KL := Lib.hid (load_el (isA_set (n := r1) rr7))
          have BR := Lib.hid (b_set4 rb7 (v0 := .int .u64 (wd r1 0 : Int)) (v1 := .int .u64 (wd r1 1 : Int)) (v2 := .int .u64 (wd r1 2 : Int)) (v3 := .int .u64 (wd r1 3 : Int)) (b := w.heap.size + 1) (by omega))
          clear h2 hR hO ro7 rr7 rb7
          go_wp2_with fail
          exact bodyPost_ret (results_arr_tmp Try.results46 (by rfl) (by rfl) KL.out) rfl ⟨by rw [HRT.out.1, HRT.out.2]; rfl, BR.out⟩
      · rw [decide_eq_false h1]
        have hR : rootN i a = 0 := by
          unfold rootN
          rw [HR1.out, HQ1.out, if_neg h1]
        have hO : okN i a = false := by
          unfold okN
          rw [HR1.out, HQ1.out]
          exact decide_eq_false h1
        have HRT := Lib.hid (And.intro hR hO)
        obtain ⟨⟨d0, d1, d2, d3⟩, e0, e1, e2, e3⟩ := fourV rr6
        have KL := Lib.hid (load_el (isA_zero (set4_row (v0 := .int .u64 0) (v1 := .int .u64 0) (v2 := .int .u64 0) (v3 := .int .u64 0) rr6)))
        have BR := Lib.hid (b_set4 rb6 (v0 := .int .u64 0) (v1 := .int .u64 0) (v2 := .int .u64 0) (v3 := .int .u64 0) (b := w.heap.size + 1) (by omega))
        clear h1 hR hO ro6 ra6 rr6 rb6 RO RA RR RB
        go_wp2_with fail
        exact bodyPost_ret (results_arr_tmp Try.results46 (by rfl) (by rfl) KL.out) rfl ⟨by rw [HRT.out.1, HRT.out.2]; rfl, BR.out⟩
end Go.Proofs.Ythdbadomppohbaa
