/- The document's examples of layer 19. -/
import Derived.Test.YtmpbndhlnnfbfaaPriJ
namespace Go.Proofs.Ytmpbndhlnnfbfaa
open Go.RowKit
theorem b_callsS {w W W' : World} {N : Nat} (hb : Below N W W') (h : Below w.heap.size w W) (hN : W.heap.size ≤ N) : Below w.heap.size w W' := h.trans (hb.mono (Nat.le_trans h.size hN))
def iV : Nat := 19681161376707505956807079304988542015446066515923890162744021073123829784752
theorem pow_is (g k c : Nat) (hk : k < 2 ^ 256) (h : pm PN 256 k g 1 % PN = c) : g ^ k % PN = c := by
  rw [pm_eq PN 256 k g 1 hk, Nat.one_mul] at h
  exact h
theorem p3_lt : P3 < 2 ^ 256 := by decide +kernel
theorem p4_lt : P4 < 2 ^ 256 := by decide +kernel
theorem p2_lt : P2 < 2 ^ 256 := by decide +kernel
theorem ppow_pm (g k c : Nat) (w : World) (hg : g < PN) (hk : k < B64 ^ 4) (hk2 : k < 2 ^ 256) (h : pm PN 256 k g 1 % PN = c) : Calls Try.prog 29 #[numV g, numV k] w fun e w' => e = .returned (numV c) ∧ Below w.heap.size w w' := by
  have h1 := ppow_any g k w hg hk
  rw [pow_is g k c hk2 h] at h1
  exact h1
theorem pinv_pm (a c : Nat) (w : World) (ha : a < PN) (h : pm PN 256 P2 a 1 % PN = c) : Calls Try.prog 28 #[numV a] w fun e w' => e = .returned (numV c) ∧ Below w.heap.size w w' := by
  have h1 := pinv_any a w ha
  rw [show a ^ (PN - 2) % PN = a ^ P2 % PN from rfl, pow_is a P2 c p2_lt h] at h1
  exact h1
theorem r0N_pm (a c : Nat) (h : pm PN 256 P3 a 1 % PN = c) : r0N a = c := by
  unfold r0N
  exact pow_is a P3 c p3_lt h
theorem iV_lt : iV < PN := by decide +kernel
theorem iV_is : ∀ w, Calls Try.prog 29 #[numV 2, numV P4] w fun e w' => e = .returned (numV iV) ∧ Below w.heap.size w w' := fun w => ppow_pm 2 P4 iV w (by decide +kernel) P4_B p4_lt (by decide +kernel)
/-- A root, by numbers. -/
def rootC (i a r : Nat) : Nat × Bool := if (if r * r % PN = a then r else r * i % PN) * (if r * r % PN = a then r else r * i % PN) % PN = a then (if (if r * r % PN = a then r else r * i % PN) % 2 = 1 then (0 + PN - (if r * r % PN = a then r else r * i % PN)) % PN else (if r * r % PN = a then r else r * i % PN), true) else (0, false)
theorem rootC_is (i a r : Nat) (h : r0N a = r) : rootN i a = (rootC i a r).1 ∧ okN i a = (rootC i a r).2 := by
  unfold rootN okN r1N rootC
  rw [h]
  generalize (if r * r % PN = a then r else r * i % PN) = q
  by_cases hq : q * q % PN = a
  · rw [if_pos hq, if_pos hq, decide_eq_true hq]
    exact ⟨rfl, rfl⟩
  · rw [if_neg hq, if_neg hq, decide_eq_false hq]
    exact ⟨rfl, rfl⟩
theorem proot_pm (a r : Nat) (z : Nat) (b : Bool) (w : World) (ha : a < PN) (h : pm PN 256 P3 a 1 % PN = r) (hz : rootC iV a r = (z, b)) : Calls Try.prog 26 #[numV a] w fun e w' => e = .returned (.tuple #[numV z, .bool b]) ∧ Below w.heap.size w w' := by
  have h1 := proot_any iV iV_lt iV_is a w ha
  obtain ⟨e1, e2⟩ := rootC_is iV a r (r0N_pm a r h)
  rw [e1, e2, hz] at h1
  exact h1
theorem root4_any (w : World) : Calls Try.prog 26 #[numV 4] w fun e w' => e = .returned (.tuple #[numV 2, .bool true]) ∧ Below w.heap.size w w' :=
  proot_pm 4 39362322753415011913614158609977084030892133031847780325488042146247659569504 2 true w (by decide +kernel) (by decide +kernel) (by decide +kernel)
theorem root2_any (w : World) : Calls Try.prog 26 #[numV 2] w fun e w' => e = .returned (.tuple #[numV 0, .bool false]) ∧ Below w.heap.size w w' :=
  proot_pm 2 19681161376707505956807079304988542015446066515923890162744021073123829784753 0 false w (by decide +kernel) (by decide +kernel) (by decide +kernel)
theorem inv2_any (w : World) : Calls Try.prog 28 #[numV 2] w fun e w' => e = .returned (numV 28948022309329048855892746252171976963317496166410141009864396001978282409975) ∧ Below w.heap.size w w' :=
  pinv_pm 2 28948022309329048855892746252171976963317496166410141009864396001978282409975 w (by decide +kernel) (by decide +kernel)
theorem most_is : subN PN 1 = PN - 1 ∧ (0 + PN - 1) % PN = PN - 1 ∧ 28948022309329048855892746252171976963317496166410141009864396001978282409975 * 2 % PN = 1 := by decide +kernel
set_option maxRecDepth 20000 in
set_option maxHeartbeats 40000000 in
theorem lives19 (w : World) : Calls Try.prog 16 #[] w fun e w' => e = .returned (.bool true) ∧ Below w.heap.size w w' := by
  obtain ⟨z, hz0⟩ : ∃ z, z = 0 := ⟨0, rfl⟩
  have KR2 : Hid (∀ w, Calls Try.prog 26 #[numV 2] w fun e w' => e = .returned (.tuple #[numV z, .bool false]) ∧ Below w.heap.size w w') := fun w => by rw [hz0]; exact root2_any w
  have KR4 := Lib.hid root4_any
  have KI := Lib.hid inv2_any
  have KS (n : Nat) (hn : n < 18446744073709551616) := fun w => psmall_any n w hn
  have S4 := Lib.hid (KS 4 (by decide))
  have S2 := Lib.hid (KS 2 (by decide))
  have S0 := Lib.hid (KS 0 (by decide))
  have S1 := Lib.hid (KS 1 (by decide))
  have W1 := Lib.hid (fun w => small_any 1 w (by decide))
  have KP := Lib.hid p_any
  have KSub := Lib.hid (fun w => sub_any PN 1 w PN_B (by decide +kernel))
  rw [most_is.1] at KSub
  have KPS := Lib.hid (fun w => psub_any 0 1 w PN_pos (by decide +kernel))
  rw [most_is.2.1] at KPS
  have KN := Lib.hid (fun w => pnum_any (PN - 1) w)
  have KM := Lib.hid (fun b W h => mul_two 28948022309329048855892746252171976963317496166410141009864396001978282409975 2 (by decide +kernel) (by decide +kernel) b W h)
  rw [most_is.2.2] at KM
  have e1 := fun w => eql_nu (PN - 1) (PN - 1) w (by decide +kernel) (by decide +kernel)
  obtain ⟨x4, hx4⟩ : ∃ x4, x4 = 4 := ⟨4, rfl⟩
  obtain ⟨x2, hx2⟩ : ∃ x2, x2 = 2 := ⟨2, rfl⟩
  obtain ⟨x1, hx1⟩ : ∃ x1, x1 = 1 := ⟨1, rfl⟩
  have e2 := fun w => eql_el x2 x2 w (by rw [hx2]; decide +kernel) (by rw [hx2]; decide +kernel)
  have e3 := fun w => eql_el x1 x1 w (by rw [hx1]; decide +kernel) (by rw [hx1]; decide +kernel)
  obtain ⟨x0, hx0⟩ : ∃ x0, x0 = 0 := ⟨0, rfl⟩
  obtain ⟨h2, hh2⟩ : ∃ h2, h2 = 28948022309329048855892746252171976963317496166410141009864396001978282409975 := ⟨_, rfl⟩
  obtain ⟨M, hM⟩ : ∃ M, PN - 1 = M := ⟨_, rfl⟩
  have S4 : Hid (∀ w, Calls Try.prog 32 #[.int .u64 4] w fun e w' => e = .returned (numV x4) ∧ Below w.heap.size w w') := fun w => by rw [hx4]; exact S4.out w
  have S2 : Hid (∀ w, Calls Try.prog 32 #[.int .u64 2] w fun e w' => e = .returned (numV x2) ∧ Below w.heap.size w w') := fun w => by rw [hx2]; exact S2.out w
  have S1 : Hid (∀ w, Calls Try.prog 32 #[.int .u64 1] w fun e w' => e = .returned (numV x1) ∧ Below w.heap.size w w') := fun w => by rw [hx1]; exact S1.out w
  have S0 : Hid (∀ w, Calls Try.prog 32 #[.int .u64 0] w fun e w' => e = .returned (numV x0) ∧ Below w.heap.size w w') := fun w => by rw [hx0]; exact S0.out w
  have W1 : Hid (∀ w, Calls Try.prog 42 #[.int .u64 1] w fun e w' => e = .returned (numV x1) ∧ Below w.heap.size w w') := fun w => by rw [hx1]; exact W1.out w
  rw [← hx4] at KR4
  rw [← hx2] at KR4 KR2 KI
  rw [← hh2] at KI
  have KM : Hid (∀ (b : Nat) (W : World), W.heap[b]? = some (.cells #[.int .u64 (wd h2 0 : Int), .int .u64 (wd h2 1 : Int), .int .u64 (wd h2 2 : Int), .int .u64 (wd h2 3 : Int), .int .u64 (wd x2 0 : Int), .int .u64 (wd x2 1 : Int), .int .u64 (wd x2 2 : Int), .int .u64 (wd x2 3 : Int)] 27 (0, 0)) → Calls Try.prog 22 #[.slice (some ⟨b, 0, none⟩) 2 2] W fun e w' => e = .returned (numV x1) ∧ Below W.heap.size W w') := fun b W h => by
    rw [hh2, hx2] at h
    rw [hx1]
    exact KM.out b W h
  rw [hM] at KSub KPS KN e1
  rw [← hx1] at KSub
  have KPS : Hid (∀ w, Calls Try.prog 19 #[numV x0, numV x1] w fun e w' => e = .returned (numV M) ∧ Below w.heap.size w w') := fun w => by rw [hx0, hx1]; exact KPS.out w
  obtain ⟨p, hp⟩ : ∃ p, PN = p := ⟨_, rfl⟩
  rw [hp] at KP KSub
  obtain ⟨kk, hkk⟩ : ∃ kk, subK p x1 = kk := ⟨_, rfl⟩
  rw [hkk] at KSub
  simp only [decide_true] at e1 e2 e3
  clear KS hz0 hx4 hx2 hx1 hx0 hh2 hM hp hkk
  simp only [numV_agg] at KR2 KR4 KI S4 S2 S0 S1 W1 KP KSub KPS KN KM
  go_enter Try.func16, Try.ntmps16
  go_wp2_with fail
  refine (S4.out _).mono ?_
  rintro e w1 ⟨rfl, hb1⟩
  go_wp2_with fail
  refine (KR4.out _).mono ?_
  rintro e w2 ⟨rfl, hb2⟩
  have B2 := Lib.hid (b_alloc (hb1.trans (hb2.mono hb1.size)) (.cells #[.int .u64 (wd x2 0 : Int), .int .u64 (wd x2 1 : Int), .int .u64 (wd x2 2 : Int), .int .u64 (wd x2 3 : Int)] 27))
  have N2 : Hid (IsA (w2.alloc (.cells #[.int .u64 (wd x2 0 : Int), .int .u64 (wd x2 1 : Int), .int .u64 (wd x2 2 : Int), .int .u64 (wd x2 3 : Int)] 27)) w2.heap.size x2 27) := (alloc_new w2 _ :)
  clear hb1 hb2
  go_wp2_with fail
  generalize w2.alloc (.cells #[.int .u64 (wd x2 0 : Int), .int .u64 (wd x2 1 : Int), .int .u64 (wd x2 2 : Int), .int .u64 (wd x2 3 : Int)] 27) = V2 at *
  generalize w2.heap.size = b1 at *
  refine (S2.out _).mono ?_
  rintro e w3 ⟨rfl, hb3⟩
  go_wp2_with fail
  refine (KR2.out _).mono ?_
  rintro e w4 ⟨rfl, hb4⟩
  have B4 := Lib.hid (b_alloc (b_calls hb4 (b_calls hb3 B2.out B2.out.size) (Nat.le_trans B2.out.size hb3.size)) (.cells #[.int .u64 (wd z 0 : Int), .int .u64 (wd z 1 : Int), .int .u64 (wd z 2 : Int), .int .u64 (wd z 3 : Int)] 27))
  have N4 := Lib.hid ((isA_calls hb4 (isA_calls hb3 N2.out (Nat.le_refl _)) (Nat.le_refl _)).alloc (.cells #[.int .u64 (wd z 0 : Int), .int .u64 (wd z 1 : Int), .int .u64 (wd z 2 : Int), .int .u64 (wd z 3 : Int)] 27))
  clear hb3 hb4 B2 N2
  go_wp2_with fail
  generalize w4.alloc (.cells #[.int .u64 (wd z 0 : Int), .int .u64 (wd z 1 : Int), .int .u64 (wd z 2 : Int), .int .u64 (wd z 3 : Int)] 27) = V4 at *
  refine (KP.out _).mono ?_
  rintro e w5 ⟨rfl, hb5⟩
  go_wp2_with fail
  refine (W1.out _).mono ?_
  rintro e w6 ⟨rfl, hb6⟩
  go_wp2_with fail
  refine (KSub.out _).mono ?_
  rintro e w7 ⟨rfl, hb7⟩
  have B7 := Lib.hid (b_alloc (b_calls hb7 (b_calls hb6 (b_calls hb5 B4.out B4.out.size) (Nat.le_trans B4.out.size hb5.size)) (Nat.le_trans (Nat.le_trans B4.out.size hb5.size) hb6.size)) (.cells #[.int .u64 (wd M 0 : Int), .int .u64 (wd M 1 : Int), .int .u64 (wd M 2 : Int), .int .u64 (wd M 3 : Int)] 25))
  have N7 := Lib.hid ((isA_calls hb7 (isA_calls hb6 (isA_calls hb5 N4.out (Nat.le_refl _)) (Nat.le_refl _)) (Nat.le_refl _)).alloc (.cells #[.int .u64 (wd M 0 : Int), .int .u64 (wd M 1 : Int), .int .u64 (wd M 2 : Int), .int .u64 (wd M 3 : Int)] 25))
  have M7 : Hid (IsA (w7.alloc (.cells #[.int .u64 (wd M 0 : Int), .int .u64 (wd M 1 : Int), .int .u64 (wd M 2 : Int), .int .u64 (wd M 3 : Int)] 25)) w7.heap.size M 25) := (alloc_new w7 _ :)
  clear hb5 hb6 hb7 B4 N4
  go_wp2_with fail
  generalize w7.alloc (.cells #[.int .u64 (wd M 0 : Int), .int .u64 (wd M 1 : Int), .int .u64 (wd M 2 : Int), .int .u64 (wd M 3 : Int)] 25) = V7 at *
  generalize w7.heap.size = b5 at *
  have hC : C8 V7 b5 M b1 x2 := C8.of (cells4 M7.out) (cells4 N7.out)
  have hCd : C8 V7.drew b5 M b1 x2 := hC
  have B7d : Below w.heap.size w V7 := B7.out
  clear N7 M7 B7
  go_region_held3 (fun w' => w'.cell? ⟨b5, 0, none⟩ = some (.int .u64 (wd M 0 : Int)) ∧ w'.cell? ⟨b5, 1, none⟩ = some (.int .u64 (wd M 1 : Int)) ∧ w'.cell? ⟨b5, 2, none⟩ = some (.int .u64 (wd M 2 : Int)) ∧ w'.cell? ⟨b5, 3, none⟩ = some (.int .u64 (wd M 3 : Int)) ∧ w'.cell? ⟨b1, 0, none⟩ = some (.int .u64 (wd x2 0 : Int)) ∧ w'.cell? ⟨b1, 1, none⟩ = some (.int .u64 (wd x2 1 : Int)) ∧ w'.cell? ⟨b1, 2, none⟩ = some (.int .u64 (wd x2 2 : Int)) ∧ w'.cell? ⟨b1, 3, none⟩ = some (.int .u64 (wd x2 3 : Int))) (first | (with_reducible exact hCd) | (focus ((repeat (first | (with_reducible assumption) | (with_reducible apply C8.alloc) | (with_reducible apply C8.drew) | (with_reducible apply C8.calls) | exact Nat.le_refl _ | omega | (simp; done))); done))) (first
    | (go_at_call_of 32 (Value.int .u64 0); go_must (refine (S0.out _).mono ?_); rintro e w8 ⟨rfl, hb8⟩)
    | (go_at_call_of 32 (Value.int .u64 1); go_must (refine (S1.out _).mono ?_); rintro e w9 ⟨rfl, hb9⟩)
    | (go_at_call_of 32 (Value.int .u64 2); go_must (refine (S2.out _).mono ?_); rintro e w10 ⟨rfl, hb10⟩)
    | (go_at_call 19; go_must (refine (KPS.out _).mono ?_); rintro e w11 ⟨rfl, hb11⟩)
    | (go_at_call 17; go_must (refine (KN.out _).mono ?_); rintro e w12 ⟨rfl, hb12⟩)
    | (go_at_call 28; go_must (refine (KI.out _).mono ?_); rintro e w13 ⟨rfl, hb13⟩)
    | (go_at_call 22; (refine (KM.out _ _ ?_).mono ?_); (focus ((repeat (first | (with_reducible exact alloc_new _ _) | (with_reducible apply alloc_keep) | (with_reducible apply drew_keep) | (with_reducible refine keep ?_ hb8) | (with_reducible refine keep ?_ hb9) | (with_reducible refine keep ?_ hb10) | (with_reducible assumption))); done)); rintro e w14 ⟨rfl, hb14⟩))
  all_goals
    go_wp2_with fail
    go_ret
    refine ⟨rfl, ?_⟩
    (focus ((repeat (first | (with_reducible assumption) | (with_reducible apply b_alloc) | (with_reducible apply b_drew) | (with_reducible apply b_callsS) | exact Nat.le_refl _ | omega | (simp; done))); done))
end Go.Proofs.Ytmpbndhlnnfbfaa
