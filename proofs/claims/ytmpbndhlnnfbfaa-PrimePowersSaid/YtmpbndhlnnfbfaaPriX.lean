/- The law of powers, inverses and roots (layer 19): its walk. -/
import Derived.Test.YtmpbndhlnnfbfaaPriV
import Derived.Test.YtmpbndhlnnfbfaaInv
namespace Go.Proofs.Ytmpbndhlnnfbfaa
open Go.RowKit
abbrev C20 (w : World) (b1 n1 b2 n2 b3 n3 b4 n4 b5 n5 : Nat) : Prop := w.cell? ⟨b1, 0, none⟩ = some (.int .u64 (wd n1 0 : Int)) ∧ w.cell? ⟨b1, 1, none⟩ = some (.int .u64 (wd n1 1 : Int)) ∧ w.cell? ⟨b1, 2, none⟩ = some (.int .u64 (wd n1 2 : Int)) ∧ w.cell? ⟨b1, 3, none⟩ = some (.int .u64 (wd n1 3 : Int)) ∧ w.cell? ⟨b2, 0, none⟩ = some (.int .u64 (wd n2 0 : Int)) ∧ w.cell? ⟨b2, 1, none⟩ = some (.int .u64 (wd n2 1 : Int)) ∧ w.cell? ⟨b2, 2, none⟩ = some (.int .u64 (wd n2 2 : Int)) ∧ w.cell? ⟨b2, 3, none⟩ = some (.int .u64 (wd n2 3 : Int)) ∧ w.cell? ⟨b3, 0, none⟩ = some (.int .u64 (wd n3 0 : Int)) ∧ w.cell? ⟨b3, 1, none⟩ = some (.int .u64 (wd n3 1 : Int)) ∧ w.cell? ⟨b3, 2, none⟩ = some (.int .u64 (wd n3 2 : Int)) ∧ w.cell? ⟨b3, 3, none⟩ = some (.int .u64 (wd n3 3 : Int)) ∧ w.cell? ⟨b4, 0, none⟩ = some (.int .u64 (wd n4 0 : Int)) ∧ w.cell? ⟨b4, 1, none⟩ = some (.int .u64 (wd n4 1 : Int)) ∧ w.cell? ⟨b4, 2, none⟩ = some (.int .u64 (wd n4 2 : Int)) ∧ w.cell? ⟨b4, 3, none⟩ = some (.int .u64 (wd n4 3 : Int)) ∧ w.cell? ⟨b5, 0, none⟩ = some (.int .u64 (wd n5 0 : Int)) ∧ w.cell? ⟨b5, 1, none⟩ = some (.int .u64 (wd n5 1 : Int)) ∧ w.cell? ⟨b5, 2, none⟩ = some (.int .u64 (wd n5 2 : Int)) ∧ w.cell? ⟨b5, 3, none⟩ = some (.int .u64 (wd n5 3 : Int))
theorem C20.map {w w' : World} {b1 n1 b2 n2 b3 n3 b4 n4 b5 n5 : Nat} (h : C20 w b1 n1 b2 n2 b3 n3 b4 n4 b5 n5) (f : ∀ {b j : Nat} {v : Value}, w.cell? ⟨b, j, none⟩ = some v → w'.cell? ⟨b, j, none⟩ = some v) : C20 w' b1 n1 b2 n2 b3 n3 b4 n4 b5 n5 := ⟨f h.1, f h.2.1, f h.2.2.1, f h.2.2.2.1, f h.2.2.2.2.1, f h.2.2.2.2.2.1, f h.2.2.2.2.2.2.1, f h.2.2.2.2.2.2.2.1, f h.2.2.2.2.2.2.2.2.1, f h.2.2.2.2.2.2.2.2.2.1, f h.2.2.2.2.2.2.2.2.2.2.1, f h.2.2.2.2.2.2.2.2.2.2.2.1, f h.2.2.2.2.2.2.2.2.2.2.2.2.1, f h.2.2.2.2.2.2.2.2.2.2.2.2.2.1, f h.2.2.2.2.2.2.2.2.2.2.2.2.2.2.1, f h.2.2.2.2.2.2.2.2.2.2.2.2.2.2.2.1, f h.2.2.2.2.2.2.2.2.2.2.2.2.2.2.2.2.1, f h.2.2.2.2.2.2.2.2.2.2.2.2.2.2.2.2.2.1, f h.2.2.2.2.2.2.2.2.2.2.2.2.2.2.2.2.2.2.1, f h.2.2.2.2.2.2.2.2.2.2.2.2.2.2.2.2.2.2.2⟩
theorem C20.calls {w w' : World} {b1 n1 b2 n2 b3 n3 b4 n4 b5 n5 N : Nat} (hb : Below N w w') (h : C20 w b1 n1 b2 n2 b3 n3 b4 n4 b5 n5) (hN : w.heap.size ≤ N) : C20 w' b1 n1 b2 n2 b3 n3 b4 n4 b5 n5 := h.map fun h => (hb.cell (Nat.lt_of_lt_of_le (cell_in h) hN)).trans h
theorem C20.alloc {w : World} {b1 n1 b2 n2 b3 n3 b4 n4 b5 n5 : Nat} (h : C20 w b1 n1 b2 n2 b3 n3 b4 n4 b5 n5) (o : Obj) : C20 (w.alloc o) b1 n1 b2 n2 b3 n3 b4 n4 b5 n5 := C20.calls ((Below.refl w.heap.size w).alloc (Nat.le_refl _) o) h (Nat.le_refl _)
theorem C20.drew {w : World} {b1 n1 b2 n2 b3 n3 b4 n4 b5 n5 : Nat} (h : C20 w b1 n1 b2 n2 b3 n3 b4 n4 b5 n5) : C20 w.drew b1 n1 b2 n2 b3 n3 b4 n4 b5 n5 := h
theorem C20.of {w : World} {b1 n1 b2 n2 b3 n3 b4 n4 b5 n5 : Nat} (h1 : C4 w b1 n1) (h2 : C4 w b2 n2) (h3 : C4 w b3 n3) (h4 : C4 w b4 n4) (h5 : C4 w b5 n5) : C20 w b1 n1 b2 n2 b3 n3 b4 n4 b5 n5 := ⟨h1.1, h1.2.1, h1.2.2.1, h1.2.2.2, h2.1, h2.2.1, h2.2.2.1, h2.2.2.2, h3.1, h3.2.1, h3.2.2.1, h3.2.2.2, h4.1, h4.2.1, h4.2.2.1, h4.2.2.2, h5.1, h5.2.1, h5.2.2.1, h5.2.2.2⟩
theorem eql_zero (a : Nat) (w : World) (ha : a < B64 ^ 4) : (Op.equalIn 10000 27 (.agg #[.int .u64 (wd a 0 : Int), .int .u64 (wd a 1 : Int), .int .u64 (wd a 2 : Int), .int .u64 (wd a 3 : Int)]) (.agg #[.int .u64 0, .int .u64 0, .int .u64 0, .int .u64 0])).run Try.prog w = .ok (decide (a = 0)) w := by
  have h := eql_el a 0 w ha (by decide)
  rw [show wd 0 0 = 0 by decide +kernel, show wd 0 1 = 0 by decide +kernel, show wd 0 2 = 0 by decide +kernel, show wd 0 3 = 0 by decide +kernel] at h
  exact h
set_option maxRecDepth 20000 in
set_option maxHeartbeats 16000000 in
/-- With the reference's Root as it is told (KRR), and what numbers say of it. -/
theorem primePowers_w (a k : Nat) (w : World) (ha : a < B64 ^ 4) (hk : k < B64 ^ 4) (X r I On q Ng : Nat) (ok : Bool) (hX : a % PN = X)
    (KRo : ∀ w, Calls Try.prog 26 #[numV X] w fun e w' => e = .returned (.tuple #[numV r, .bool ok]) ∧ Below w.heap.size w w')
    (KRR : ∀ w, Calls Try.prog 27 #[numV X] w fun e w' => e = .returned (.tuple #[numV r, .bool ok]) ∧ Below w.heap.size w w')
    (KRS : ∀ w, Calls Try.prog 26 #[numV (X * X % PN)] w fun e w' => e = .returned (.tuple #[numV q, .bool true]) ∧ Below w.heap.size w w')
    (hI : X ^ P2 % PN = I) (hr : r < PN) (hq : q < PN) (hOn : On = if X = 0 then 0 else 1) (hXI : X * I % PN = On) (hNg : (0 + PN - X) % PN = Ng) (hQ : q = X ∨ q = Ng)
    (hokr : ok = false ∨ (ok = true ∧ r * r % PN = X ∧ r % 2 = 0)) :
    Calls Try.prog 5 #[numV a, numV k] w fun e w' => e = .returned (.bool true) ∧ Below w.heap.size w w' := by
  have HMIX := Lib.hid (show Try.prog.follows .mixedOrders = true by kernel_rfl)
  have hXP : X < PN := by rw [← hX]; exact Nat.mod_lt _ PN_pos
  have hIP : I < PN := by rw [← hI]; exact powmod_lt X P2
  have hNP : Ng < PN := by rw [← hNg]; exact Nat.mod_lt _ PN_pos
  have hOP : On < PN := by
    have := PN_ge
    rw [hOn]
    split <;> omega
  have KMod := Lib.hid (fun w => rmod_any a w ha)
  have KEl := Lib.hid (fun w => el_any a w ha)
  rw [hX] at KMod KEl
  have KRo := Lib.hid KRo
  have KRR := Lib.hid KRR
  have KRS := Lib.hid KRS
  have KIn := Lib.hid (fun w => pinv_any X w hXP)
  rw [show X ^ (PN - 2) % PN = I from hI] at KIn
  have KRI := Lib.hid (fun w => rinv_any X w hXP)
  rw [hI] at KRI
  have hPk := powmod_lt X k
  have KPw := Lib.hid (fun w => ppow_any X k w hXP hk)
  have KRP := Lib.hid (fun w => rpow_any X k w hXP hk)
  obtain ⟨Pw, hPw⟩ : ∃ Pw, X ^ k % PN = Pw := ⟨_, rfl⟩
  rw [hPw] at KPw KRP hPk
  have KIsP := Lib.hid (fun w => is_any Pw Pw w (of_PN hPk) (of_PN hPk))
  have KIsI := Lib.hid (fun w => is_any I I w (of_PN hIP) (of_PN hIP))
  have KIsR := Lib.hid (fun w => is_any r r w (of_PN hr) (of_PN hr))
  have KMS := Lib.hid (mul_two X X hXP hXP)
  have KMI := Lib.hid (mul_two X I hXP hIP)
  rw [hXI] at KMI
  have KMR := Lib.hid (mul_two r r hr hr)
  have hrrP : r * r % PN < PN := Nat.mod_lt _ PN_pos
  obtain ⟨rr, hrr⟩ : ∃ rr, r * r % PN = rr := ⟨_, rfl⟩
  rw [hrr] at KMR hokr hrrP
  obtain ⟨SQ, hSQ⟩ : ∃ SQ, X * X % PN = SQ := ⟨_, rfl⟩
  rw [hSQ] at KMS KRS
  have KNg := Lib.hid (fun w => pneg_any X w hXP)
  rw [hNg] at KNg
  have KOd := Lib.hid (fun w => podd_any r w)
  have KLv := Lib.hid lives19
  have kOn := fun w => eql_el On On w (of_PN hOP) (of_PN hOP)
  have kq1 := fun w => eql_el q X w (of_PN hq) (of_PN hXP)
  have kq2 := fun w => eql_el q Ng w (of_PN hq) (of_PN hNP)
  have kr := fun w => eql_el rr X w (of_PN hrrP) (of_PN hXP)
  have kz := fun w => eql_zero X w (of_PN hXP)
  obtain ⟨c1, hc1⟩ : ∃ c1, c1 = 1 := ⟨1, rfl⟩
  have KS1 := Lib.hid (fun w => psmall_any 1 w (by decide))
  have KS1 : Hid (∀ w, Calls Try.prog 32 #[.int .u64 1] w fun e w' => e = .returned (numV c1) ∧ Below w.heap.size w w') := fun w => by rw [hc1]; exact KS1.out w
  have HOKR : Hid (ok = false ∨ (ok = true ∧ rr = X ∧ decide (r % 2 = 1) = false)) := by
    rcases hokr with h | ⟨h1, h2, h3⟩
    · exact .inl h
    · exact .inr ⟨h1, h2, decide_eq_false (by omega)⟩
  have HQ := Lib.hid hQ
  have HON : Hid (On = if X = 0 then 0 else c1) := by rw [hc1]; exact hOn
  simp only [decide_true] at KIsP KIsI KIsR kOn
  simp only [numV_agg] at KMod KEl KRo KRR KRS KIn KRI KPw KRP KIsP KIsI KIsR KMS KMI KMR KNg KOd KS1 ⊢
  clear hX hXP hIP hNP hOP hI hPk hPw hr hq hOn hXI hNg hQ hokr hrrP hrr hSQ hc1 ha hk
  obtain ⟨xa, xk, xz, xB⟩ := a2n_at a k 23 23 w
  obtain ⟨⟨p0, p1, p2, p3⟩, _⟩ := fourV xa
  go_enter Try.func5, Try.ntmps5
  go_wp2_with fail
  change Calls _ _ _ (A2n a k 23 23 w) _
  generalize A2n a k 23 23 w = V0 at *
  refine (KMod.out V0).mono ?_
  rintro e w1 ⟨rfl, hb1⟩
  have xa1 := (isA_calls hb1 xa (Nat.le_refl _)).alloc (.cells #[.int .u64 (wd X 0 : Int), .int .u64 (wd X 1 : Int), .int .u64 (wd X 2 : Int), .int .u64 (wd X 3 : Int)] 23)
  have K1 := Lib.hid ((isA_calls hb1 xk (Nat.le_refl _)).alloc (.cells #[.int .u64 (wd X 0 : Int), .int .u64 (wd X 1 : Int), .int .u64 (wd X 2 : Int), .int .u64 (wd X 3 : Int)] 23))
  have B1 := Lib.hid (b_alloc (b_callsS hb1 xB (Nat.le_refl _)) (.cells #[.int .u64 (wd X 0 : Int), .int .u64 (wd X 1 : Int), .int .u64 (wd X 2 : Int), .int .u64 (wd X 3 : Int)] 23))
  have H5 : Hid (IsA (w1.alloc (.cells #[.int .u64 (wd X 0 : Int), .int .u64 (wd X 1 : Int), .int .u64 (wd X 2 : Int), .int .u64 (wd X 3 : Int)] 23)) w1.heap.size X 23) := (alloc_new w1 _ :)
  clear xa xk xz xB hb1 p0 p1 p2 p3
  obtain ⟨⟨p0, p1, p2, p3⟩, _⟩ := fourV xa1
  clear xa1
  go_wp2_with fail
  generalize w1.alloc (.cells #[.int .u64 (wd X 0 : Int), .int .u64 (wd X 1 : Int), .int .u64 (wd X 2 : Int), .int .u64 (wd X 3 : Int)] 23) = V1 at *
  generalize w1.heap.size = b5 at *
  refine (KEl.out V1).mono ?_
  rintro e w2 ⟨rfl, hb2⟩
  have K2 := Lib.hid ((isA_calls hb2 K1.out (Nat.le_refl _)).alloc (.cells #[.int .u64 (wd X 0 : Int), .int .u64 (wd X 1 : Int), .int .u64 (wd X 2 : Int), .int .u64 (wd X 3 : Int)] 27))
  have B2 := Lib.hid (b_alloc (b_callsS hb2 B1.out (Nat.le_refl _)) (.cells #[.int .u64 (wd X 0 : Int), .int .u64 (wd X 1 : Int), .int .u64 (wd X 2 : Int), .int .u64 (wd X 3 : Int)] 27))
  have H5b := Lib.hid ((isA_calls hb2 H5.out (Nat.le_refl _)).alloc (.cells #[.int .u64 (wd X 0 : Int), .int .u64 (wd X 1 : Int), .int .u64 (wd X 2 : Int), .int .u64 (wd X 3 : Int)] 27))
  have h6 : IsA (w2.alloc (.cells #[.int .u64 (wd X 0 : Int), .int .u64 (wd X 1 : Int), .int .u64 (wd X 2 : Int), .int .u64 (wd X 3 : Int)] 27)) w2.heap.size X 27 := alloc_new w2 _
  clear K1 B1 H5 hb2 p0 p1 p2 p3
  obtain ⟨⟨p0, p1, p2, p3⟩, _⟩ := fourV h6
  have H6 := Lib.hid h6
  clear h6
  go_wp2_with fail
  generalize w2.alloc (.cells #[.int .u64 (wd X 0 : Int), .int .u64 (wd X 1 : Int), .int .u64 (wd X 2 : Int), .int .u64 (wd X 3 : Int)] 27) = V2 at *
  generalize w2.heap.size = b6 at *
  refine (KRo.out V2).mono ?_
  rintro e w3 ⟨rfl, hb3⟩
  have K3 := Lib.hid ((isA_calls hb3 K2.out (Nat.le_refl _)).alloc (.cells #[.int .u64 (wd r 0 : Int), .int .u64 (wd r 1 : Int), .int .u64 (wd r 2 : Int), .int .u64 (wd r 3 : Int)] 27))
  have B3 := Lib.hid (b_alloc (b_callsS hb3 B2.out (Nat.le_refl _)) (.cells #[.int .u64 (wd r 0 : Int), .int .u64 (wd r 1 : Int), .int .u64 (wd r 2 : Int), .int .u64 (wd r 3 : Int)] 27))
  have h5 := (isA_calls hb3 H5b.out (Nat.le_refl _)).alloc (.cells #[.int .u64 (wd r 0 : Int), .int .u64 (wd r 1 : Int), .int .u64 (wd r 2 : Int), .int .u64 (wd r 3 : Int)] 27)
  have H6b := Lib.hid ((isA_calls hb3 H6.out (Nat.le_refl _)).alloc (.cells #[.int .u64 (wd r 0 : Int), .int .u64 (wd r 1 : Int), .int .u64 (wd r 2 : Int), .int .u64 (wd r 3 : Int)] 27))
  have H7 : Hid (IsA (w3.alloc (.cells #[.int .u64 (wd r 0 : Int), .int .u64 (wd r 1 : Int), .int .u64 (wd r 2 : Int), .int .u64 (wd r 3 : Int)] 27)) w3.heap.size r 27) := (alloc_new w3 _ :)
  clear K2 B2 H5b H6 hb3 p0 p1 p2 p3
  obtain ⟨⟨p0, p1, p2, p3⟩, _⟩ := fourV h5
  have H5c := Lib.hid h5
  clear h5
  go_wp2_with fail
  generalize w3.alloc (.cells #[.int .u64 (wd r 0 : Int), .int .u64 (wd r 1 : Int), .int .u64 (wd r 2 : Int), .int .u64 (wd r 3 : Int)] 27) = V3 at *
  generalize w3.heap.size = b7 at *
  refine (KRR.out V3).mono ?_
  rintro e w4 ⟨rfl, hb4⟩
  have K4 := Lib.hid ((isA_calls hb4 K3.out (Nat.le_refl _)).alloc (.cells #[.int .u64 (wd r 0 : Int), .int .u64 (wd r 1 : Int), .int .u64 (wd r 2 : Int), .int .u64 (wd r 3 : Int)] 23))
  have B4 := Lib.hid (b_alloc (b_callsS hb4 B3.out (Nat.le_refl _)) (.cells #[.int .u64 (wd r 0 : Int), .int .u64 (wd r 1 : Int), .int .u64 (wd r 2 : Int), .int .u64 (wd r 3 : Int)] 23))
  have H5d := Lib.hid ((isA_calls hb4 H5c.out (Nat.le_refl _)).alloc (.cells #[.int .u64 (wd r 0 : Int), .int .u64 (wd r 1 : Int), .int .u64 (wd r 2 : Int), .int .u64 (wd r 3 : Int)] 23))
  have h6 := (isA_calls hb4 H6b.out (Nat.le_refl _)).alloc (.cells #[.int .u64 (wd r 0 : Int), .int .u64 (wd r 1 : Int), .int .u64 (wd r 2 : Int), .int .u64 (wd r 3 : Int)] 23)
  have H7b := Lib.hid ((isA_calls hb4 H7.out (Nat.le_refl _)).alloc (.cells #[.int .u64 (wd r 0 : Int), .int .u64 (wd r 1 : Int), .int .u64 (wd r 2 : Int), .int .u64 (wd r 3 : Int)] 23))
  have H9 : Hid (IsA (w4.alloc (.cells #[.int .u64 (wd r 0 : Int), .int .u64 (wd r 1 : Int), .int .u64 (wd r 2 : Int), .int .u64 (wd r 3 : Int)] 23)) w4.heap.size r 23) := (alloc_new w4 _ :)
  clear K3 B3 H5c H6b H7 hb4 p0 p1 p2 p3
  obtain ⟨⟨p0, p1, p2, p3⟩, _⟩ := fourV h6
  have H6c := Lib.hid h6
  clear h6
  go_wp2_with fail
  generalize w4.alloc (.cells #[.int .u64 (wd r 0 : Int), .int .u64 (wd r 1 : Int), .int .u64 (wd r 2 : Int), .int .u64 (wd r 3 : Int)] 23) = V4 at *
  generalize w4.heap.size = b9 at *
  refine (KIn.out V4).mono ?_
  rintro e w5 ⟨rfl, hb5⟩
  have k5 := (isA_calls hb5 K4.out (Nat.le_refl _)).alloc (.cells #[.int .u64 (wd I 0 : Int), .int .u64 (wd I 1 : Int), .int .u64 (wd I 2 : Int), .int .u64 (wd I 3 : Int)] 27)
  have B5 := Lib.hid (b_alloc (b_callsS hb5 B4.out (Nat.le_refl _)) (.cells #[.int .u64 (wd I 0 : Int), .int .u64 (wd I 1 : Int), .int .u64 (wd I 2 : Int), .int .u64 (wd I 3 : Int)] 27))
  have h5 := (isA_calls hb5 H5d.out (Nat.le_refl _)).alloc (.cells #[.int .u64 (wd I 0 : Int), .int .u64 (wd I 1 : Int), .int .u64 (wd I 2 : Int), .int .u64 (wd I 3 : Int)] 27)
  have h6 := (isA_calls hb5 H6c.out (Nat.le_refl _)).alloc (.cells #[.int .u64 (wd I 0 : Int), .int .u64 (wd I 1 : Int), .int .u64 (wd I 2 : Int), .int .u64 (wd I 3 : Int)] 27)
  have h7 := (isA_calls hb5 H7b.out (Nat.le_refl _)).alloc (.cells #[.int .u64 (wd I 0 : Int), .int .u64 (wd I 1 : Int), .int .u64 (wd I 2 : Int), .int .u64 (wd I 3 : Int)] 27)
  have h9 := (isA_calls hb5 H9.out (Nat.le_refl _)).alloc (.cells #[.int .u64 (wd I 0 : Int), .int .u64 (wd I 1 : Int), .int .u64 (wd I 2 : Int), .int .u64 (wd I 3 : Int)] 27)
  have h11 : IsA (w5.alloc (.cells #[.int .u64 (wd I 0 : Int), .int .u64 (wd I 1 : Int), .int .u64 (wd I 2 : Int), .int .u64 (wd I 3 : Int)] 27)) w5.heap.size I 27 := alloc_new w5 _
  clear K4 B4 H5d H6c H7b H9 hb5 p0 p1 p2 p3
  obtain ⟨⟨p0, p1, p2, p3⟩, _⟩ := fourV h6
  obtain ⟨⟨q0, q1, q2, q3⟩, _⟩ := fourV k5
  obtain ⟨⟨r0, r1, r2, r3⟩, _⟩ := fourV h5
  obtain ⟨⟨s0, s1, s2, s3⟩, _⟩ := fourV h11
  obtain ⟨⟨t0, t1, t2, t3⟩, _⟩ := fourV h7
  obtain ⟨⟨u0, u1, u2, u3⟩, _⟩ := fourV h9
  have DP0 := fun d os => cell_regrown p0 d os
  have DP1 := fun d os => cell_regrown p1 d os
  have DP2 := fun d os => cell_regrown p2 d os
  have DP3 := fun d os => cell_regrown p3 d os
  have DQ0 := fun d os => cell_regrown q0 d os
  have DQ1 := fun d os => cell_regrown q1 d os
  have DQ2 := fun d os => cell_regrown q2 d os
  have DQ3 := fun d os => cell_regrown q3 d os
  have DR0 := fun d os => cell_regrown r0 d os
  have DR1 := fun d os => cell_regrown r1 d os
  have DR2 := fun d os => cell_regrown r2 d os
  have DR3 := fun d os => cell_regrown r3 d os
  have DS0 := fun d os => cell_regrown s0 d os
  have DS1 := fun d os => cell_regrown s1 d os
  have DS2 := fun d os => cell_regrown s2 d os
  have DS3 := fun d os => cell_regrown s3 d os
  have DT0 := fun d os => cell_regrown t0 d os
  have DT1 := fun d os => cell_regrown t1 d os
  have DT2 := fun d os => cell_regrown t2 d os
  have DT3 := fun d os => cell_regrown t3 d os
  have DU0 := fun d os => cell_regrown u0 d os
  have DU1 := fun d os => cell_regrown u1 d os
  have DU2 := fun d os => cell_regrown u2 d os
  have DU3 := fun d os => cell_regrown u3 d os
  have H6 := Lib.hid h6
  have H7 := Lib.hid h7
  have H11 := Lib.hid h11
  clear p0 p1 p2 p3 q0 q1 q2 q3 r0 r1 r2 r3 s0 s1 s2 s3 t0 t1 t2 t3 u0 u1 u2 u3 h5 h6 h7 h9 h11 k5
  go_wp2_with fail
  generalize w5.alloc (.cells #[.int .u64 (wd I 0 : Int), .int .u64 (wd I 1 : Int), .int .u64 (wd I 2 : Int), .int .u64 (wd I 3 : Int)] 27) = V5 at *
  generalize w5.heap.size = b11 at *
  refine wp_region_quiet_below HMIX.out (by kernel_rfl) ?_
  repeat (go_big_quiet_step (first
    | (go_at_call 29; exact Calls.regrown_of (KPw.out _))
    | (go_at_call 30; exact Calls.regrown_of (KRP.out _))
    | (go_at_call 31; exact Calls.regrown_of (KRI.out _))
    | (go_at_call 10; with_reducible exact Calls.regrown_of (KIsP.out _))
    | (go_at_call 10; with_reducible exact Calls.regrown_of (KIsI.out _))
    | (go_at_call 10; with_reducible exact Calls.regrown_of (KIsR.out _))))
  refine wpQuiet_nil ?_
  intro _ hw'
  obtain ⟨⟨nq1, os1⟩, hw''⟩ := hw'
  subst hw''
  have hbq := below_regrown V5 nq1 os1
  have H6' := Lib.hid (isA_calls hbq H6.out (Nat.le_refl _))
  have H7' := Lib.hid (isA_calls hbq H7.out (Nat.le_refl _))
  have H11' := Lib.hid (isA_calls hbq H11.out (Nat.le_refl _))
  have HB' := Lib.hid (b_callsS hbq B5.out (Nat.le_refl _))
  clear DP0 DP1 DP2 DP3 DQ0 DQ1 DQ2 DQ3 DR0 DR1 DR2 DR3 DS0 DS1 DS2 DS3 DT0 DT1 DT2 DT3 DU0 DU1 DU2 DU3 hbq H6 H7 H11 B5 KPw KRP KRI KIsP KIsI KIsR KMod KEl KRo KRR KIn
  go_wp2_with fail
  generalize Sort.grow (redrawn V5 nq1) os1 = V6 at *
  refine (KS1.out V6).mono ?_
  rintro e w7 ⟨rfl, hb7⟩
  have H6 := Lib.hid ((isA_calls hb7 H6'.out (Nat.le_refl _)).alloc (.cells #[.int .u64 (wd c1 0 : Int), .int .u64 (wd c1 1 : Int), .int .u64 (wd c1 2 : Int), .int .u64 (wd c1 3 : Int)] 27))
  have H7 := Lib.hid ((isA_calls hb7 H7'.out (Nat.le_refl _)).alloc (.cells #[.int .u64 (wd c1 0 : Int), .int .u64 (wd c1 1 : Int), .int .u64 (wd c1 2 : Int), .int .u64 (wd c1 3 : Int)] 27))
  have H11 := Lib.hid ((isA_calls hb7 H11'.out (Nat.le_refl _)).alloc (.cells #[.int .u64 (wd c1 0 : Int), .int .u64 (wd c1 1 : Int), .int .u64 (wd c1 2 : Int), .int .u64 (wd c1 3 : Int)] 27))
  have HB := Lib.hid (b_alloc (b_callsS hb7 HB'.out (Nat.le_refl _)) (.cells #[.int .u64 (wd c1 0 : Int), .int .u64 (wd c1 1 : Int), .int .u64 (wd c1 2 : Int), .int .u64 (wd c1 3 : Int)] 27))
  have H12 : Hid (IsA (w7.alloc (.cells #[.int .u64 (wd c1 0 : Int), .int .u64 (wd c1 1 : Int), .int .u64 (wd c1 2 : Int), .int .u64 (wd c1 3 : Int)] 27)) w7.heap.size c1 27) := (alloc_new w7 _ :)
  have HL6 := Lib.hid (lt_blk (isA_calls hb7 H6'.out (Nat.le_refl _)))
  have HL7 := Lib.hid (lt_blk (isA_calls hb7 H7'.out (Nat.le_refl _)))
  have HL11 := Lib.hid (lt_blk (isA_calls hb7 H11'.out (Nat.le_refl _)))
  have HLB := Lib.hid (b_callsS hb7 HB'.out (Nat.le_refl _)).size
  clear H6' H7' H11' HB' hb7 KS1
  dsimp only
  iterate 11 (go_step)
  generalize w7.alloc (.cells #[.int .u64 (wd c1 0 : Int), .int .u64 (wd c1 1 : Int), .int .u64 (wd c1 2 : Int), .int .u64 (wd c1 3 : Int)] 27) = V7 at *
  generalize w7.heap.size = b12 at *
  go_cut [12] (fun s12 wc => s12 = .pointer (some ⟨b12, 0, none⟩) ∧ IsA wc b12 On 27 ∧ IsA wc b6 X 27 ∧ IsA wc b11 I 27 ∧ IsA wc b7 r 27 ∧ Below w.heap.size w wc)
  case first =>
    obtain ⟨⟨p0, p1, p2, p3⟩, _⟩ := fourV H6.out
    by_cases hX0 : X = 0
    · have kz' := fun w => (kz w).trans (by rw [decide_eq_true hX0])
      have hOn := HON.out
      rw [if_pos hX0] at hOn
      obtain ⟨⟨q0, q1, q2, q3⟩, g0, g1, g2, g3⟩ := fourV H12.out
      clear kz hX0 HON KMI KMR KRS KMS KNg KOd KLv HOKR HQ kOn kq1 kq2 kr
      go_wp2_with fail
      go_meet
      case rel =>
        have z := isA_set (n := 0) H12.out
        rw [show wd 0 0 = 0 by decide +kernel, show wd 0 1 = 0 by decide +kernel, show wd 0 2 = 0 by decide +kernel, show wd 0 3 = 0 by decide +kernel] at z
        have l6 := HL6.out
        have l7 := HL7.out
        have l11 := HL11.out
        exact ⟨rfl, by rw [hOn]; exact z, H6.out.far (by omega), H11.out.far (by omega), H7.out.far (by omega), set4_below HB.out HLB.out⟩
    · have kz' := fun w => (kz w).trans (by rw [decide_eq_false hX0])
      have hOn := HON.out
      rw [if_neg hX0] at hOn
      clear kz hX0 HON KMI KMR KRS KMS KNg KOd KLv HOKR HQ kOn kq1 kq2 kr
      go_wp2_with fail
      go_meet
      case rel => exact ⟨rfl, by rw [hOn]; exact H12.out, H6.out, H11.out, H7.out, HB.out⟩
  case rest =>
    obtain ⟨rfl, r12, r6, r11, r7, rB⟩ := hcut
    clear H6 H7 H11 H12 HB HL6 HL7 HL11 HLB kz HON
    obtain ⟨⟨p0, p1, p2, p3⟩, _⟩ := fourV r6
    have H6 := Lib.hid r6
    have H7 := Lib.hid r7
    have H11 := Lib.hid r11
    have H12 := Lib.hid r12
    have HB := Lib.hid rB
    clear r6 r7 r11 r12 rB
    go_wp2_with fail
    refine (KMS.out _ _ (alloc_new _ _)).mono ?_
    rintro e w13 ⟨rfl, hb13⟩
    go_wp2_with fail
    refine (KRS.out _).mono ?_
    rintro e w14 ⟨rfl, hb14⟩
    have hbV := b_callsS hb14 hb13 (Nat.le_refl _)
    have G6 := ((isA_calls hbV (H6.out.alloc (.cells #[.int .u64 (wd X 0 : Int), .int .u64 (wd X 1 : Int), .int .u64 (wd X 2 : Int), .int .u64 (wd X 3 : Int), .int .u64 (wd X 0 : Int), .int .u64 (wd X 1 : Int), .int .u64 (wd X 2 : Int), .int .u64 (wd X 3 : Int)] 27)) (Nat.le_refl _)).alloc (.cells #[.int .u64 (wd q 0 : Int), .int .u64 (wd q 1 : Int), .int .u64 (wd q 2 : Int), .int .u64 (wd q 3 : Int)] 27))
    have G11 := ((isA_calls hbV (H11.out.alloc (.cells #[.int .u64 (wd X 0 : Int), .int .u64 (wd X 1 : Int), .int .u64 (wd X 2 : Int), .int .u64 (wd X 3 : Int), .int .u64 (wd X 0 : Int), .int .u64 (wd X 1 : Int), .int .u64 (wd X 2 : Int), .int .u64 (wd X 3 : Int)] 27)) (Nat.le_refl _)).alloc (.cells #[.int .u64 (wd q 0 : Int), .int .u64 (wd q 1 : Int), .int .u64 (wd q 2 : Int), .int .u64 (wd q 3 : Int)] 27))
    have G12 := ((isA_calls hbV (H12.out.alloc (.cells #[.int .u64 (wd X 0 : Int), .int .u64 (wd X 1 : Int), .int .u64 (wd X 2 : Int), .int .u64 (wd X 3 : Int), .int .u64 (wd X 0 : Int), .int .u64 (wd X 1 : Int), .int .u64 (wd X 2 : Int), .int .u64 (wd X 3 : Int)] 27)) (Nat.le_refl _)).alloc (.cells #[.int .u64 (wd q 0 : Int), .int .u64 (wd q 1 : Int), .int .u64 (wd q 2 : Int), .int .u64 (wd q 3 : Int)] 27))
    have G7 := ((isA_calls hbV (H7.out.alloc (.cells #[.int .u64 (wd X 0 : Int), .int .u64 (wd X 1 : Int), .int .u64 (wd X 2 : Int), .int .u64 (wd X 3 : Int), .int .u64 (wd X 0 : Int), .int .u64 (wd X 1 : Int), .int .u64 (wd X 2 : Int), .int .u64 (wd X 3 : Int)] 27)) (Nat.le_refl _)).alloc (.cells #[.int .u64 (wd q 0 : Int), .int .u64 (wd q 1 : Int), .int .u64 (wd q 2 : Int), .int .u64 (wd q 3 : Int)] 27))
    have G13 : IsA (w14.alloc (.cells #[.int .u64 (wd q 0 : Int), .int .u64 (wd q 1 : Int), .int .u64 (wd q 2 : Int), .int .u64 (wd q 3 : Int)] 27)) w14.heap.size q 27 := alloc_new w14 _
    have GB : Below w.heap.size w (w14.alloc (.cells #[.int .u64 (wd q 0 : Int), .int .u64 (wd q 1 : Int), .int .u64 (wd q 2 : Int), .int .u64 (wd q 3 : Int)] 27)) := b_alloc (b_callsS hbV (b_alloc HB.out (.cells #[.int .u64 (wd X 0 : Int), .int .u64 (wd X 1 : Int), .int .u64 (wd X 2 : Int), .int .u64 (wd X 3 : Int), .int .u64 (wd X 0 : Int), .int .u64 (wd X 1 : Int), .int .u64 (wd X 2 : Int), .int .u64 (wd X 3 : Int)] 27)) (Nat.le_refl _)) (.cells #[.int .u64 (wd q 0 : Int), .int .u64 (wd q 1 : Int), .int .u64 (wd q 2 : Int), .int .u64 (wd q 3 : Int)] 27)
    have hC0 : C20 (w14.alloc (.cells #[.int .u64 (wd q 0 : Int), .int .u64 (wd q 1 : Int), .int .u64 (wd q 2 : Int), .int .u64 (wd q 3 : Int)] 27)) b6 X b11 I b12 On w14.heap.size q b7 r := C20.of (cells4 G6) (cells4 G11) (cells4 G12) (cells4 G13) (cells4 G7)
    have HC0 := Lib.hid hC0
    have HGB := Lib.hid GB
    clear H6 H11 H12 H7 HB hb13 hb14 hbV G6 G11 G12 G7 G13 GB hC0 p0 p1 p2 p3 KMS KRS
    go_wp2_with fail
    generalize w14.alloc (.cells #[.int .u64 (wd q 0 : Int), .int .u64 (wd q 1 : Int), .int .u64 (wd q 2 : Int), .int .u64 (wd q 3 : Int)] 27) = V at *
    generalize w14.heap.size = b13 at *
    have hC := HC0.out
    have hCd : C20 V.drew b6 X b11 I b12 On b13 q b7 r := hC
    have hB := HGB.out
    clear HC0 HGB
    by_cases hqX : q = X
    · have kq1' := fun w => (kq1 w).trans (by rw [decide_eq_true hqX])
      clear kq1 hqX
      rcases HOKR.out with hof | ⟨hot, hrr, hrodd⟩
      · rw [hof]
        clear HOKR HQ hof
        have d0 := fun d os => cell_regrown hC.1 d os
        have d1 := fun d os => cell_regrown hC.2.1 d os
        have d2 := fun d os => cell_regrown hC.2.2.1 d os
        have d3 := fun d os => cell_regrown hC.2.2.2.1 d os
        have d4 := fun d os => cell_regrown hC.2.2.2.2.1 d os
        have d5 := fun d os => cell_regrown hC.2.2.2.2.2.1 d os
        have d6 := fun d os => cell_regrown hC.2.2.2.2.2.2.1 d os
        have d7 := fun d os => cell_regrown hC.2.2.2.2.2.2.2.1 d os
        have d8 := fun d os => cell_regrown hC.2.2.2.2.2.2.2.2.1 d os
        have d9 := fun d os => cell_regrown hC.2.2.2.2.2.2.2.2.2.1 d os
        have d10 := fun d os => cell_regrown hC.2.2.2.2.2.2.2.2.2.2.1 d os
        have d11 := fun d os => cell_regrown hC.2.2.2.2.2.2.2.2.2.2.2.1 d os
        have d12 := fun d os => cell_regrown hC.2.2.2.2.2.2.2.2.2.2.2.2.1 d os
        have d13 := fun d os => cell_regrown hC.2.2.2.2.2.2.2.2.2.2.2.2.2.1 d os
        have d14 := fun d os => cell_regrown hC.2.2.2.2.2.2.2.2.2.2.2.2.2.2.1 d os
        have d15 := fun d os => cell_regrown hC.2.2.2.2.2.2.2.2.2.2.2.2.2.2.2.1 d os
        have d16 := fun d os => cell_regrown hC.2.2.2.2.2.2.2.2.2.2.2.2.2.2.2.2.1 d os
        have d17 := fun d os => cell_regrown hC.2.2.2.2.2.2.2.2.2.2.2.2.2.2.2.2.2.1 d os
        have d18 := fun d os => cell_regrown hC.2.2.2.2.2.2.2.2.2.2.2.2.2.2.2.2.2.2.1 d os
        have d19 := fun d os => cell_regrown hC.2.2.2.2.2.2.2.2.2.2.2.2.2.2.2.2.2.2.2 d os
        clear hC hCd
        refine wp_region_inv HMIX.out (by kernel_rfl) ?_
        repeat (first
          | (refine inv_skip (by rfl) (by rfl) ?_; simp only [Act.put, List.setIfInBounds_toArray, List.set_cons_zero, List.set_cons_succ])
          | (refine inv_val (v := ?_) (by rfl) (by rfl) (fun d os => ?_) ?_; rotate_left; (focus (go_simp; (try with_reducible rfl); done)); simp only [Act.put, List.setIfInBounds_toArray, List.set_cons_zero, List.set_cons_succ])
          | (refine inv_call (args := ?_) (v := ?_) (f := 21) (by rfl) (by rfl) (fun d os => ?_) (fun d os => ?_) ?_; rotate_left 3; (focus (exact KNg.out _; done)); rotate_left; (focus (go_simp; done)); simp only [Act.put, List.setIfInBounds_toArray, List.set_cons_zero, List.set_cons_succ])
          | (refine inv_call (args := ?_) (v := ?_) (f := 12) (by rfl) (by rfl) (fun d os => ?_) (fun d os => ?_) ?_; rotate_left 3; (focus (exact KOd.out _; done)); rotate_left; (focus (go_simp; done)); simp only [Act.put, List.setIfInBounds_toArray, List.set_cons_zero, List.set_cons_succ])
          | (refine inv_call (args := ?_) (v := ?_) (f := 16) (by rfl) (by rfl) (fun d os => ?_) (fun d os => ?_) ?_; rotate_left 3; (focus (exact KLv.out _; done)); rotate_left; (focus (go_simp; done)); simp only [Act.put, List.setIfInBounds_toArray, List.set_cons_zero, List.set_cons_succ]))
        refine inv_mk (fun b => .slice (some ⟨b, 0, none⟩) 2 2) (.cells #[.int .u64 (wd X 0 : Int), .int .u64 (wd X 1 : Int), .int .u64 (wd X 2 : Int), .int .u64 (wd X 3 : Int), .int .u64 (wd I 0 : Int), .int .u64 (wd I 1 : Int), .int .u64 (wd I 2 : Int), .int .u64 (wd I 3 : Int)] 27 (0, 0)) (by rfl) (by rfl) (fun d os => by (go_simp; done)) ?_; simp only [List.nil_append, List.cons_append]
        repeat (first
          | (refine inv_skip (by rfl) (by rfl) ?_; simp only [Act.put, List.setIfInBounds_toArray, List.set_cons_zero, List.set_cons_succ])
          | (refine inv_val (v := ?_) (by rfl) (by rfl) (fun d os => ?_) ?_; rotate_left; (focus (go_simp; (try with_reducible rfl); done)); simp only [Act.put, List.setIfInBounds_toArray, List.set_cons_zero, List.set_cons_succ])
          | (refine inv_call (args := ?_) (v := ?_) (f := 21) (by rfl) (by rfl) (fun d os => ?_) (fun d os => ?_) ?_; rotate_left 3; (focus (exact KNg.out _; done)); rotate_left; (focus (go_simp; done)); simp only [Act.put, List.setIfInBounds_toArray, List.set_cons_zero, List.set_cons_succ])
          | (refine inv_call (args := ?_) (v := ?_) (f := 12) (by rfl) (by rfl) (fun d os => ?_) (fun d os => ?_) ?_; rotate_left 3; (focus (exact KOd.out _; done)); rotate_left; (focus (go_simp; done)); simp only [Act.put, List.setIfInBounds_toArray, List.set_cons_zero, List.set_cons_succ])
          | (refine inv_call (args := ?_) (v := ?_) (f := 16) (by rfl) (by rfl) (fun d os => ?_) (fun d os => ?_) ?_; rotate_left 3; (focus (exact KLv.out _; done)); rotate_left; (focus (go_simp; done)); simp only [Act.put, List.setIfInBounds_toArray, List.set_cons_zero, List.set_cons_succ]))
        refine inv_callp (v := _) (f := 22) (args := fun b => #[.slice (some ⟨b, 0, none⟩) 2 2]) (by rfl) (by rfl) (fun b => by rfl) (fun b d os => by (simp only [Act.put, List.setIfInBounds_toArray, List.set_cons_zero, List.set_cons_succ]; go_simp; done)) KMI.out ?_; simp only [Act.put, List.setIfInBounds_toArray, List.set_cons_zero, List.set_cons_succ]
        repeat (first
          | (refine inv_skip (by rfl) (by rfl) ?_; simp only [Act.put, List.setIfInBounds_toArray, List.set_cons_zero, List.set_cons_succ])
          | (refine inv_val (v := ?_) (by rfl) (by rfl) (fun d os => ?_) ?_; rotate_left; (focus (go_simp; (try with_reducible rfl); done)); simp only [Act.put, List.setIfInBounds_toArray, List.set_cons_zero, List.set_cons_succ])
          | (refine inv_call (args := ?_) (v := ?_) (f := 21) (by rfl) (by rfl) (fun d os => ?_) (fun d os => ?_) ?_; rotate_left 3; (focus (exact KNg.out _; done)); rotate_left; (focus (go_simp; done)); simp only [Act.put, List.setIfInBounds_toArray, List.set_cons_zero, List.set_cons_succ])
          | (refine inv_call (args := ?_) (v := ?_) (f := 12) (by rfl) (by rfl) (fun d os => ?_) (fun d os => ?_) ?_; rotate_left 3; (focus (exact KOd.out _; done)); rotate_left; (focus (go_simp; done)); simp only [Act.put, List.setIfInBounds_toArray, List.set_cons_zero, List.set_cons_succ])
          | (refine inv_call (args := ?_) (v := ?_) (f := 16) (by rfl) (by rfl) (fun d os => ?_) (fun d os => ?_) ?_; rotate_left 3; (focus (exact KLv.out _; done)); rotate_left; (focus (go_simp; done)); simp only [Act.put, List.setIfInBounds_toArray, List.set_cons_zero, List.set_cons_succ]))
        refine inv_end1 (t := 72) ?_ (fun b d os => ?_)
        (focus (rfl; done))
        have hB2 := b_callsS (below_regrown V d os) hB (Nat.le_refl _)
        clear d0 d1 d2 d3 d4 d5 d6 d7 d8 d9 d10 d11 d12 d13 d14 d15 d16 d17 d18 d19
        simp only [Act.put, List.setIfInBounds_toArray, List.set_cons_zero, List.set_cons_succ]
        go_wp2_with fail
        go_ret
        exact ⟨rfl, hB2⟩

      · rw [hot]
        have kr' := fun w => (kr w).trans (by rw [decide_eq_true hrr])
        rw [hrodd] at KOd
        clear HOKR HQ hot hrr kr hrodd
        have d0 := fun d os => cell_regrown hC.1 d os
        have d1 := fun d os => cell_regrown hC.2.1 d os
        have d2 := fun d os => cell_regrown hC.2.2.1 d os
        have d3 := fun d os => cell_regrown hC.2.2.2.1 d os
        have d4 := fun d os => cell_regrown hC.2.2.2.2.1 d os
        have d5 := fun d os => cell_regrown hC.2.2.2.2.2.1 d os
        have d6 := fun d os => cell_regrown hC.2.2.2.2.2.2.1 d os
        have d7 := fun d os => cell_regrown hC.2.2.2.2.2.2.2.1 d os
        have d8 := fun d os => cell_regrown hC.2.2.2.2.2.2.2.2.1 d os
        have d9 := fun d os => cell_regrown hC.2.2.2.2.2.2.2.2.2.1 d os
        have d10 := fun d os => cell_regrown hC.2.2.2.2.2.2.2.2.2.2.1 d os
        have d11 := fun d os => cell_regrown hC.2.2.2.2.2.2.2.2.2.2.2.1 d os
        have d12 := fun d os => cell_regrown hC.2.2.2.2.2.2.2.2.2.2.2.2.1 d os
        have d13 := fun d os => cell_regrown hC.2.2.2.2.2.2.2.2.2.2.2.2.2.1 d os
        have d14 := fun d os => cell_regrown hC.2.2.2.2.2.2.2.2.2.2.2.2.2.2.1 d os
        have d15 := fun d os => cell_regrown hC.2.2.2.2.2.2.2.2.2.2.2.2.2.2.2.1 d os
        have d16 := fun d os => cell_regrown hC.2.2.2.2.2.2.2.2.2.2.2.2.2.2.2.2.1 d os
        have d17 := fun d os => cell_regrown hC.2.2.2.2.2.2.2.2.2.2.2.2.2.2.2.2.2.1 d os
        have d18 := fun d os => cell_regrown hC.2.2.2.2.2.2.2.2.2.2.2.2.2.2.2.2.2.2.1 d os
        have d19 := fun d os => cell_regrown hC.2.2.2.2.2.2.2.2.2.2.2.2.2.2.2.2.2.2.2 d os
        clear hC hCd
        refine wp_region_inv HMIX.out (by kernel_rfl) ?_
        repeat (first
          | (refine inv_skip (by rfl) (by rfl) ?_; simp only [Act.put, List.setIfInBounds_toArray, List.set_cons_zero, List.set_cons_succ])
          | (refine inv_val (v := ?_) (by rfl) (by rfl) (fun d os => ?_) ?_; rotate_left; (focus (go_simp; (try with_reducible rfl); done)); simp only [Act.put, List.setIfInBounds_toArray, List.set_cons_zero, List.set_cons_succ])
          | (refine inv_call (args := ?_) (v := ?_) (f := 21) (by rfl) (by rfl) (fun d os => ?_) (fun d os => ?_) ?_; rotate_left 3; (focus (exact KNg.out _; done)); rotate_left; (focus (go_simp; done)); simp only [Act.put, List.setIfInBounds_toArray, List.set_cons_zero, List.set_cons_succ])
          | (refine inv_call (args := ?_) (v := ?_) (f := 12) (by rfl) (by rfl) (fun d os => ?_) (fun d os => ?_) ?_; rotate_left 3; (focus (exact KOd.out _; done)); rotate_left; (focus (go_simp; done)); simp only [Act.put, List.setIfInBounds_toArray, List.set_cons_zero, List.set_cons_succ])
          | (refine inv_call (args := ?_) (v := ?_) (f := 16) (by rfl) (by rfl) (fun d os => ?_) (fun d os => ?_) ?_; rotate_left 3; (focus (exact KLv.out _; done)); rotate_left; (focus (go_simp; done)); simp only [Act.put, List.setIfInBounds_toArray, List.set_cons_zero, List.set_cons_succ]))
        refine inv_mk (fun b => .slice (some ⟨b, 0, none⟩) 2 2) (.cells #[.int .u64 (wd X 0 : Int), .int .u64 (wd X 1 : Int), .int .u64 (wd X 2 : Int), .int .u64 (wd X 3 : Int), .int .u64 (wd I 0 : Int), .int .u64 (wd I 1 : Int), .int .u64 (wd I 2 : Int), .int .u64 (wd I 3 : Int)] 27 (0, 0)) (by rfl) (by rfl) (fun d os => by (go_simp; done)) ?_; simp only [List.nil_append, List.cons_append]
        repeat (first
          | (refine inv_skip (by rfl) (by rfl) ?_; simp only [Act.put, List.setIfInBounds_toArray, List.set_cons_zero, List.set_cons_succ])
          | (refine inv_val (v := ?_) (by rfl) (by rfl) (fun d os => ?_) ?_; rotate_left; (focus (go_simp; (try with_reducible rfl); done)); simp only [Act.put, List.setIfInBounds_toArray, List.set_cons_zero, List.set_cons_succ])
          | (refine inv_call (args := ?_) (v := ?_) (f := 21) (by rfl) (by rfl) (fun d os => ?_) (fun d os => ?_) ?_; rotate_left 3; (focus (exact KNg.out _; done)); rotate_left; (focus (go_simp; done)); simp only [Act.put, List.setIfInBounds_toArray, List.set_cons_zero, List.set_cons_succ])
          | (refine inv_call (args := ?_) (v := ?_) (f := 12) (by rfl) (by rfl) (fun d os => ?_) (fun d os => ?_) ?_; rotate_left 3; (focus (exact KOd.out _; done)); rotate_left; (focus (go_simp; done)); simp only [Act.put, List.setIfInBounds_toArray, List.set_cons_zero, List.set_cons_succ])
          | (refine inv_call (args := ?_) (v := ?_) (f := 16) (by rfl) (by rfl) (fun d os => ?_) (fun d os => ?_) ?_; rotate_left 3; (focus (exact KLv.out _; done)); rotate_left; (focus (go_simp; done)); simp only [Act.put, List.setIfInBounds_toArray, List.set_cons_zero, List.set_cons_succ]))
        refine inv_callp (v := _) (f := 22) (args := fun b => #[.slice (some ⟨b, 0, none⟩) 2 2]) (by rfl) (by rfl) (fun b => by rfl) (fun b d os => by (simp only [Act.put, List.setIfInBounds_toArray, List.set_cons_zero, List.set_cons_succ]; go_simp; done)) KMI.out ?_; simp only [Act.put, List.setIfInBounds_toArray, List.set_cons_zero, List.set_cons_succ]
        repeat (first
          | (refine inv_skip (by rfl) (by rfl) ?_; simp only [Act.put, List.setIfInBounds_toArray, List.set_cons_zero, List.set_cons_succ])
          | (refine inv_val (v := ?_) (by rfl) (by rfl) (fun d os => ?_) ?_; rotate_left; (focus (go_simp; (try with_reducible rfl); done)); simp only [Act.put, List.setIfInBounds_toArray, List.set_cons_zero, List.set_cons_succ])
          | (refine inv_call (args := ?_) (v := ?_) (f := 21) (by rfl) (by rfl) (fun d os => ?_) (fun d os => ?_) ?_; rotate_left 3; (focus (exact KNg.out _; done)); rotate_left; (focus (go_simp; done)); simp only [Act.put, List.setIfInBounds_toArray, List.set_cons_zero, List.set_cons_succ])
          | (refine inv_call (args := ?_) (v := ?_) (f := 12) (by rfl) (by rfl) (fun d os => ?_) (fun d os => ?_) ?_; rotate_left 3; (focus (exact KOd.out _; done)); rotate_left; (focus (go_simp; done)); simp only [Act.put, List.setIfInBounds_toArray, List.set_cons_zero, List.set_cons_succ])
          | (refine inv_call (args := ?_) (v := ?_) (f := 16) (by rfl) (by rfl) (fun d os => ?_) (fun d os => ?_) ?_; rotate_left 3; (focus (exact KLv.out _; done)); rotate_left; (focus (go_simp; done)); simp only [Act.put, List.setIfInBounds_toArray, List.set_cons_zero, List.set_cons_succ]))
        refine inv_mk (fun b => .slice (some ⟨b, 0, none⟩) 2 2) (.cells #[.int .u64 (wd r 0 : Int), .int .u64 (wd r 1 : Int), .int .u64 (wd r 2 : Int), .int .u64 (wd r 3 : Int), .int .u64 (wd r 0 : Int), .int .u64 (wd r 1 : Int), .int .u64 (wd r 2 : Int), .int .u64 (wd r 3 : Int)] 27 (0, 0)) (by rfl) (by rfl) (fun d os => by (go_simp; done)) ?_; simp only [List.nil_append, List.cons_append]
        repeat (first
          | (refine inv_skip (by rfl) (by rfl) ?_; simp only [Act.put, List.setIfInBounds_toArray, List.set_cons_zero, List.set_cons_succ])
          | (refine inv_val (v := ?_) (by rfl) (by rfl) (fun d os => ?_) ?_; rotate_left; (focus (go_simp; (try with_reducible rfl); done)); simp only [Act.put, List.setIfInBounds_toArray, List.set_cons_zero, List.set_cons_succ])
          | (refine inv_call (args := ?_) (v := ?_) (f := 21) (by rfl) (by rfl) (fun d os => ?_) (fun d os => ?_) ?_; rotate_left 3; (focus (exact KNg.out _; done)); rotate_left; (focus (go_simp; done)); simp only [Act.put, List.setIfInBounds_toArray, List.set_cons_zero, List.set_cons_succ])
          | (refine inv_call (args := ?_) (v := ?_) (f := 12) (by rfl) (by rfl) (fun d os => ?_) (fun d os => ?_) ?_; rotate_left 3; (focus (exact KOd.out _; done)); rotate_left; (focus (go_simp; done)); simp only [Act.put, List.setIfInBounds_toArray, List.set_cons_zero, List.set_cons_succ])
          | (refine inv_call (args := ?_) (v := ?_) (f := 16) (by rfl) (by rfl) (fun d os => ?_) (fun d os => ?_) ?_; rotate_left 3; (focus (exact KLv.out _; done)); rotate_left; (focus (go_simp; done)); simp only [Act.put, List.setIfInBounds_toArray, List.set_cons_zero, List.set_cons_succ]))
        refine inv_callp (v := _) (f := 22) (args := fun b => #[.slice (some ⟨b, 0, none⟩) 2 2]) (by rfl) (by rfl) (fun b => by rfl) (fun b d os => by (simp only [Act.put, List.setIfInBounds_toArray, List.set_cons_zero, List.set_cons_succ]; go_simp; done)) KMR.out ?_; simp only [Act.put, List.setIfInBounds_toArray, List.set_cons_zero, List.set_cons_succ]
        repeat (first
          | (refine inv_skip (by rfl) (by rfl) ?_; simp only [Act.put, List.setIfInBounds_toArray, List.set_cons_zero, List.set_cons_succ])
          | (refine inv_val (v := ?_) (by rfl) (by rfl) (fun d os => ?_) ?_; rotate_left; (focus (go_simp; (try with_reducible rfl); done)); simp only [Act.put, List.setIfInBounds_toArray, List.set_cons_zero, List.set_cons_succ])
          | (refine inv_call (args := ?_) (v := ?_) (f := 21) (by rfl) (by rfl) (fun d os => ?_) (fun d os => ?_) ?_; rotate_left 3; (focus (exact KNg.out _; done)); rotate_left; (focus (go_simp; done)); simp only [Act.put, List.setIfInBounds_toArray, List.set_cons_zero, List.set_cons_succ])
          | (refine inv_call (args := ?_) (v := ?_) (f := 12) (by rfl) (by rfl) (fun d os => ?_) (fun d os => ?_) ?_; rotate_left 3; (focus (exact KOd.out _; done)); rotate_left; (focus (go_simp; done)); simp only [Act.put, List.setIfInBounds_toArray, List.set_cons_zero, List.set_cons_succ])
          | (refine inv_call (args := ?_) (v := ?_) (f := 16) (by rfl) (by rfl) (fun d os => ?_) (fun d os => ?_) ?_; rotate_left 3; (focus (exact KLv.out _; done)); rotate_left; (focus (go_simp; done)); simp only [Act.put, List.setIfInBounds_toArray, List.set_cons_zero, List.set_cons_succ]))
        refine inv_end2 (t := 72) (t' := 96) ?_ ?_ (fun b b' d os => ?_)
        (focus (rfl; done))
        (focus (rfl; done))
        have hB2 := b_callsS (below_regrown V d os) hB (Nat.le_refl _)
        clear d0 d1 d2 d3 d4 d5 d6 d7 d8 d9 d10 d11 d12 d13 d14 d15 d16 d17 d18 d19
        simp only [Act.put, List.setIfInBounds_toArray, List.set_cons_zero, List.set_cons_succ]
        go_wp2_with fail
        go_ret
        exact ⟨rfl, hB2⟩

    · have kq1' := fun w => (kq1 w).trans (by rw [decide_eq_false hqX])
      have hqN : q = Ng := by
        rcases HQ.out with h | h
        · exact absurd h hqX
        · exact h
      have kq2' := fun w => (kq2 w).trans (by rw [decide_eq_true hqN])
      clear kq1 kq2 hqX hqN
      rcases HOKR.out with hof | ⟨hot, hrr, hrodd⟩
      · rw [hof]
        clear HOKR HQ hof
        have d0 := fun d os => cell_regrown hC.1 d os
        have d1 := fun d os => cell_regrown hC.2.1 d os
        have d2 := fun d os => cell_regrown hC.2.2.1 d os
        have d3 := fun d os => cell_regrown hC.2.2.2.1 d os
        have d4 := fun d os => cell_regrown hC.2.2.2.2.1 d os
        have d5 := fun d os => cell_regrown hC.2.2.2.2.2.1 d os
        have d6 := fun d os => cell_regrown hC.2.2.2.2.2.2.1 d os
        have d7 := fun d os => cell_regrown hC.2.2.2.2.2.2.2.1 d os
        have d8 := fun d os => cell_regrown hC.2.2.2.2.2.2.2.2.1 d os
        have d9 := fun d os => cell_regrown hC.2.2.2.2.2.2.2.2.2.1 d os
        have d10 := fun d os => cell_regrown hC.2.2.2.2.2.2.2.2.2.2.1 d os
        have d11 := fun d os => cell_regrown hC.2.2.2.2.2.2.2.2.2.2.2.1 d os
        have d12 := fun d os => cell_regrown hC.2.2.2.2.2.2.2.2.2.2.2.2.1 d os
        have d13 := fun d os => cell_regrown hC.2.2.2.2.2.2.2.2.2.2.2.2.2.1 d os
        have d14 := fun d os => cell_regrown hC.2.2.2.2.2.2.2.2.2.2.2.2.2.2.1 d os
        have d15 := fun d os => cell_regrown hC.2.2.2.2.2.2.2.2.2.2.2.2.2.2.2.1 d os
        have d16 := fun d os => cell_regrown hC.2.2.2.2.2.2.2.2.2.2.2.2.2.2.2.2.1 d os
        have d17 := fun d os => cell_regrown hC.2.2.2.2.2.2.2.2.2.2.2.2.2.2.2.2.2.1 d os
        have d18 := fun d os => cell_regrown hC.2.2.2.2.2.2.2.2.2.2.2.2.2.2.2.2.2.2.1 d os
        have d19 := fun d os => cell_regrown hC.2.2.2.2.2.2.2.2.2.2.2.2.2.2.2.2.2.2.2 d os
        clear hC hCd
        refine wp_region_inv HMIX.out (by kernel_rfl) ?_
        repeat (first
          | (refine inv_skip (by rfl) (by rfl) ?_; simp only [Act.put, List.setIfInBounds_toArray, List.set_cons_zero, List.set_cons_succ])
          | (refine inv_val (v := ?_) (by rfl) (by rfl) (fun d os => ?_) ?_; rotate_left; (focus (go_simp; (try with_reducible rfl); done)); simp only [Act.put, List.setIfInBounds_toArray, List.set_cons_zero, List.set_cons_succ])
          | (refine inv_call (args := ?_) (v := ?_) (f := 21) (by rfl) (by rfl) (fun d os => ?_) (fun d os => ?_) ?_; rotate_left 3; (focus (exact KNg.out _; done)); rotate_left; (focus (go_simp; done)); simp only [Act.put, List.setIfInBounds_toArray, List.set_cons_zero, List.set_cons_succ])
          | (refine inv_call (args := ?_) (v := ?_) (f := 12) (by rfl) (by rfl) (fun d os => ?_) (fun d os => ?_) ?_; rotate_left 3; (focus (exact KOd.out _; done)); rotate_left; (focus (go_simp; done)); simp only [Act.put, List.setIfInBounds_toArray, List.set_cons_zero, List.set_cons_succ])
          | (refine inv_call (args := ?_) (v := ?_) (f := 16) (by rfl) (by rfl) (fun d os => ?_) (fun d os => ?_) ?_; rotate_left 3; (focus (exact KLv.out _; done)); rotate_left; (focus (go_simp; done)); simp only [Act.put, List.setIfInBounds_toArray, List.set_cons_zero, List.set_cons_succ]))
        refine inv_mk (fun b => .slice (some ⟨b, 0, none⟩) 2 2) (.cells #[.int .u64 (wd X 0 : Int), .int .u64 (wd X 1 : Int), .int .u64 (wd X 2 : Int), .int .u64 (wd X 3 : Int), .int .u64 (wd I 0 : Int), .int .u64 (wd I 1 : Int), .int .u64 (wd I 2 : Int), .int .u64 (wd I 3 : Int)] 27 (0, 0)) (by rfl) (by rfl) (fun d os => by (go_simp; done)) ?_; simp only [List.nil_append, List.cons_append]
        repeat (first
          | (refine inv_skip (by rfl) (by rfl) ?_; simp only [Act.put, List.setIfInBounds_toArray, List.set_cons_zero, List.set_cons_succ])
          | (refine inv_val (v := ?_) (by rfl) (by rfl) (fun d os => ?_) ?_; rotate_left; (focus (go_simp; (try with_reducible rfl); done)); simp only [Act.put, List.setIfInBounds_toArray, List.set_cons_zero, List.set_cons_succ])
          | (refine inv_call (args := ?_) (v := ?_) (f := 21) (by rfl) (by rfl) (fun d os => ?_) (fun d os => ?_) ?_; rotate_left 3; (focus (exact KNg.out _; done)); rotate_left; (focus (go_simp; done)); simp only [Act.put, List.setIfInBounds_toArray, List.set_cons_zero, List.set_cons_succ])
          | (refine inv_call (args := ?_) (v := ?_) (f := 12) (by rfl) (by rfl) (fun d os => ?_) (fun d os => ?_) ?_; rotate_left 3; (focus (exact KOd.out _; done)); rotate_left; (focus (go_simp; done)); simp only [Act.put, List.setIfInBounds_toArray, List.set_cons_zero, List.set_cons_succ])
          | (refine inv_call (args := ?_) (v := ?_) (f := 16) (by rfl) (by rfl) (fun d os => ?_) (fun d os => ?_) ?_; rotate_left 3; (focus (exact KLv.out _; done)); rotate_left; (focus (go_simp; done)); simp only [Act.put, List.setIfInBounds_toArray, List.set_cons_zero, List.set_cons_succ]))
        refine inv_callp (v := _) (f := 22) (args := fun b => #[.slice (some ⟨b, 0, none⟩) 2 2]) (by rfl) (by rfl) (fun b => by rfl) (fun b d os => by (simp only [Act.put, List.setIfInBounds_toArray, List.set_cons_zero, List.set_cons_succ]; go_simp; done)) KMI.out ?_; simp only [Act.put, List.setIfInBounds_toArray, List.set_cons_zero, List.set_cons_succ]
        repeat (first
          | (refine inv_skip (by rfl) (by rfl) ?_; simp only [Act.put, List.setIfInBounds_toArray, List.set_cons_zero, List.set_cons_succ])
          | (refine inv_val (v := ?_) (by rfl) (by rfl) (fun d os => ?_) ?_; rotate_left; (focus (go_simp; (try with_reducible rfl); done)); simp only [Act.put, List.setIfInBounds_toArray, List.set_cons_zero, List.set_cons_succ])
          | (refine inv_call (args := ?_) (v := ?_) (f := 21) (by rfl) (by rfl) (fun d os => ?_) (fun d os => ?_) ?_; rotate_left 3; (focus (exact KNg.out _; done)); rotate_left; (focus (go_simp; done)); simp only [Act.put, List.setIfInBounds_toArray, List.set_cons_zero, List.set_cons_succ])
          | (refine inv_call (args := ?_) (v := ?_) (f := 12) (by rfl) (by rfl) (fun d os => ?_) (fun d os => ?_) ?_; rotate_left 3; (focus (exact KOd.out _; done)); rotate_left; (focus (go_simp; done)); simp only [Act.put, List.setIfInBounds_toArray, List.set_cons_zero, List.set_cons_succ])
          | (refine inv_call (args := ?_) (v := ?_) (f := 16) (by rfl) (by rfl) (fun d os => ?_) (fun d os => ?_) ?_; rotate_left 3; (focus (exact KLv.out _; done)); rotate_left; (focus (go_simp; done)); simp only [Act.put, List.setIfInBounds_toArray, List.set_cons_zero, List.set_cons_succ]))
        refine inv_end1 (t := 72) ?_ (fun b d os => ?_)
        (focus (rfl; done))
        have hB2 := b_callsS (below_regrown V d os) hB (Nat.le_refl _)
        clear d0 d1 d2 d3 d4 d5 d6 d7 d8 d9 d10 d11 d12 d13 d14 d15 d16 d17 d18 d19
        simp only [Act.put, List.setIfInBounds_toArray, List.set_cons_zero, List.set_cons_succ]
        go_wp2_with fail
        go_ret
        exact ⟨rfl, hB2⟩

      · rw [hot]
        have kr' := fun w => (kr w).trans (by rw [decide_eq_true hrr])
        rw [hrodd] at KOd
        clear HOKR HQ hot hrr kr hrodd
        have d0 := fun d os => cell_regrown hC.1 d os
        have d1 := fun d os => cell_regrown hC.2.1 d os
        have d2 := fun d os => cell_regrown hC.2.2.1 d os
        have d3 := fun d os => cell_regrown hC.2.2.2.1 d os
        have d4 := fun d os => cell_regrown hC.2.2.2.2.1 d os
        have d5 := fun d os => cell_regrown hC.2.2.2.2.2.1 d os
        have d6 := fun d os => cell_regrown hC.2.2.2.2.2.2.1 d os
        have d7 := fun d os => cell_regrown hC.2.2.2.2.2.2.2.1 d os
        have d8 := fun d os => cell_regrown hC.2.2.2.2.2.2.2.2.1 d os
        have d9 := fun d os => cell_regrown hC.2.2.2.2.2.2.2.2.2.1 d os
        have d10 := fun d os => cell_regrown hC.2.2.2.2.2.2.2.2.2.2.1 d os
        have d11 := fun d os => cell_regrown hC.2.2.2.2.2.2.2.2.2.2.2.1 d os
        have d12 := fun d os => cell_regrown hC.2.2.2.2.2.2.2.2.2.2.2.2.1 d os
        have d13 := fun d os => cell_regrown hC.2.2.2.2.2.2.2.2.2.2.2.2.2.1 d os
        have d14 := fun d os => cell_regrown hC.2.2.2.2.2.2.2.2.2.2.2.2.2.2.1 d os
        have d15 := fun d os => cell_regrown hC.2.2.2.2.2.2.2.2.2.2.2.2.2.2.2.1 d os
        have d16 := fun d os => cell_regrown hC.2.2.2.2.2.2.2.2.2.2.2.2.2.2.2.2.1 d os
        have d17 := fun d os => cell_regrown hC.2.2.2.2.2.2.2.2.2.2.2.2.2.2.2.2.2.1 d os
        have d18 := fun d os => cell_regrown hC.2.2.2.2.2.2.2.2.2.2.2.2.2.2.2.2.2.2.1 d os
        have d19 := fun d os => cell_regrown hC.2.2.2.2.2.2.2.2.2.2.2.2.2.2.2.2.2.2.2 d os
        clear hC hCd
        refine wp_region_inv HMIX.out (by kernel_rfl) ?_
        repeat (first
          | (refine inv_skip (by rfl) (by rfl) ?_; simp only [Act.put, List.setIfInBounds_toArray, List.set_cons_zero, List.set_cons_succ])
          | (refine inv_val (v := ?_) (by rfl) (by rfl) (fun d os => ?_) ?_; rotate_left; (focus (go_simp; (try with_reducible rfl); done)); simp only [Act.put, List.setIfInBounds_toArray, List.set_cons_zero, List.set_cons_succ])
          | (refine inv_call (args := ?_) (v := ?_) (f := 21) (by rfl) (by rfl) (fun d os => ?_) (fun d os => ?_) ?_; rotate_left 3; (focus (exact KNg.out _; done)); rotate_left; (focus (go_simp; done)); simp only [Act.put, List.setIfInBounds_toArray, List.set_cons_zero, List.set_cons_succ])
          | (refine inv_call (args := ?_) (v := ?_) (f := 12) (by rfl) (by rfl) (fun d os => ?_) (fun d os => ?_) ?_; rotate_left 3; (focus (exact KOd.out _; done)); rotate_left; (focus (go_simp; done)); simp only [Act.put, List.setIfInBounds_toArray, List.set_cons_zero, List.set_cons_succ])
          | (refine inv_call (args := ?_) (v := ?_) (f := 16) (by rfl) (by rfl) (fun d os => ?_) (fun d os => ?_) ?_; rotate_left 3; (focus (exact KLv.out _; done)); rotate_left; (focus (go_simp; done)); simp only [Act.put, List.setIfInBounds_toArray, List.set_cons_zero, List.set_cons_succ]))
        refine inv_mk (fun b => .slice (some ⟨b, 0, none⟩) 2 2) (.cells #[.int .u64 (wd X 0 : Int), .int .u64 (wd X 1 : Int), .int .u64 (wd X 2 : Int), .int .u64 (wd X 3 : Int), .int .u64 (wd I 0 : Int), .int .u64 (wd I 1 : Int), .int .u64 (wd I 2 : Int), .int .u64 (wd I 3 : Int)] 27 (0, 0)) (by rfl) (by rfl) (fun d os => by (go_simp; done)) ?_; simp only [List.nil_append, List.cons_append]
        repeat (first
          | (refine inv_skip (by rfl) (by rfl) ?_; simp only [Act.put, List.setIfInBounds_toArray, List.set_cons_zero, List.set_cons_succ])
          | (refine inv_val (v := ?_) (by rfl) (by rfl) (fun d os => ?_) ?_; rotate_left; (focus (go_simp; (try with_reducible rfl); done)); simp only [Act.put, List.setIfInBounds_toArray, List.set_cons_zero, List.set_cons_succ])
          | (refine inv_call (args := ?_) (v := ?_) (f := 21) (by rfl) (by rfl) (fun d os => ?_) (fun d os => ?_) ?_; rotate_left 3; (focus (exact KNg.out _; done)); rotate_left; (focus (go_simp; done)); simp only [Act.put, List.setIfInBounds_toArray, List.set_cons_zero, List.set_cons_succ])
          | (refine inv_call (args := ?_) (v := ?_) (f := 12) (by rfl) (by rfl) (fun d os => ?_) (fun d os => ?_) ?_; rotate_left 3; (focus (exact KOd.out _; done)); rotate_left; (focus (go_simp; done)); simp only [Act.put, List.setIfInBounds_toArray, List.set_cons_zero, List.set_cons_succ])
          | (refine inv_call (args := ?_) (v := ?_) (f := 16) (by rfl) (by rfl) (fun d os => ?_) (fun d os => ?_) ?_; rotate_left 3; (focus (exact KLv.out _; done)); rotate_left; (focus (go_simp; done)); simp only [Act.put, List.setIfInBounds_toArray, List.set_cons_zero, List.set_cons_succ]))
        refine inv_callp (v := _) (f := 22) (args := fun b => #[.slice (some ⟨b, 0, none⟩) 2 2]) (by rfl) (by rfl) (fun b => by rfl) (fun b d os => by (simp only [Act.put, List.setIfInBounds_toArray, List.set_cons_zero, List.set_cons_succ]; go_simp; done)) KMI.out ?_; simp only [Act.put, List.setIfInBounds_toArray, List.set_cons_zero, List.set_cons_succ]
        repeat (first
          | (refine inv_skip (by rfl) (by rfl) ?_; simp only [Act.put, List.setIfInBounds_toArray, List.set_cons_zero, List.set_cons_succ])
          | (refine inv_val (v := ?_) (by rfl) (by rfl) (fun d os => ?_) ?_; rotate_left; (focus (go_simp; (try with_reducible rfl); done)); simp only [Act.put, List.setIfInBounds_toArray, List.set_cons_zero, List.set_cons_succ])
          | (refine inv_call (args := ?_) (v := ?_) (f := 21) (by rfl) (by rfl) (fun d os => ?_) (fun d os => ?_) ?_; rotate_left 3; (focus (exact KNg.out _; done)); rotate_left; (focus (go_simp; done)); simp only [Act.put, List.setIfInBounds_toArray, List.set_cons_zero, List.set_cons_succ])
          | (refine inv_call (args := ?_) (v := ?_) (f := 12) (by rfl) (by rfl) (fun d os => ?_) (fun d os => ?_) ?_; rotate_left 3; (focus (exact KOd.out _; done)); rotate_left; (focus (go_simp; done)); simp only [Act.put, List.setIfInBounds_toArray, List.set_cons_zero, List.set_cons_succ])
          | (refine inv_call (args := ?_) (v := ?_) (f := 16) (by rfl) (by rfl) (fun d os => ?_) (fun d os => ?_) ?_; rotate_left 3; (focus (exact KLv.out _; done)); rotate_left; (focus (go_simp; done)); simp only [Act.put, List.setIfInBounds_toArray, List.set_cons_zero, List.set_cons_succ]))
        refine inv_mk (fun b => .slice (some ⟨b, 0, none⟩) 2 2) (.cells #[.int .u64 (wd r 0 : Int), .int .u64 (wd r 1 : Int), .int .u64 (wd r 2 : Int), .int .u64 (wd r 3 : Int), .int .u64 (wd r 0 : Int), .int .u64 (wd r 1 : Int), .int .u64 (wd r 2 : Int), .int .u64 (wd r 3 : Int)] 27 (0, 0)) (by rfl) (by rfl) (fun d os => by (go_simp; done)) ?_; simp only [List.nil_append, List.cons_append]
        repeat (first
          | (refine inv_skip (by rfl) (by rfl) ?_; simp only [Act.put, List.setIfInBounds_toArray, List.set_cons_zero, List.set_cons_succ])
          | (refine inv_val (v := ?_) (by rfl) (by rfl) (fun d os => ?_) ?_; rotate_left; (focus (go_simp; (try with_reducible rfl); done)); simp only [Act.put, List.setIfInBounds_toArray, List.set_cons_zero, List.set_cons_succ])
          | (refine inv_call (args := ?_) (v := ?_) (f := 21) (by rfl) (by rfl) (fun d os => ?_) (fun d os => ?_) ?_; rotate_left 3; (focus (exact KNg.out _; done)); rotate_left; (focus (go_simp; done)); simp only [Act.put, List.setIfInBounds_toArray, List.set_cons_zero, List.set_cons_succ])
          | (refine inv_call (args := ?_) (v := ?_) (f := 12) (by rfl) (by rfl) (fun d os => ?_) (fun d os => ?_) ?_; rotate_left 3; (focus (exact KOd.out _; done)); rotate_left; (focus (go_simp; done)); simp only [Act.put, List.setIfInBounds_toArray, List.set_cons_zero, List.set_cons_succ])
          | (refine inv_call (args := ?_) (v := ?_) (f := 16) (by rfl) (by rfl) (fun d os => ?_) (fun d os => ?_) ?_; rotate_left 3; (focus (exact KLv.out _; done)); rotate_left; (focus (go_simp; done)); simp only [Act.put, List.setIfInBounds_toArray, List.set_cons_zero, List.set_cons_succ]))
        refine inv_callp (v := _) (f := 22) (args := fun b => #[.slice (some ⟨b, 0, none⟩) 2 2]) (by rfl) (by rfl) (fun b => by rfl) (fun b d os => by (simp only [Act.put, List.setIfInBounds_toArray, List.set_cons_zero, List.set_cons_succ]; go_simp; done)) KMR.out ?_; simp only [Act.put, List.setIfInBounds_toArray, List.set_cons_zero, List.set_cons_succ]
        repeat (first
          | (refine inv_skip (by rfl) (by rfl) ?_; simp only [Act.put, List.setIfInBounds_toArray, List.set_cons_zero, List.set_cons_succ])
          | (refine inv_val (v := ?_) (by rfl) (by rfl) (fun d os => ?_) ?_; rotate_left; (focus (go_simp; (try with_reducible rfl); done)); simp only [Act.put, List.setIfInBounds_toArray, List.set_cons_zero, List.set_cons_succ])
          | (refine inv_call (args := ?_) (v := ?_) (f := 21) (by rfl) (by rfl) (fun d os => ?_) (fun d os => ?_) ?_; rotate_left 3; (focus (exact KNg.out _; done)); rotate_left; (focus (go_simp; done)); simp only [Act.put, List.setIfInBounds_toArray, List.set_cons_zero, List.set_cons_succ])
          | (refine inv_call (args := ?_) (v := ?_) (f := 12) (by rfl) (by rfl) (fun d os => ?_) (fun d os => ?_) ?_; rotate_left 3; (focus (exact KOd.out _; done)); rotate_left; (focus (go_simp; done)); simp only [Act.put, List.setIfInBounds_toArray, List.set_cons_zero, List.set_cons_succ])
          | (refine inv_call (args := ?_) (v := ?_) (f := 16) (by rfl) (by rfl) (fun d os => ?_) (fun d os => ?_) ?_; rotate_left 3; (focus (exact KLv.out _; done)); rotate_left; (focus (go_simp; done)); simp only [Act.put, List.setIfInBounds_toArray, List.set_cons_zero, List.set_cons_succ]))
        refine inv_end2 (t := 72) (t' := 96) ?_ ?_ (fun b b' d os => ?_)
        (focus (rfl; done))
        (focus (rfl; done))
        have hB2 := b_callsS (below_regrown V d os) hB (Nat.le_refl _)
        clear d0 d1 d2 d3 d4 d5 d6 d7 d8 d9 d10 d11 d12 d13 d14 d15 d16 d17 d18 d19
        simp only [Act.put, List.setIfInBounds_toArray, List.set_cons_zero, List.set_cons_succ]
        go_wp2_with fail
        go_ret
        exact ⟨rfl, hB2⟩


end Go.Proofs.Ytmpbndhlnnfbfaa
