/- The law NumBack: it returns true. -/
import Derived.Test.YtfkhkmfeiopmbaaDoorNumT
import Derived.Lib.QuietBelow
namespace Go.Proofs.YtfkhkmfeiopmbaaDoor
open Go.RowKit
theorem scan_codes (t : ByteArray) (y e k : Int) (_h : scanI t 0 = (y, e, k)) : k = 0 ∨ k ≠ 0 := by
  exact Decidable.em _
theorem scan_range (t : ByteArray) (y e : Int) (h : scanI t 0 = (y, e, 0)) : -9007199254740991 ≤ y ∧ y ≤ 9007199254740991 := by
  have hF : ∀ f sg, (scanF t f sg).2.2 = 0 → -9007199254740991 ≤ (scanF t f sg).1 ∧ (scanF t f sg).1 ≤ 9007199254740991 := fun f sg => by
    unfold scanF
    repeat' split
    all_goals (intro h0; simp at h0 ⊢)
    all_goals omega
  have e1 : (scanI t 0).1 = y := by rw [h]
  have e2 : (scanI t 0).2.2 = 0 := by rw [h]
  rw [← e1]
  revert e2
  unfold scanI
  repeat' split
  · simp
  · exact hF _ _
  · exact hF _ _
theorem back_long (n : Int) (t : ByteArray) (w : World) (h : 300 < t.size) :
    Calls Tryd.prog 4 #[.int .i64 n, .string t] w fun e w' => e = .returned (.bool true) ∧ Below w.heap.size w w' := by
  have q : 300 < (t.size : Int) := by omega
  go_enter Tryd.func4, Tryd.ntmps4
  go_wp2_with (go_at_call 8; refine (lives_any _).mono ?_; rintro e w' ⟨rfl, hb⟩)
  go_ret
  exact ⟨rfl, by assumption⟩
set_option maxHeartbeats 4000000 in
theorem back_nn (n : Int) (t : ByteArray) (w : World) (h0 : -9223372036854775808 ≤ n) (h1 : n ≤ 9223372036854775807) (ht : Tab w) (hs : t.size ≤ 300) (hf : ¬ (-9007199254740991 ≤ n ∧ n ≤ 9007199254740991)) (y e : Int) (k : Int) (hk : k ≠ 0) (hr : scanI t 0 = (y, e, k)) :
    Calls Tryd.prog 4 #[.int .i64 n, .string t] w fun e w' => e = .returned (.bool true) ∧ Below w.heap.size w w' := by
  have hm : Tryd.prog.follows .mixedOrders = true := by kernel_rfl
  have SA := show_any n w h0 h1 ht
  have FA := fun w => fits_any n w
  have XS := show_scan n
  have hx : (showB n).size ≤ 21 := by rw [show_size]; exact Lib.itoa_length_le n h0 h1
  have XA := fun w => scan_any (showB n) 0 w (by omega)
  have TA := fun w => scan_any t 0 w (by omega)
  rw [hr] at TA
  rw [XS, if_neg hf] at XA
  rw [show (decide (-9007199254740991 ≤ n) && decide (n ≤ 9007199254740991)) = false by simp; omega] at FA
  have q : ¬ 300 < (t.size : Int) := by omega
  simp only [ret3] at XA TA
  have HS := Lib.hid SA
  have HF := Lib.hid FA
  have HX := Lib.hid XA
  have HT := Lib.hid TA
  have HTB := Lib.hid ht
  generalize showB n = X at HS HX hx
  clear SA FA XA TA XS hr hf h0 h1 ht
  go_enter Tryd.func4, Tryd.ntmps4
  have k0 : (k == 0) = false := by simpa using hk
  have k1 : decide (k = 0) = false := by simpa using hk
  have k2 : (k != 0) = true := by simpa using hk
  go_wp2_with (first
    | (go_at_call 5; refine HS.out.mono ?_; rintro e w1 ⟨rfl, hb1⟩)
    | (go_at_call 7; refine (HF.out _).mono ?_; rintro e w' ⟨rfl, rfl⟩)
    | (go_at_call 9; with_reducible refine (HX.out _).mono ?_; rintro e w2 ⟨rfl, hb2⟩)
    | (go_at_call 9; with_reducible refine (HT.out _).mono ?_; rintro e w3 ⟨rfl, hb3⟩))
  have hbb : Below w.heap.size w w3 := by repeat (first | exact Below.refl _ _ | refine gr_step ?_ (by assumption))
  have hle := hbb.size
  clear HS HF HX HT hb1 hb2 hb3
  refine wp_region_quiet_below (by assumption) (by kernel_rfl) ?_
  repeat (quiet_step (first
    | (go_at_call 8; exact Calls.regrown_of (lives_any _))))
  refine wpQuiet_nil ?_
  intro _ hw'
  obtain ⟨⟨nq, osq⟩, hw''⟩ := hw'
  subst hw''
  go_wp2_with fail
  go_ret
  exact ⟨rfl, hbb.trans ((below_regrown w3 _ _).mono hle)⟩
set_option maxHeartbeats 4000000 in
theorem back_ny (n : Int) (t : ByteArray) (w : World) (h0 : -9223372036854775808 ≤ n) (h1 : n ≤ 9223372036854775807) (ht : Tab w) (hs : t.size ≤ 300) (hf : ¬ (-9007199254740991 ≤ n ∧ n ≤ 9007199254740991)) (y e : Int) (hr : scanI t 0 = (y, e, 0)) :
    Calls Tryd.prog 4 #[.int .i64 n, .string t] w fun e w' => e = .returned (.bool true) ∧ Below w.heap.size w w' := by
  have hm : Tryd.prog.follows .mixedOrders = true := by kernel_rfl
  have SA := show_any n w h0 h1 ht
  have FA := fun w => fits_any n w
  have XS := show_scan n
  have hx : (showB n).size ≤ 21 := by rw [show_size]; exact Lib.itoa_length_le n h0 h1
  have XA := fun w => scan_any (showB n) 0 w (by omega)
  have TA := fun w => scan_any t 0 w (by omega)
  rw [hr] at TA
  rw [XS, if_neg hf] at XA
  rw [show (decide (-9007199254740991 ≤ n) && decide (n ≤ 9007199254740991)) = false by simp; omega] at FA
  have q : ¬ 300 < (t.size : Int) := by omega
  simp only [ret3] at XA TA
  obtain ⟨he0, he1, hit⟩ := scan_show t y e hr
  obtain ⟨y0, y1⟩ := scan_range t y e hr
  have hex : t.extract 0 e.toNat = showB y := by
    unfold showB
    rw [hit]
    apply ByteArray.ext
    apply Array.toList_inj.1
    simp [ByteArray.data_extract]
  have YA := fun w ht => show_any y w (by omega) (by omega) ht
  rw [← hex] at YA
  have et : e.toNat ≤ t.size := by omega
  have HEX := Lib.hid hex
  clear hit hex
  have HS := Lib.hid SA
  have HF := Lib.hid FA
  have HX := Lib.hid XA
  have HT := Lib.hid TA
  have HTB := Lib.hid ht
  have HY := Lib.hid YA
  clear YA
  generalize showB n = X at HS HX hx
  clear SA FA XA TA XS hr hf h0 h1 ht
  go_enter Tryd.func4, Tryd.ntmps4
  go_wp2_with (first
    | (go_at_call 5; refine HS.out.mono ?_; rintro e w1 ⟨rfl, hb1⟩)
    | (go_at_call 7; refine (HF.out _).mono ?_; rintro e w' ⟨rfl, rfl⟩)
    | (go_at_call 9; with_reducible refine (HX.out _).mono ?_; rintro e w2 ⟨rfl, hb2⟩)
    | (go_at_call 9; with_reducible refine (HT.out _).mono ?_; rintro e w3 ⟨rfl, hb3⟩))
  have hbb : Below w.heap.size w w3 := by repeat (first | exact Below.refl _ _ | refine gr_step ?_ (by assumption))
  have hle := hbb.size
  clear HS HF HX HT hb1 hb2 hb3
  refine wp_region_quiet_below (by assumption) (by kernel_rfl) ?_
  repeat (quiet_step (first
    | (go_at_call 5; exact Calls.regrown_of (HY.out _ (tab_below HTB.out (hbb.trans ((below_regrown w3 _ _).mono hle)))))
    | (go_at_call 8; exact Calls.regrown_of (lives_any _))))
  refine wpQuiet_nil ?_
  intro _ hw'
  obtain ⟨⟨nq, osq⟩, hw''⟩ := hw'
  subst hw''
  go_wp2_with fail
  go_ret
  exact ⟨rfl, hbb.trans ((below_regrown w3 _ _).mono hle)⟩
set_option maxHeartbeats 4000000 in
theorem back_yn (n : Int) (t : ByteArray) (w : World) (h0 : -9223372036854775808 ≤ n) (h1 : n ≤ 9223372036854775807) (ht : Tab w) (hs : t.size ≤ 300) (hf : -9007199254740991 ≤ n ∧ n ≤ 9007199254740991) (y e : Int) (k : Int) (hk : k ≠ 0) (hr : scanI t 0 = (y, e, k)) :
    Calls Tryd.prog 4 #[.int .i64 n, .string t] w fun e w' => e = .returned (.bool true) ∧ Below w.heap.size w w' := by
  have hm : Tryd.prog.follows .mixedOrders = true := by kernel_rfl
  have SA := show_any n w h0 h1 ht
  have FA := fun w => fits_any n w
  have XS := show_scan n
  have hx : (showB n).size ≤ 21 := by rw [show_size]; exact Lib.itoa_length_le n h0 h1
  have XA := fun w => scan_any (showB n) 0 w (by omega)
  have TA := fun w => scan_any t 0 w (by omega)
  rw [hr] at TA
  rw [XS, if_pos hf] at XA
  rw [show (decide (-9007199254740991 ≤ n) && decide (n ≤ 9007199254740991)) = true by simp [hf.1, hf.2]] at FA
  have q : ¬ 300 < (t.size : Int) := by omega
  simp only [ret3] at XA TA
  have HS := Lib.hid SA
  have HF := Lib.hid FA
  have HX := Lib.hid XA
  have HT := Lib.hid TA
  have HTB := Lib.hid ht
  generalize showB n = X at HS HX hx
  clear SA FA XA TA XS hr hf h0 h1 ht
  go_enter Tryd.func4, Tryd.ntmps4
  have k0 : (k == 0) = false := by simpa using hk
  have k1 : decide (k = 0) = false := by simpa using hk
  have k2 : (k != 0) = true := by simpa using hk
  go_wp2_with (first
    | (go_at_call 5; refine HS.out.mono ?_; rintro e w1 ⟨rfl, hb1⟩)
    | (go_at_call 7; refine (HF.out _).mono ?_; rintro e w' ⟨rfl, rfl⟩)
    | (go_at_call 9; with_reducible refine (HX.out _).mono ?_; rintro e w2 ⟨rfl, hb2⟩)
    | (go_at_call 9; with_reducible refine (HT.out _).mono ?_; rintro e w3 ⟨rfl, hb3⟩))
  have hbb : Below w.heap.size w w3 := by repeat (first | exact Below.refl _ _ | refine gr_step ?_ (by assumption))
  have hle := hbb.size
  clear HS HF HX HT hb1 hb2 hb3
  refine wp_region_quiet_below (by assumption) (by kernel_rfl) ?_
  repeat (quiet_step (first
    | (go_at_call 8; exact Calls.regrown_of (lives_any _))))
  refine wpQuiet_nil ?_
  intro _ hw'
  obtain ⟨⟨nq, osq⟩, hw''⟩ := hw'
  subst hw''
  go_wp2_with fail
  go_ret
  exact ⟨rfl, hbb.trans ((below_regrown w3 _ _).mono hle)⟩
set_option maxHeartbeats 4000000 in
theorem back_yy (n : Int) (t : ByteArray) (w : World) (h0 : -9223372036854775808 ≤ n) (h1 : n ≤ 9223372036854775807) (ht : Tab w) (hs : t.size ≤ 300) (hf : -9007199254740991 ≤ n ∧ n ≤ 9007199254740991) (y e : Int) (hr : scanI t 0 = (y, e, 0)) :
    Calls Tryd.prog 4 #[.int .i64 n, .string t] w fun e w' => e = .returned (.bool true) ∧ Below w.heap.size w w' := by
  have hm : Tryd.prog.follows .mixedOrders = true := by kernel_rfl
  have SA := show_any n w h0 h1 ht
  have FA := fun w => fits_any n w
  have XS := show_scan n
  have hx : (showB n).size ≤ 21 := by rw [show_size]; exact Lib.itoa_length_le n h0 h1
  have XA := fun w => scan_any (showB n) 0 w (by omega)
  have TA := fun w => scan_any t 0 w (by omega)
  rw [hr] at TA
  rw [XS, if_pos hf] at XA
  rw [show (decide (-9007199254740991 ≤ n) && decide (n ≤ 9007199254740991)) = true by simp [hf.1, hf.2]] at FA
  have q : ¬ 300 < (t.size : Int) := by omega
  simp only [ret3] at XA TA
  obtain ⟨he0, he1, hit⟩ := scan_show t y e hr
  obtain ⟨y0, y1⟩ := scan_range t y e hr
  have hex : t.extract 0 e.toNat = showB y := by
    unfold showB
    rw [hit]
    apply ByteArray.ext
    apply Array.toList_inj.1
    simp [ByteArray.data_extract]
  have YA := fun w ht => show_any y w (by omega) (by omega) ht
  rw [← hex] at YA
  have et : e.toNat ≤ t.size := by omega
  have HEX := Lib.hid hex
  clear hit hex
  have HS := Lib.hid SA
  have HF := Lib.hid FA
  have HX := Lib.hid XA
  have HT := Lib.hid TA
  have HTB := Lib.hid ht
  have HY := Lib.hid YA
  clear YA
  generalize showB n = X at HS HX hx
  clear SA FA XA TA XS hr hf h0 h1 ht
  go_enter Tryd.func4, Tryd.ntmps4
  go_wp2_with (first
    | (go_at_call 5; refine HS.out.mono ?_; rintro e w1 ⟨rfl, hb1⟩)
    | (go_at_call 7; refine (HF.out _).mono ?_; rintro e w' ⟨rfl, rfl⟩)
    | (go_at_call 9; with_reducible refine (HX.out _).mono ?_; rintro e w2 ⟨rfl, hb2⟩)
    | (go_at_call 9; with_reducible refine (HT.out _).mono ?_; rintro e w3 ⟨rfl, hb3⟩))
  have hbb : Below w.heap.size w w3 := by repeat (first | exact Below.refl _ _ | refine gr_step ?_ (by assumption))
  have hle := hbb.size
  clear HS HF HX HT hb1 hb2 hb3
  refine wp_region_quiet_below (by assumption) (by kernel_rfl) ?_
  repeat (quiet_step (first
    | (go_at_call 5; exact Calls.regrown_of (HY.out _ (tab_below HTB.out (hbb.trans ((below_regrown w3 _ _).mono hle)))))
    | (go_at_call 8; exact Calls.regrown_of (lives_any _))))
  refine wpQuiet_nil ?_
  intro _ hw'
  obtain ⟨⟨nq, osq⟩, hw''⟩ := hw'
  subst hw''
  go_wp2_with fail
  go_ret
  exact ⟨rfl, hbb.trans ((below_regrown w3 _ _).mono hle)⟩
theorem numBack_walk (n : Int) (t : ByteArray) (w : World) (hwf : (Lit.int .i64 n).wf = true) (_ : t.size ≤ maxLen) (ht : Tab w) :
    Calls Tryd.prog 4 #[.int .i64 n, .string t] w fun e w' => e = .returned (.bool true) ∧ Below w.heap.size w w' := by
  have h2 : -9223372036854775808 ≤ n ∧ n ≤ 9223372036854775807 := by simpa [Lit.wf, IntKind.min, IntKind.max, IntKind.signed, IntKind.bits] using hwf
  by_cases hs : 300 < t.size
  · exact back_long n t w hs
  · obtain ⟨y, e, k, hr⟩ : ∃ y e k, scanI t 0 = (y, e, k) := ⟨_, _, _, rfl⟩
    by_cases hf : -9007199254740991 ≤ n ∧ n ≤ 9007199254740991
    · rcases scan_codes t y e k hr with rfl | hk
      · exact back_yy n t w h2.1 h2.2 ht (by omega) hf y e hr
      · exact back_yn n t w h2.1 h2.2 ht (by omega) hf y e k hk hr
    · rcases scan_codes t y e k hr with rfl | hk
      · exact back_ny n t w h2.1 h2.2 ht (by omega) hf y e hr
      · exact back_nn n t w h2.1 h2.2 ht (by omega) hf y e k hk hr
end Go.Proofs.YtfkhkmfeiopmbaaDoor
