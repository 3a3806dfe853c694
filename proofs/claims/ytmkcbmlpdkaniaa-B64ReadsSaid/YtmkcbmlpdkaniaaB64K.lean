/- lives of layer 2; the laws B64Writes, B64Reads, B64Back: they return true. -/
import Derived.Test.YtmkcbmlpdkaniaaB64J
namespace Go.Proofs.Ytmkcbmlpdkaniaa
open Go.RowKit
theorem b64_ex1 : decP false ⟨#[47, 120]⟩ = (⟨#[]⟩, 6) := by decide +kernel
theorem b64_ex2 : decP false ⟨#[65]⟩ = (⟨#[]⟩, 5) := by decide +kernel
theorem b64_ex3 : encB false ⟨#[255]⟩ = ⟨#[47, 119]⟩ := by decide +kernel
theorem b64_ex4 : encB true ⟨#[255]⟩ = ⟨#[95, 119]⟩ := by decide +kernel
theorem lives_any (w : World) :
    Calls Try.prog 6 #[] w fun e w' => e = .returned (.bool true) ∧ Below w.heap.size w w' := by
  go_enter Try.func6, Try.ntmps6
  go_wp2_with (first
    | (go_at_call 10; with_reducible refine (decode_any false ⟨#[47, 120]⟩ _ (by decide)).mono ?_; rw [b64_ex1]; simp only [retD]; rintro e w' ⟨rfl, hb⟩)
    | (go_at_call 10; with_reducible refine (decode_any false ⟨#[65]⟩ _ (by decide)).mono ?_; rw [b64_ex2]; simp only [retD]; rintro e w' ⟨rfl, hb⟩)
    | (go_at_call 7; with_reducible refine (encode_any false ⟨#[255]⟩ _ (by decide)).mono ?_; rw [b64_ex3]; rintro e w' ⟨rfl, hb⟩)
    | (go_at_call 7; with_reducible refine (encode_any true ⟨#[255]⟩ _ (by decide)).mono ?_; rw [b64_ex4]; rintro e w' ⟨rfl, hb⟩))
  go_ret
  refine ⟨rfl, ?_⟩
  repeat (first | exact Below.refl _ _ | refine gr_step ?_ (by assumption))
theorem size_enc (s : ByteArray) (h : s.size ≤ 400) : sizeI (s.size : Int) = ((encN s.size : Nat) : Int) := by
  unfold sizeI encN
  rw [if_neg (by omega)]
  omega
theorem b64Writes_walk (url : Bool) (s : ByteArray) (n : Int) (w : World) (_ : s.size ≤ maxLen) (_ : (Lit.int .i64 n).wf = true) :
    Calls Try.prog 3 #[.bool url, .string s, .int .i64 n] w fun e w' => e = .returned (.bool true) ∧ Below w.heap.size w w' := by
  by_cases h : 300 < s.size
  · have q : 300 < (s.size : Int) := by omega
    go_enter Try.func3, Try.ntmps3
    go_wp2_with (go_at_call 6; refine (lives_any _).mono ?_; rintro e w' ⟨rfl, hb⟩)
    go_ret
    exact ⟨rfl, by assumption⟩
  · have q : ¬ 300 < (s.size : Int) := by omega
    have hs : s.size ≤ 400 := by omega
    have EA := fun w => encode_any url s w hs
    have RA := fun w => rencode_any url s w hs
    have hes := enc_size url s
    have SZ := size_enc s hs
    have hN : encN s.size ≤ 600 := by unfold encN; omega
    generalize encB url s = T at EA RA hes
    generalize encN s.size = N at hes SZ hN
    by_cases h1 : n < 0 ∨ 1099511627776 < n
    · have HS := Lib.hid (show sizeI n = 0 from if_pos h1)
      clear hes SZ
      by_cases n0 : n < 0
      · clear h1
        go_enter Try.func3, Try.ntmps3
        go_wp2_with (first
          | (go_at_call 7; refine (EA _).mono ?_; rintro e w' ⟨rfl, hb⟩)
          | (go_at_call 8; refine (RA _).mono ?_; rintro e w' ⟨rfl, hb⟩)
          | (go_at_call 9; refine (size_any n _).mono ?_; rw [HS.out]; rintro e w' ⟨rfl, rfl⟩)
          | (go_at_call 6; refine (lives_any _).mono ?_; rintro e w' ⟨rfl, hb⟩))
        all_goals
          go_ret
          refine ⟨rfl, ?_⟩
          repeat (first | exact Below.refl _ _ | refine gr_step ?_ (by assumption))
      · have n1 : 1099511627776 < n := by omega
        go_enter Try.func3, Try.ntmps3
        go_wp2_with (first
          | (go_at_call 7; refine (EA _).mono ?_; rintro e w' ⟨rfl, hb⟩)
          | (go_at_call 8; refine (RA _).mono ?_; rintro e w' ⟨rfl, hb⟩)
          | (go_at_call 9; refine (size_any n _).mono ?_; rw [HS.out]; rintro e w' ⟨rfl, rfl⟩)
          | (go_at_call 6; refine (lives_any _).mono ?_; rintro e w' ⟨rfl, hb⟩))
        all_goals
          go_ret
          refine ⟨rfl, ?_⟩
          repeat (first | exact Below.refl _ _ | refine gr_step ?_ (by assumption))
    · have n0 : ¬ n < 0 := by omega
      have n1 : ¬ 1099511627776 < n := by omega
      have S0 : sizeI n = n / 3 * 4 + n % 3 + min (n % 3) 1 := by
        unfold sizeI
        rw [if_neg h1]
        omega
      have t1 : n.tdiv 3 = n / 3 := Int.tdiv_eq_ediv_of_nonneg (by omega)
      have t2 : n.tmod 3 = n % 3 := Int.tmod_eq_emod_of_nonneg (by omega)
      have HS := Lib.hid S0
      have HZ := Lib.hid SZ
      clear S0 SZ
      go_enter Try.func3, Try.ntmps3
      go_wp2_with (first
        | (go_at_call 7; refine (EA _).mono ?_; rintro e w' ⟨rfl, hb⟩)
        | (go_at_call 8; refine (RA _).mono ?_; rintro e w' ⟨rfl, hb⟩)
        | (go_at_call 9; with_reducible refine (size_any (s.size : Int) _).mono ?_; rw [HZ.out]; rintro e w' ⟨rfl, rfl⟩)
        | (go_at_call 9; refine (size_any n _).mono ?_; rw [HS.out]; rintro e w' ⟨rfl, rfl⟩)
        | (go_at_call 6; refine (lives_any _).mono ?_; rintro e w' ⟨rfl, hb⟩))
      all_goals
        go_ret
        refine ⟨rfl, ?_⟩
        repeat (first | exact Below.refl _ _ | refine gr_step ?_ (by assumption))
theorem back_dec (url : Bool) (s : ByteArray) : decP url (encB url s) = (s, 0) := by
  unfold decP
  rw [okB_yes (enc_ok url s), if_pos rfl, enc_size, if_neg (back_form s), if_pos (back_rest url s), back_same]
theorem dec_cases (url : Bool) (t : ByteArray) : (∃ k : Int, decP url t = (⟨#[]⟩, k) ∧ k ≠ 0 ∧ 0 ≤ k ∧ k ≤ 6) ∨ (decP url t = (decB url t, 0) ∧ encB url (decB url t) = t) := by
  unfold decP
  by_cases h : okB url t = true
  · rw [if_pos h]
    by_cases h4 : t.size % 4 = 1
    · rw [if_pos h4]; exact .inl ⟨5, rfl, by decide, by decide, by decide⟩
    · rw [if_neg h4]
      by_cases hr : decR url t = 0
      · rw [if_pos hr]
        refine .inr ⟨rfl, again_same url t ?_ h4 hr⟩
        intro i hi
        unfold okB at h
        rw [List.all_eq_true] at h
        simpa using h i (List.mem_range.2 hi)
      · rw [if_neg hr]; exact .inl ⟨6, rfl, by decide, by decide, by decide⟩
  · rw [if_neg h]; exact .inl ⟨6, rfl, by decide, by decide, by decide⟩
theorem b64Reads_walk (url : Bool) (t : ByteArray) (w : World) (_ : t.size ≤ maxLen) :
    Calls Try.prog 4 #[.bool url, .string t] w fun e w' => e = .returned (.bool true) ∧ Below w.heap.size w w' := by
  by_cases h : 300 < t.size
  · have q : 300 < (t.size : Int) := by omega
    go_enter Try.func4, Try.ntmps4
    go_wp2_with (go_at_call 6; refine (lives_any _).mono ?_; rintro e w' ⟨rfl, hb⟩)
    go_ret
    exact ⟨rfl, by assumption⟩
  · have q : ¬ 300 < (t.size : Int) := by omega
    have hs : t.size ≤ 400 := by omega
    have DA := fun w => decode_any url t w hs
    have RA := fun w => rdecode_any url t w hs
    generalize decP url t = r at DA RA
    obtain ⟨r1, r2⟩ := r
    simp only [retD] at DA RA
    go_enter Try.func4, Try.ntmps4
    go_wp2_with (first
      | (go_at_call 10; refine (DA _).mono ?_; rintro e w' ⟨rfl, hb⟩)
      | (go_at_call 11; refine (RA _).mono ?_; rintro e w' ⟨rfl, hb⟩)
      | (go_at_call 6; refine (lives_any _).mono ?_; rintro e w' ⟨rfl, hb⟩))
    go_ret
    refine ⟨rfl, ?_⟩
    repeat (first | exact Below.refl _ _ | refine gr_step ?_ (by assumption))
theorem b64Back_walk (url : Bool) (s t : ByteArray) (w : World) (_ : s.size ≤ maxLen) (_ : t.size ≤ maxLen) :
    Calls Try.prog 5 #[.bool url, .string s, .string t] w fun e w' => e = .returned (.bool true) ∧ Below w.heap.size w w' := by
  by_cases h : 300 < s.size ∨ 300 < t.size
  · by_cases h1 : 300 < s.size
    · have q : 300 < (s.size : Int) := by omega
      go_enter Try.func5, Try.ntmps5
      go_wp2_with (go_at_call 6; refine (lives_any _).mono ?_; rintro e w' ⟨rfl, hb⟩)
      go_ret
      exact ⟨rfl, by assumption⟩
    · have q1 : ¬ 300 < (s.size : Int) := by omega
      have q : 300 < (t.size : Int) := by omega
      go_enter Try.func5, Try.ntmps5
      go_wp2_with (go_at_call 6; refine (lives_any _).mono ?_; rintro e w' ⟨rfl, hb⟩)
      go_ret
      exact ⟨rfl, by assumption⟩
  · have q1 : ¬ 300 < (s.size : Int) := by omega
    have q2 : ¬ 300 < (t.size : Int) := by omega
    have hes : (encB url s).size ≤ 400 := by rw [enc_size]; unfold encN; omega
    have EA := fun w => encode_any url s w (by omega)
    have DS := fun w => decode_any url (encB url s) w hes
    rw [back_dec] at DS
    have DT := fun w => decode_any url t w (by omega)
    simp only [retD] at DS
    generalize encB url s = X at EA DS
    rcases dec_cases url t with ⟨k, hk, k0, k1, k2⟩ | ⟨hk, he⟩
    · rw [hk] at DT
      simp only [retD] at DT
      have e0 : (k == 0) = false := by simpa using k0
      clear hk hes
      go_enter Try.func5, Try.ntmps5
      go_wp2_with (first
        | (go_at_call 7; with_reducible refine (EA _).mono ?_; rintro e w' ⟨rfl, hb⟩)
        | (go_at_call 10; with_reducible refine (DS _).mono ?_; rintro e w' ⟨rfl, hb⟩)
        | (go_at_call 10; with_reducible refine (DT _).mono ?_; rintro e w' ⟨rfl, hb⟩)
        | (go_at_call 6; refine (lives_any _).mono ?_; rintro e w' ⟨rfl, hb⟩))
      go_ret
      refine ⟨rfl, ?_⟩
      repeat (first | exact Below.refl _ _ | refine gr_step ?_ (by assumption))
    · rw [hk] at DT
      simp only [retD] at DT
      have ET := fun w => encode_any url (decB url t) w (by rw [dec_size]; omega)
      rw [he] at ET
      generalize decB url t = Y at DT ET
      clear hk he hes
      go_enter Try.func5, Try.ntmps5
      go_wp2_with (first
        | (go_at_call 7; with_reducible refine (EA _).mono ?_; rintro e w' ⟨rfl, hb⟩)
        | (go_at_call 7; with_reducible refine (ET _).mono ?_; rintro e w' ⟨rfl, hb⟩)
        | (go_at_call 10; with_reducible refine (DS _).mono ?_; rintro e w' ⟨rfl, hb⟩)
        | (go_at_call 10; with_reducible refine (DT _).mono ?_; rintro e w' ⟨rfl, hb⟩)
        | (go_at_call 6; refine (lives_any _).mono ?_; rintro e w' ⟨rfl, hb⟩))
      go_ret
      refine ⟨rfl, ?_⟩
      repeat (first | exact Below.refl _ _ | refine gr_step ?_ (by assumption))
end Go.Proofs.Ytmkcbmlpdkaniaa
