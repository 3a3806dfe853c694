/- The reference's amount and Show: what they answer. -/
import Derived.Test.YtdnkpclpcelbaaaDoorShoI
import Derived.Lib.ItoaLen
namespace Go.Proofs.YtdnkpclpcelbaaaDoor
set_option maxRecDepth 20000
set_option linter.unusedSimpArgs false
set_option linter.unusedVariables false
open Go.RowKit
/-- 'string([]byte{c})'. -/
theorem str_one {P : Program} (w : World) (d : Int) {t ty e : TypeId} (hs : P.underlying t = some (.slice e)) (he : P.underlying e = some (.int .u8)) (hd : P.underlying ty = some .string) (h0 : 0 ≤ d) (h1 : d < 256) :
    (convert t ty (.slice (some ⟨w.heap.size, 0, none⟩) 1 1)).run P (w.alloc (.cells #[.int .u8 d] e)) = .ok (.string ⟨#[ofI d]⟩) (w.alloc (.cells #[.int .u8 d] e)) :=
  run_convert_bytes_back _ t ty e ⟨w.heap.size, 0, none⟩ 1 [ofI d] hs he hd fun j hj => by
    have hj0 : j = 0 := by simp at hj; exact hj
    subst hj0
    have h := news_new w #[.int .u8 d] e 0 (.int .u8 d) rfl
    rw [h]
    have := toNat_ofI d h0 h1
    simp [this]
theorem dec_size (q : Nat) (h : q < 18446744073709551616) : (⟨(Lib.decDigits q).toArray⟩ : ByteArray).size ≤ 20 := by
  show (Lib.decDigits q).toArray.size ≤ 20
  have := Lib.nDigits_le20 q h
  rw [List.size_toArray, Lib.decDigits_length]
  exact this
theorem amount_any (n : Nat) : ∀ (w : World), n < 18446744073709551616 →
    Calls Tryd.prog 83 #[.int .u64 (n : Int)] w fun e w' => e = .returned (.string ⟨(Lib.decDigits n).toArray⟩) ∧ Below w.heap.size w w' := by
  induction n using Nat.strongRecOn with
  | _ n ih =>
    intro w hn
    obtain ⟨m, hm⟩ : ∃ m, n % 10 = m := ⟨_, rfl⟩
    obtain ⟨q, hq⟩ : ∃ q, n / 10 = q := ⟨_, rfl⟩
    have t1 : (n : Int).tmod 10 = (m : Int) := by rw [Int.tmod_eq_emod_of_nonneg (by omega)]; omega
    have t2 : (n : Int).tdiv 10 = (q : Int) := by rw [Int.tdiv_eq_ediv_of_nonneg (by omega)]; omega
    have t3 : (n : Int) % 10 = (m : Int) := by omega
    have t4 : (n : Int) / 10 = (q : Int) := by omega
    have m9 : (m : Int) < 10 := by omega
    have k1 := str_one (P := Tryd.prog) w (48 + (m : Int)) (t := 82) (ty := 9) (e := 5) Tryd.underlying82 Tryd.underlying5 Tryd.underlying9 (by omega) (by omega)
    have o8 : IntKind.u8.wrap (48 + (m : Int)) = 48 + (m : Int) := by rw [IntKind.wrap_u8']; omega
    by_cases h : n < 10
    · have p1 : (n : Int) < 10 := by omega
      have HE := Lib.hid (show (⟨#[ofI (48 + (m : Int))]⟩ : ByteArray) = ⟨(Lib.decDigits n).toArray⟩ by
        rw [Lib.decDigits, dif_pos h]
        have : ofI (48 + (m : Int)) = UInt8.ofNat (48 + n) := by unfold ofI; congr 1; omega
        rw [this])
      clear hm hq ih
      go_enter Tryd.func83, Tryd.ntmps83
      go_wp2_with fail
      go_ret
      exact ⟨ret_str HE.out, gr_alloc (Below.refl _ _) _⟩
    · have p1 : ¬ (n : Int) < 10 := by omega
      have ihq := fun w => ih q (by omega) w (by omega)
      have HE := Lib.hid (show (⟨(Lib.decDigits q).toArray⟩ : ByteArray) ++ ⟨#[ofI (48 + (m : Int))]⟩ = ⟨(Lib.decDigits n).toArray⟩ by
        have : ofI (48 + (m : Int)) = UInt8.ofNat (48 + n % 10) := by unfold ofI; congr 1; omega
        generalize hG : Lib.decDigits q = G
        rw [Lib.decDigits, dif_neg h, hq, hG, this]
        apply ByteArray.ext
        simp [ByteArray.data_append])
      have hX := dec_size q (by omega)
      clear hm hq ih
      generalize (⟨(Lib.decDigits q).toArray⟩ : ByteArray) = X at *
      have hX2 : ¬ 9223372036854775807 < X.size + 1 := by omega
      go_enter Tryd.func83, Tryd.ntmps83
      go_wp2_with (go_at_call 83; refine (ihq _).mono ?_; rintro e w' ⟨rfl, hb⟩)
      go_ret
      exact ⟨ret_str HE.out, gr_step (gr_alloc (Below.refl _ _) _) hb⟩
theorem rshow_any (n : Int) (w : World) (h0 : -9223372036854775808 ≤ n) (h1 : n ≤ 9223372036854775807) :
    Calls Tryd.prog 61 #[.int .i64 n] w fun e w' => e = .returned (.string (showB n)) ∧ Below w.heap.size w w' := by
  by_cases hn : n < 0
  · obtain ⟨m, hm⟩ : ∃ m : Nat, n.natAbs = m := ⟨_, rfl⟩
    have AM := fun w => amount_any m w (by omega)
    have HE := Lib.hid (show (⟨#[45]⟩ : ByteArray) ++ ⟨(Lib.decDigits m).toArray⟩ = showB n by
      unfold showB
      rw [Lib.itoa, if_pos hn, hm]
      apply ByteArray.ext
      simp [ByteArray.data_append])
    have hX := dec_size m (by omega)
    generalize (⟨(Lib.decDigits m).toArray⟩ : ByteArray) = X at *
    have hX2 : ¬ 9223372036854775807 < 1 + X.size := by omega
    have hx : -(n + 1) + 1 = (m : Int) := by omega
    have HX := Lib.hid hx
    have hm1 : (m : Int) ≤ 9223372036854775808 := by omega
    clear hm hx
    go_enter Tryd.func61, Tryd.ntmps61
    go_wp2_with (go_at_call 83; rw [HX.out]; refine (AM _).mono ?_; rintro e w' ⟨rfl, hb⟩)
    go_ret
    exact ⟨ret_str HE.out, hb⟩
  · obtain ⟨m, rfl⟩ : ∃ m : Nat, n = (m : Int) := ⟨n.toNat, by omega⟩
    have AM := fun w => amount_any m w (by omega)
    have HE := Lib.hid (show (⟨(Lib.decDigits m).toArray⟩ : ByteArray) = showB (m : Int) by
      unfold showB
      rw [Lib.itoa, if_neg hn]
      rfl)
    generalize (⟨(Lib.decDigits m).toArray⟩ : ByteArray) = X at *
    go_enter Tryd.func61, Tryd.ntmps61
    go_wp2_with (go_at_call 83; refine (AM _).mono ?_; rintro e w' ⟨rfl, hb⟩)
    go_ret
    exact ⟨ret_str HE.out, hb⟩
end Go.Proofs.YtdnkpclpcelbaaaDoor
