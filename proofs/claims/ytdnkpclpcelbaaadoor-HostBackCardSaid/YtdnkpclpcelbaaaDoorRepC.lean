/- the reference's Line (layer 49). -/
import Derived.Test.YtdnkpclpcelbaaaDoorRepA
namespace Go.Proofs.YtdnkpclpcelbaaaDoor
set_option maxRecDepth 20000
set_option linter.unusedSimpArgs false
set_option linter.unusedVariables false
open Go.RowKit Go.Lib
attribute [local go_sem] Oper.semAt_some
theorem ba_app (A B : List UInt8) : (⟨A.toArray⟩ : ByteArray) ++ ⟨B.toArray⟩ = ⟨(A ++ B).toArray⟩ := by
  apply ByteArray.ext
  simp [ByteArray.data_append]
theorem ba_size (A : List UInt8) : (⟨A.toArray⟩ : ByteArray).size = A.length := by rw [Lib.size_eq]
theorem txt_ne (P : List UInt8) (h : P ≠ []) : (⟨P.toArray⟩ : ByteArray).toList.isEmpty = false := by
  rw [ByteArray.toList_eq]
  cases P with
  | nil => exact absurd rfl h
  | cons => rfl
theorem str_ten (w : World) : (convert 82 9 (.slice (some ⟨w.heap.size, 0, none⟩) 1 1)).run Tryd.prog (w.alloc (.cells #[.int .u8 10] 5)) = .ok (.string ⟨#[10]⟩) (w.alloc (.cells #[.int .u8 10] 5)) :=
  run_convert_bytes_back _ 82 9 5 ⟨w.heap.size, 0, none⟩ 1 [10] Tryd.underlying82 Tryd.underlying5 Tryd.underlying9 fun j hj => by
    have hj0 : j = 0 := by simp at hj; exact hj
    subst hj0
    exact news_new w #[.int .u8 10] 5 0 (.int .u8 10) rfl
set_option maxRecDepth 100000 in
set_option maxHeartbeats 4000000 in
theorem rline_any (v : Value) (L : List (List UInt8)) (w : World) (h : TxS w v L) (hL : L.length ≤ 100) (hs : ∀ i, (L.getD i []).length ≤ 10000000) :
    Calls Tryd.prog 25 #[v] w fun e w' => e = .returned (.string ⟨(lineL L).toArray⟩) ∧ Below w.heap.size w w' := by
  obtain ⟨a, cap, rfl, hc⟩ := h
  have hacc : ∀ k, k ≤ 100 → (accL L k).length ≤ 2000000000 := fun k hk => by
    have := accL_len L 10000000 (by omega) hs k
    have h2 : k * (10000000 + 1) ≤ 100 * (10000000 + 1) := Nat.mul_le_mul_right _ hk
    omega
  have HA := Lib.hid hacc
  have HC := Lib.hid hc
  have HS := Lib.hid hs
  clear hc hacc hs
  go_enter Tryd.func25, Tryd.ntmps25
  go_wp2_with fail
  go_loopw [3, 4] (fun s p wr => wr = w ∧ ∃ k : Nat, p = .int .i64 (k : Int) ∧ k ≤ L.length ∧ s = .string ⟨(accL L k).toArray⟩)
    (fun _ p _ => L.length - (Go.RowKit.intOf p).toNat)
  case atStart => exact ⟨rfl, 0, rfl, Nat.zero_le _, rfl⟩
  case round =>
    obtain ⟨rfl, k, rfl, hk, rfl⟩ := hrel
    by_cases hlt : k < L.length
    · have p1 : (k : Int) < (L.length : Int) := by omega
      have w1 : IntKind.i64.wrap ((k : Int) + 1) = (k : Int) + 1 := IntWalk.i64_in _ (by omega)
      obtain ⟨b, off, ha, hbl, hcell⟩ := HC.out (by intro e; rw [e] at hlt; simp at hlt)
      subst ha
      have y := hcell k hlt
      have hP := HS.out k
      have hstep : accL L (k + 1) = (if k = 0 then accL L k else accL L k ++ [32]) ++ wdL (L.getD k []) := rfl
      have hak := HA.out k (by omega)
      obtain ⟨P, eP⟩ : ∃ P, L.getD k [] = P := ⟨_, rfl⟩
      rw [eP] at y hP hstep
      obtain ⟨S, eS⟩ : ∃ S : ByteArray, (⟨P.toArray⟩ : ByteArray) = S := ⟨_, rfl⟩
      obtain ⟨s0, e0⟩ : ∃ s0 : ByteArray, (⟨(accL L k).toArray⟩ : ByteArray) = s0 := ⟨_, rfl⟩
      have z0 : s0.size ≤ 2000000000 := by rw [← e0, ba_size]; exact hak
      have zS : S.size ≤ 10000000 := by rw [← eS, ba_size]; exact hP
      rw [eS] at y
      rw [e0]
      clear hcell eP hak hP
      have go2 : ∀ s1 : ByteArray, (⟨(if k = 0 then accL L k else accL L k ++ [32]).toArray⟩ : ByteArray) = s1 → (if P = [] then s1 ++ ⟨#[45]⟩ else s1 ++ S) = ⟨(accL L (k + 1)).toArray⟩ := fun s1 h1 => by
        rw [hstep, ← ba_app, h1]
        unfold wdL
        split
        · rfl
        · rw [eS]
      have HG := Lib.hid go2
      clear go2 hstep
      by_cases k0 : k = 0
      · have q0 : ¬ (0 : Int) < (k : Int) := by omega
        have h2 := HG.out s0 (by rw [if_pos k0]; exact e0)
        clear HG
        by_cases hP : P = []
        · have eS2 : S = ⟨#[]⟩ := by rw [← eS, hP]
          subst eS2
          rw [if_pos hP] at h2
          have H2 := Lib.hid h2
          have x1 : ¬ 9223372036854775807 < s0.size + 1 := by omega
          clear h2 e0 k0 eS
          go_wp2_with fail
          go_roundw
          case rel => exact ⟨trivial, k + 1, rfl, hlt, congrArg Value.string H2.out⟩
          case measure => simp [Go.RowKit.intOf]; omega
        · have hb := txt_ne P hP
          rw [eS] at hb
          rw [if_neg hP] at h2
          have H2 := Lib.hid h2
          have x1 : ¬ 9223372036854775807 < s0.size + S.size := by omega
          clear h2 e0 k0 eS hP
          go_wp2_with fail
          go_roundw
          case rel => exact ⟨trivial, k + 1, rfl, hlt, congrArg Value.string H2.out⟩
          case measure => simp [Go.RowKit.intOf]; omega
      · have q0 : (0 : Int) < (k : Int) := by omega
        have h2 := HG.out (s0 ++ ⟨#[32]⟩) (by rw [if_neg k0, ← ba_app, e0])
        clear HG
        by_cases hP : P = []
        · have eS2 : S = ⟨#[]⟩ := by rw [← eS, hP]
          subst eS2
          rw [if_pos hP] at h2
          have H2 := Lib.hid h2
          have x1 : ¬ 9223372036854775807 < s0.size + 1 := by omega
          have x2 : ¬ 9223372036854775807 < s0.size + 1 + 1 := by omega
          clear h2 e0 k0 eS
          go_wp2_with fail
          go_roundw
          case rel => exact ⟨trivial, k + 1, rfl, hlt, congrArg Value.string H2.out⟩
          case measure => simp [Go.RowKit.intOf]; omega
        · have hb := txt_ne P hP
          rw [eS] at hb
          rw [if_neg hP] at h2
          have H2 := Lib.hid h2
          have x1 : ¬ 9223372036854775807 < s0.size + 1 := by omega
          have x2 : ¬ 9223372036854775807 < s0.size + 1 + S.size := by omega
          clear h2 e0 k0 eS hP
          go_wp2_with fail
          go_roundw
          case rel => exact ⟨trivial, k + 1, rfl, hlt, congrArg Value.string H2.out⟩
          case measure => simp [Go.RowKit.intOf]; omega
    · have p1 : ¬ (k : Int) < (L.length : Int) := by omega
      obtain ⟨s0, e0⟩ : ∃ s0 : ByteArray, (⟨(accL L k).toArray⟩ : ByteArray) = s0 := ⟨_, rfl⟩
      have z0 : s0.size ≤ 2000000000 := by rw [← e0, ba_size]; exact HA.out k (by omega)
      have H2 := Lib.hid (show s0 ++ ⟨#[10]⟩ = ⟨(lineL L).toArray⟩ by rw [← e0, show lineL L = accL L L.length ++ [10] from rfl, show L.length = k by omega, ← ba_app])
      rw [e0]
      have x1 : ¬ 9223372036854775807 < s0.size + 1 := by omega
      have kt : (convert 82 9 (.slice (some ⟨wr.heap.size, 0, none⟩) 1 1)).run Tryd.prog (wr.alloc (.cells #[.int .u8 10] 5)) = .ok (.string ⟨#[10]⟩) (wr.alloc (.cells #[.int .u8 10] 5)) := str_ten _
      clear e0
      go_wp2_with fail
      go_ret
      exact ⟨ret_str H2.out, (Below.refl _ _).alloc (Nat.le_refl _) _⟩
end Go.Proofs.YtdnkpclpcelbaaaDoor
