/- esc (layer 4): four digits. -/
import Derived.Test.YtcadklhjhjbhaaaDoorEscA
namespace Go.Proofs.YtcadklhjhjbhaaaDoor
set_option maxRecDepth 20000
set_option linter.unusedSimpArgs false
set_option linter.unusedVariables false
open Go.RowKit Go.Lib Go.Shelf
attribute [local go_sem] Oper.semAt_some
/-- A digit's number to the base 16. -/
def hexv (c : Nat) : Option Nat := if 48 ≤ c ∧ c ≤ 57 then some (c - 48) else if 97 ≤ c ∧ c ≤ 102 then some (c - 87) else if 65 ≤ c ∧ c ≤ 70 then some (c - 55) else none
def at_ (L : List UInt8) (a : Nat) : Nat := (L.getD a 0).toNat
/-- So many digits from a place on, behind a number. -/
def fourAt (L : List UInt8) : Nat → Nat → Nat → Except Nat Nat
  | 0, _, n => .ok n
  | k + 1, a, n => if L.length ≤ a then .error 5 else match hexv (at_ L a) with | none => .error 11 | some d => fourAt L k (a + 1) (16 * n + d)
def digL : List UInt8 := [48, 49, 50, 51, 52, 53, 54, 55, 56, 57, 97, 98, 99, 100, 101, 102]
def lowC (c : Nat) : Nat := if 65 ≤ c ∧ c ≤ 70 then c + 32 else c
def hexI (c : Nat) : Int := match hexv c with | some d => (d : Int) | none => -1
theorem idx_low : ∀ c : Fin 256, Lib.indexByte digL (lowC c.val : Int).toNat.toUInt8 = hexI c.val := by decide +kernel
theorem hexv_lt : ∀ {c d : Nat}, hexv c = some d → d < 16 := by
  intro c d h
  unfold hexv at h
  split at h
  · cases h; omega
  · split at h
    · cases h; omega
    · split at h
      · cases h; omega
      · cases h
theorem at_get {t : ByteArray} {a : Nat} (h : a < t.size) : ((t[a]'h).toNat : Int) = (at_ t.data.toList a : Int) := byte_of h
theorem at_lt (L : List UInt8) (a : Nat) : at_ L a < 256 := (L.getD a 0).toNat_lt
theorem len_of (t : ByteArray) : t.data.toList.length = t.size := (Lib.size_eq t).symm
/-- How reading four digits ends. -/
def OutF (t : ByteArray) (a b : Nat) (sh : Value) (e : Ending) (w' : World) : Except Nat Nat → Prop
  | .ok n => e = .returned (.int .i32 (n : Int)) ∧ w'.heap[b]? = some (rdB t (a + 4) sh) ∧ n < 65536 ∧ a + 4 ≤ t.size
  | .error m => e = .panicked (pch (m : Int))
set_option maxRecDepth 100000 in
set_option maxHeartbeats 4000000 in
theorem four_any (t : ByteArray) (a b : Nat) (sh : Value) (w : World) (hb : w.heap[b]? = some (rdB t a sh)) (ht : t.size ≤ 100000) (ha : a ≤ t.size) :
    Calls Tryd.prog 76 #[.pointer (some ⟨b, 0, none⟩)] w fun e w' => Oth b w w' ∧ OutF t a b sh e w' (fourAt t.data.toList 4 a 0) := by
  obtain ⟨R, hR⟩ : ∃ R, fourAt t.data.toList 4 a 0 = R := ⟨_, rfl⟩
  rw [hR]
  go_enter Tryd.func76, Tryd.ntmps76
  go_wp2_with fail
  go_loopw [3, 6] (fun n i wr => ∃ k N : Nat, k ≤ 4 ∧ i = .int .i64 (k : Int) ∧ n = .int .i32 (N : Int) ∧ N < 16 ^ k ∧ R = fourAt t.data.toList (4 - k) (a + k) N ∧ a + k ≤ t.size ∧ wr.heap[b]? = some (rdB t (a + k) sh) ∧ Oth b w wr) (fun _ i _ => 4 - (RowKit.intOf i).toNat)
  case atStart => exact ⟨0, 0, by omega, rfl, rfl, by decide, hR.symm, ha, hb, Oth.refl b w⟩
  case round =>
    obtain ⟨k, N, hk, rfl, rfl, hN, hRk, hak, hbk, hO⟩ := hrel
    by_cases h4 : k < 4
    · have p1 : (k : Int) < 4 := by omega
      obtain ⟨m, hm⟩ : ∃ m, 4 - k = m + 1 := ⟨3 - k, by omega⟩
      have hN2 : N < 65536 := Nat.lt_of_lt_of_le hN (Nat.le_trans (Nat.pow_le_pow_right (by decide) hk) (by decide))
      rw [hm, fourAt, len_of] at hRk
      by_cases hs : a + k < t.size
      · rw [if_neg (by omega)] at hRk
        have KT := Lib.hid (fun w h => take_yes t (a + k) b sh w h ht hs)
        rw [at_get hs] at KT
        obtain ⟨C, hC⟩ : ∃ C, at_ t.data.toList (a + k) = C := ⟨_, rfl⟩
        have hC2 : C < 256 := by rw [← hC]; exact at_lt _ _
        rw [hC] at KT hRk
        have hI := idx_low ⟨C, hC2⟩
        simp only at hI
        have KI := Lib.hid (fun w => Tryd.strings_IndexByte ⟨digL.toArray⟩ (lowC C : Int) w)
        rw [show (⟨digL.toArray⟩ : ByteArray).data.toList = digL from rfl, hI] at KI
        have KY := Lib.hid (fun w => must_yes 11 w)
        have KN := Lib.hid (fun w => must_no 11 w)
        have hOt := Lib.hid hO
        have HK := Lib.hid hbk
        have HR := Lib.hid hRk
        have HN := Lib.hid hN
        clear hI hC hR hb hO hbk hRk hN
        by_cases hU : 65 ≤ C ∧ C ≤ 70
        · have e1 : lowC C = C + 32 := by unfold lowC; rw [if_pos hU]
          rw [e1] at KI
          have q1 : (65 : Int) ≤ (C : Int) := by omega
          have q2 : (C : Int) ≤ 70 := by omega
          have q3 : IntKind.u8.wrap ((C : Int) + 32) = (C : Int) + 32 := IntWalk.u8_in _ (by omega)
          have q4 : hexv C = some (C - 55) := by unfold hexv; rw [if_neg (by omega), if_neg (by omega), if_pos hU]
          have q5 : hexI C = ((C - 55 : Nat) : Int) := by unfold hexI; rw [q4]
          rw [q4] at HR
          rw [q5] at KI
          obtain ⟨d, hd⟩ : ∃ d, C - 55 = d := ⟨_, rfl⟩
          have hd16 : d < 16 := by omega
          rw [hd] at KI HR
          simp only at HR
          have q6 : IntKind.i32.wrap (16 * (N : Int)) = 16 * (N : Int) := IntWalk.i32_in _ (by omega)
          have q7 : IntKind.i32.wrap (d : Int) = (d : Int) := IntWalk.i32_in _ (by omega)
          have q8 : IntKind.i32.wrap (16 * (N : Int) + (d : Int)) = 16 * (N : Int) + (d : Int) := IntWalk.i32_in _ (by omega)
          go_wp2_with fail
          refine (KT.out _ HK.out).mono ?_
          rintro e w1 ⟨rfl, hb1, ho1⟩
          go_wp2_with fail
          refine (KI.out _).mono ?_
          rintro e w2 ⟨rfl, rfl⟩
          go_wp2_with fail
          refine (KY.out _).mono ?_
          rintro e w3 ⟨rfl, rfl⟩
          go_wp2_with fail
          go_roundw
          case rel => exact ⟨k + 1, 16 * N + d, by omega, congrArg (Value.int .i64) (by omega), congrArg (Value.int .i32) (by omega), by have := HN.out; rw [Nat.pow_succ]; omega, by rw [HR.out, show 4 - (k + 1) = m by omega, Nat.add_assoc], by omega, by rw [← Nat.add_assoc]; exact hb1, hOt.out.trans ho1⟩
          case measure => simp [RowKit.intOf]; omega
        · have e1 : lowC C = C := by unfold lowC; rw [if_neg hU]
          rw [e1] at KI
          cases q4 : hexv C with
          | none =>
            have q5 : hexI C = -1 := by unfold hexI; rw [q4]
            rw [q4] at HR
            rw [q5] at KI
            simp only at HR
            by_cases q1 : (65 : Int) ≤ (C : Int)
            · have q2 : ¬ (C : Int) ≤ 70 := by omega
              go_wp2_with fail
              refine (KT.out _ HK.out).mono ?_
              rintro e w1 ⟨rfl, hb1, ho1⟩
              go_wp2_with fail
              refine (KI.out _).mono ?_
              rintro e w2 ⟨rfl, rfl⟩
              go_wp2_with fail
              refine (KN.out _).mono ?_
              rintro e w3 ⟨rfl, rfl⟩
              go_wp2_with fail
              exact ⟨rfl, hOt.out.trans ho1, by rw [HR.out]; exact rfl⟩
            · skip
              go_wp2_with fail
              refine (KT.out _ HK.out).mono ?_
              rintro e w1 ⟨rfl, hb1, ho1⟩
              go_wp2_with fail
              refine (KI.out _).mono ?_
              rintro e w2 ⟨rfl, rfl⟩
              go_wp2_with fail
              refine (KN.out _).mono ?_
              rintro e w3 ⟨rfl, rfl⟩
              go_wp2_with fail
              exact ⟨rfl, hOt.out.trans ho1, by rw [HR.out]; exact rfl⟩
          | some d =>
            have hd16 := hexv_lt q4
            have q5 : hexI C = (d : Int) := by unfold hexI; rw [q4]
            rw [q4] at HR
            rw [q5] at KI
            simp only at HR
            have q6 : IntKind.i32.wrap (16 * (N : Int)) = 16 * (N : Int) := IntWalk.i32_in _ (by omega)
            have q7 : IntKind.i32.wrap (d : Int) = (d : Int) := IntWalk.i32_in _ (by omega)
            have q8 : IntKind.i32.wrap (16 * (N : Int) + (d : Int)) = 16 * (N : Int) + (d : Int) := IntWalk.i32_in _ (by omega)
            by_cases q1 : (65 : Int) ≤ (C : Int)
            · have q2 : ¬ (C : Int) ≤ 70 := by omega
              go_wp2_with fail
              refine (KT.out _ HK.out).mono ?_
              rintro e w1 ⟨rfl, hb1, ho1⟩
              go_wp2_with fail
              refine (KI.out _).mono ?_
              rintro e w2 ⟨rfl, rfl⟩
              go_wp2_with fail
              refine (KY.out _).mono ?_
              rintro e w3 ⟨rfl, rfl⟩
              go_wp2_with fail
              go_roundw
              case rel => exact ⟨k + 1, 16 * N + d, by omega, congrArg (Value.int .i64) (by omega), congrArg (Value.int .i32) (by omega), by have := HN.out; rw [Nat.pow_succ]; omega, by rw [HR.out, show 4 - (k + 1) = m by omega, Nat.add_assoc], by omega, by rw [← Nat.add_assoc]; exact hb1, hOt.out.trans ho1⟩
              case measure => simp [RowKit.intOf]; omega
            · skip
              go_wp2_with fail
              refine (KT.out _ HK.out).mono ?_
              rintro e w1 ⟨rfl, hb1, ho1⟩
              go_wp2_with fail
              refine (KI.out _).mono ?_
              rintro e w2 ⟨rfl, rfl⟩
              go_wp2_with fail
              refine (KY.out _).mono ?_
              rintro e w3 ⟨rfl, rfl⟩
              go_wp2_with fail
              go_roundw
              case rel => exact ⟨k + 1, 16 * N + d, by omega, congrArg (Value.int .i64) (by omega), congrArg (Value.int .i32) (by omega), by have := HN.out; rw [Nat.pow_succ]; omega, by rw [HR.out, show 4 - (k + 1) = m by omega, Nat.add_assoc], by omega, by rw [← Nat.add_assoc]; exact hb1, hOt.out.trans ho1⟩
              case measure => simp [RowKit.intOf]; omega
      · rw [if_pos (by omega)] at hRk
        have KT := Lib.hid (fun w h => take_no t (a + k) b sh w h ht (by omega))
        have HK := Lib.hid hbk
        have hOt := Lib.hid hO
        have HR := Lib.hid hRk
        clear hbk hO hRk hR hb
        go_wp2_with fail
        refine (KT.out _ HK.out).mono ?_
        rintro e w1 ⟨rfl, ho1⟩
        go_wp2_with fail
        exact ⟨rfl, hOt.out.trans ho1, by rw [HR.out]; exact rfl⟩
    · obtain rfl : k = 4 := by omega
      have p1 : ¬ (4 : Int) < 4 := by omega
      have HK := Lib.hid hbk
      clear hbk hb hR
      go_wp2_with fail
      go_ret
      exact ⟨hO, rfl, HK.out, hN, hak⟩
end Go.Proofs.YtcadklhjhjbhaaaDoor
