/- The law Sha5Of (layer 18): its walk. -/
import Derived.Test.YtmjbhmpogpagjaaS5O
import Derived.Test.YtmjbhmpogpagjaaTexts
namespace Go.Proofs.Ytmjbhmpogpagjaa
set_option maxRecDepth 20000
set_option linter.unusedSimpArgs false
set_option linter.unusedVariables false
open Go.RowKit
/-- The first k texts, one behind the other. -/
def allT (ss : List ByteArray) (k : Nat) : List (List UInt8) := (List.range k).map fun i => (ss.getD i ByteArray.empty).data.toList
theorem allT_len (ss : List ByteArray) (k : Nat) : (allT ss k).length = k := by simp [allT]
theorem allT_succ (ss : List ByteArray) (k : Nat) : allT ss (k + 1) = allT ss k ++ [(ss.getD k ByteArray.empty).data.toList] := by
  unfold allT
  rw [List.range_succ, List.map_append]
  rfl
theorem allT_flat (ss : List ByteArray) (k : Nat) : (allT ss (k + 1)).flatten = (allT ss k).flatten ++ (ss.getD k ByteArray.empty).data.toList := by
  rw [allT_succ, List.flatten_append]
  simp
theorem allT_get (ss : List ByteArray) (k i : Nat) (h : i < (allT ss k).length) : strV (allT ss k)[i] = .string (ss.getD i ByteArray.empty) := by
  have e : (allT ss k)[i] = (ss.getD i ByteArray.empty).data.toList := by simp [allT]
  rw [e]
  show Value.string ⟨(ss.getD i ByteArray.empty).data.toList.toArray⟩ = _
  rw [bytes_self]
theorem texts_strs {w : World} {a : Option Addr} {len cap : Nat} {ss : List ByteArray} (h : IsTexts w a len cap ss) : StrsAt w a (allT ss len) := by
  by_cases h0 : len = 0
  · subst h0
    exact .inl rfl
  · obtain ⟨b, off, rfl, hb, hc, _⟩ := texts_at h (by omega)
    refine .inr ⟨b, off, rfl, hb, fun i hi => ?_⟩
    rw [allT_get]
    exact hc i (by rw [allT_len] at hi; exact hi)
theorem cat_next (ss : List ByteArray) (k : Nat) : Value.string ((⟨(allT ss k).flatten.toArray⟩ : ByteArray) ++ ss.getD k ByteArray.empty) = strV (allT ss (k + 1)).flatten := by
  rw [allT_flat, ← cat_text, bytes_self]
theorem rhash_at (A : List UInt8) (hA : A.length ≤ 4000) (bl : List (List UInt8)) (q : List UInt8) (hc : Cuts 128 (A ++ padL A) bl q) (w : World) :
    Calls Try.prog 7 #[strV A] w fun e w' => e = .returned (strV (digL (hashL begin8 keys80 bl))) ∧ Below w.heap.size w w' := by
  refine (rhash18_any ⟨A.toArray⟩ (by exact hA) w).mono ?_
  rintro e w' ⟨bl', q', hc', rfl, hb⟩
  have e1 : (⟨A.toArray⟩ : ByteArray).data.toList = A := by simp
  have e2 : (⟨A.toArray⟩ : ByteArray).size = A.length := by rfl
  rw [e1, e2] at hc'
  obtain ⟨rfl, rfl⟩ := Cuts.one hc hc'
  exact ⟨rfl, hb⟩
set_option maxRecDepth 20000 in
set_option maxHeartbeats 4000000 in
theorem sha5Of_w (a : Option Addr) (len cap : Nat) (ss : List ByteArray) (w : World) (ht : IsTexts w a len cap ss) :
    Calls Try.prog 3 #[.slice a len cap] w fun e w' => e = .returned (.bool true) ∧ Below w.heap.size w w' := by
  have HL := Lib.hid lives18
  by_cases h10 : 10 < len
  · have p1 : (10 : Int) < (len : Int) := by omega
    clear ht
    go_enter Try.func3, Try.ntmps3
    go_wp2_with fail
    refine (HL.out _).mono ?_
    rintro e w1 ⟨rfl, hb⟩
    go_wp2_with fail
    go_ret
    exact ⟨rfl, hb⟩
  · have p1 : ¬ (10 : Int) < (len : Int) := by omega
    have HTS := Lib.hid (texts_strs ht)
    have HLN := Lib.hid (show len ≤ 10 by omega)
    have HAT := Lib.hid (fun h0 : 0 < len => texts_at ht h0)
    clear ht h10
    go_enter Try.func3, Try.ntmps3
    go_wp2_with fail
    go_loopw [3, 12] (fun x i W => ∃ k : Nat, k ≤ len ∧ i = .int .i64 (k : Int) ∧ x = strV (allT ss k).flatten ∧ (allT ss k).flatten.length ≤ 400 * k ∧ Below w.heap.size w W) (fun _ i _ => len - (intOf i).toNat)
    case atStart => exact ⟨0, by omega, rfl, rfl, by simp [allT], Below.refl _ _⟩
    case round =>
      obtain ⟨k, hk, rfl, rfl, hle, hbe⟩ := hrel
      by_cases hlt : k < len
      · have p2 : (k : Int) < (len : Int) := by omega
        obtain ⟨b, off, rfl, hb, hc, hm⟩ := HAT.out (by omega)
        have ck : wr.cell? ⟨b, off + k, none⟩ = some (.string (ss.getD k ByteArray.empty)) := (hbe.cell (p := ⟨b, off + k, none⟩) hb).trans (hc k hlt)
        have hcat := cat_next ss k
        have hfl := congrArg List.length (allT_flat ss k)
        rw [List.length_append, show (ss.getD k ByteArray.empty).data.toList.length = (ss.getD k ByteArray.empty).size from Array.length_toList] at hfl
        obtain ⟨A, hA⟩ : ∃ A : ByteArray, A = ⟨(allT ss k).flatten.toArray⟩ := ⟨_, rfl⟩
        have hAz : A.size = (allT ss k).flatten.length := by rw [hA]; rfl
        rw [show strV (allT ss k).flatten = .string A by rw [hA]; rfl]
        rw [← hA] at hcat
        generalize ss.getD k ByteArray.empty = S at *
        have HB := Lib.hid hbe
        have HK := Lib.hid hlt
        have hln := HLN.out
        have wk : IntKind.i64.wrap ((k : Int) + 1) = (k : Int) + 1 := by rw [IntKind.wrap_i64]; omega
        by_cases h4 : 400 < S.size
        · have p4 : (400 : Int) < (S.size : Int) := by omega
          clear hcat hfl hA hAz hle hc hm hk hlt hbe hln
          go_wp2_with fail
          refine (HL.out _).mono ?_
          rintro e w1 ⟨rfl, hb1⟩
          have HB1 := Lib.hid (HB.out.trans (hb1.mono HB.out.size))
          clear hb1
          go_wp2_with fail
          go_ret
          exact ⟨rfl, HB1.out⟩
        · have p4 : ¬ (400 : Int) < (S.size : Int) := by omega
          have HFL := Lib.hid (show (allT ss (k + 1)).flatten.length ≤ 400 * (k + 1) by omega)
          have HCAT := Lib.hid hcat
          have hA9 : A.size ≤ 4000 := by omega
          have hS9 : S.size ≤ 400 := by omega
          clear hcat hfl hA hAz hle hc hm hk hlt hbe hln
          go_wp2_with fail
          go_roundw
          case rel => exact ⟨k + 1, HK.out, rfl, HCAT.out, HFL.out, HB.out⟩
          case measure =>
            have := HK.out
            simp [intOf]
            omega
      · have p2 : ¬ (k : Int) < (len : Int) := by omega
        obtain rfl : k = len := by omega
        obtain ⟨bl, q, hcut⟩ := cuts_exist _ ((allT ss k).flatten ++ padL (allT ss k).flatten) (Nat.le_refl _)
        have hln := HLN.out
        have KO : Hid (Calls Try.prog 6 #[.slice a k cap] wr fun e w' => e = .returned (strV (digL (hashL begin8 keys80 bl))) ∧ Below wr.heap.size wr w') := by
          have h := hof_any cap a (allT ss k) wr (HTS.out.below hbe) (by rw [allT_len]; omega) (by omega) bl q hcut
          rw [allT_len] at h
          exact h
        have KR := Lib.hid (fun w => rhash_at (allT ss k).flatten (by omega) bl q hcut w)
        have HB := Lib.hid hbe
        generalize strV (allT ss k).flatten = xv at *
        obtain ⟨D, hD⟩ : ∃ D : ByteArray, strV (digL (hashL begin8 keys80 bl)) = .string D := ⟨_, rfl⟩
        rw [hD] at KO KR
        clear hD hcut hle hk hlt hbe hln
        go_wp2_with fail
        refine KO.out.mono ?_
        rintro e w1 ⟨rfl, hb1⟩
        have HB1 := Lib.hid (HB.out.trans (hb1.mono HB.out.size))
        clear hb1 HB KO
        go_wp2_with fail
        refine (KR.out _).mono ?_
        rintro e w2 ⟨rfl, hb2⟩
        have HB2 := Lib.hid (HB1.out.trans (hb2.mono HB1.out.size))
        clear hb2 HB1 KR
        go_wp2_with fail
        refine (HL.out _).mono ?_
        rintro e w3 ⟨rfl, hb3⟩
        have HB3 := Lib.hid (HB2.out.trans (hb3.mono HB2.out.size))
        clear hb3 HB2
        go_wp2_with fail
        go_ret
        exact ⟨rfl, HB3.out⟩
theorem sha5Of_walk (a : Option Addr) (len cap : Nat) (ss : List ByteArray) (w : World) (ht : IsTexts w a len cap ss) :
    Calls Try.prog 3 #[.slice a len cap] w fun e w' => e = .returned (.bool true) ∧ Below w.heap.size w w' := sha5Of_w a len cap ss w ht
end Go.Proofs.Ytmjbhmpogpagjaa
