/- utf.Next (layer 3): what it answers. -/
import Derived.Test.YtcadklhjhjbhaaaDoorUtfA
import Derived.Test.YtcadklhjhjbhaaaDoorShelf
namespace Go.Proofs.YtcadklhjhjbhaaaDoor
set_option maxRecDepth 20000
set_option linter.unusedSimpArgs false
set_option linter.unusedVariables false
open Go.RowKit Go.Lib
/-- The code point at a place. -/
def nextV (l : List UInt8) (a : Int) : Option (Nat × Nat) := if 0 ≤ a ∧ a < (l.length : Int) then nx (l.drop a.toNat) else none
def retN : Option (Nat × Nat) → Ending
  | none => .returned (.tuple #[.int .i32 0, .int .i64 0, .bool false])
  | some (n, k) => .returned (.tuple #[.int .i32 (n : Int), .int .i64 (k : Int), .bool true])
theorem extract_list (s : ByteArray) (a : Nat) : s.extract a s.size = ⟨(s.data.toList.drop a).toArray⟩ := by
  obtain ⟨⟨l⟩⟩ := s
  rw [ByteArray.extract_mk]
  congr 1
  apply Array.ext'
  exact List.take_of_length_le (by rw [List.length_drop]; exact Nat.le_refl _)
theorem next_any (s : ByteArray) (a : Int) (w : World) (hT : Lib.Utf8Tabs (Tryd.lays197_ren.g 3) (Tryd.lays197_ren.g 4) w) :
    Calls Tryd.prog 63 #[.string s, .int .i64 a] w fun e w' => e = retN (nextV s.data.toList a) ∧ Below w.heap.size w w' := by
  have hsl : s.data.toList.length = s.size := (Lib.size_eq s).symm
  by_cases h : 0 ≤ a ∧ a < (s.size : Int)
  · obtain ⟨h0, h1⟩ := h
    have hn : nextV s.data.toList a = nx (s.data.toList.drop a.toNat) := by unfold nextV; rw [if_pos ⟨h0, by rw [hsl]; exact h1⟩]
    have HN := Lib.hid hn
    clear hn
    obtain ⟨l, hl⟩ : ∃ l, s.data.toList.drop a.toNat = l := ⟨_, rfl⟩
    have hll : l.length = s.size - a.toNat := by rw [← hl, List.length_drop, hsl]
    have hne : l ≠ [] := by intro e; rw [e, List.length_nil] at hll; omega
    have KD := Tryd.utf8_DecodeRuneInString (s.extract a.toNat s.size) w hT
    have e1 : Lib.decodeGo (s.extract a.toNat s.size) = decodeL l := by
      unfold Lib.decodeGo
      rw [extract_list, hl]
      rw [if_neg (by show ¬ l.length = 0; omega)]
      rfl
    rw [e1] at KD
    have HK := Lib.hid KD
    have HL := Lib.hid hl
    have hnx : nx l = if (decodeL l).1 = 65533 ∧ (decodeL l).2 < 3 then none else some (decodeL l) := by unfold nx; rw [if_neg hne]
    clear KD e1 hl hT hll
    generalize decodeL l = d at *
    obtain ⟨r, k⟩ := d
    simp only at HK hnx
    have na : ¬ a < 0 := by omega
    have nb : ¬ (s.size : Int) ≤ a := by omega
    by_cases hr : r = 65533
    · subst hr
      by_cases hk : k < 3
      · have hk' : (k : Int) < 3 := by omega
        have HR : Hid (nx l = none) := by show nx l = none; rw [hnx, if_pos ⟨rfl, hk⟩]
        clear hnx hsl
        go_enter Tryd.func63, Tryd.ntmps63
        go_wp2_with (go_at_call 74; refine HK.out.mono ?_; rintro e w' ⟨rfl, hb⟩)
        go_ret3
        exact ⟨by rw [HN.out, HL.out, HR.out]; rfl, hb⟩
      · have hk' : ¬ (k : Int) < 3 := by omega
        have HR : Hid (nx l = some (65533, k)) := by show nx l = _; rw [hnx, if_neg (fun hh => hk hh.2)]
        clear hnx hsl
        go_enter Tryd.func63, Tryd.ntmps63
        go_wp2_with (go_at_call 74; refine HK.out.mono ?_; rintro e w' ⟨rfl, hb⟩)
        go_ret3
        exact ⟨by rw [HN.out, HL.out, HR.out]; rfl, hb⟩
    · have hr' : ¬ (r : Int) = 65533 := by omega
      have HR : Hid (nx l = some (r, k)) := by show nx l = _; rw [hnx, if_neg (fun hh => hr hh.1)]
      clear hnx hsl
      go_enter Tryd.func63, Tryd.ntmps63
      go_wp2_with (go_at_call 74; refine HK.out.mono ?_; rintro e w' ⟨rfl, hb⟩)
      go_ret3
      exact ⟨by rw [HN.out, HL.out, HR.out]; rfl, hb⟩
  · have hn : nextV s.data.toList a = none := by unfold nextV; rw [hsl, if_neg h]
    have HN := Lib.hid hn
    have hor : a < 0 ∨ (s.size : Int) ≤ a := by omega
    clear hn h hsl
    rcases hor with h | h
    · go_enter Tryd.func63, Tryd.ntmps63
      go_wp2_with fail
      go_ret3
      exact ⟨by rw [HN.out]; rfl, Below.refl _ _⟩
    · go_enter Tryd.func63, Tryd.ntmps63
      go_wp2_with fail
      all_goals
        go_ret3
        exact ⟨by rw [HN.out]; rfl, Below.refl _ _⟩
end Go.Proofs.YtcadklhjhjbhaaaDoor
