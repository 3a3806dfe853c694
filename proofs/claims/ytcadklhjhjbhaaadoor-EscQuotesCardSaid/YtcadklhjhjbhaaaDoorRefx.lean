/- What the reference of layer 1 answers, for other seats: digit, Hex (XRefo's first part). -/
import Derived.Test.YtcadklhjhjbhaaaDoorAid
import Derived.Laws.BitsAllLaws
import Derived.Laws.Bits64
import Derived.IntWalk
import Derived.Lib.Bytealg
import Derived.Deep.RegionLaw
import Derived.Deep.AppendLies
namespace Go.Proofs.YtcadklhjhjbhaaaDoor
set_option maxRecDepth 20000
set_option linter.unusedSimpArgs false
set_option linter.unusedVariables false
open Go.RowKit
/-- A digit to the base 16. -/
def hexd (x : Int) : Int := if x < 10 then x + 48 else x + 87
theorem digit_any (x : Int) (w : World) (x0 : 0 ≤ x) (x1 : x < 16) :
    Calls Tryd.prog 65 #[.int .u8 x] w fun e w' => e = .returned (.int .u8 (hexd x)) ∧ w = w' := by
  by_cases h : x < 10
  · have E : Hid (hexd x = x + 48) := if_pos h
    go_enter Tryd.func65, Tryd.ntmps65
    go_wp2
    go_ret
    exact ⟨ret_int (by rw [E.out]; omega), rfl⟩
  · have E : Hid (hexd x = x + 87) := if_neg h
    go_enter Tryd.func65, Tryd.ntmps65
    go_wp2
    go_ret
    exact ⟨ret_int (by rw [E.out]; omega), rfl⟩
theorem Tryd.rinfo_u8 : (Tryd.prog.info? 5).map (fun i => (i.zero, i.size, i.bytes)) = some (some (.int .u8 0), 1, 1) := by kernel_rfl
/-- Two digits of each byte. -/
def hexB (b : UInt8) : List UInt8 := [ofI (hexd ((b.toNat : Int) / 16)), ofI (hexd ((b.toNat : Int) % 16))]
def hexL (l : List UInt8) : List UInt8 := l.flatMap hexB
theorem hexd_bd (x : Int) (x0 : 0 ≤ x) (x1 : x < 16) : 48 ≤ hexd x ∧ hexd x < 103 := by unfold hexd; split <;> omega
theorem byte_bd (b : UInt8) : 0 ≤ (b.toNat : Int) ∧ (b.toNat : Int) < 256 := by have := b.toNat_lt; omega
theorem hexB_cells (b : UInt8) : [Value.int .u8 (hexd ((b.toNat : Int) / 16)), Value.int .u8 (hexd ((b.toNat : Int) % 16))] = (hexB b).map bc := by
  obtain ⟨b0, b1⟩ := byte_bd b
  have h1 := hexd_bd ((b.toNat : Int) / 16) (by omega) (by omega)
  have h2 := hexd_bd ((b.toNat : Int) % 16) (by omega) (by omega)
  unfold hexB
  rw [List.map_cons, List.map_cons, List.map_nil, bc_ofI _ (by omega) (by omega), bc_ofI _ (by omega) (by omega)]
theorem take_bytes (s : ByteArray) (k : Nat) (h : k < s.size) : s.data.toList.take (k + 1) = s.data.toList.take k ++ [s[k]] := by
  rw [List.take_succ_eq_append_getElem (by simpa using h)]; rfl
theorem hexL_snoc (l : List UInt8) (b : UInt8) : hexL (l ++ [b]) = hexL l ++ hexB b := by simp [hexL]
theorem rhex_any (s : ByteArray) (w : World) (hs : s.size ≤ 100000) :
    Calls Tryd.prog 49 #[.string s] w fun e w' => e = .returned (.string ⟨(hexL s.data.toList).toArray⟩) ∧ Below w.heap.size w w' := by
  obtain ⟨i0, hi, hz0, hz1, hz2⟩ := info_parts Tryd.rinfo_u8
  go_enter Tryd.func49, Tryd.ntmps49
  go_wp2_with fail
  go_loopw [3, 4] (fun v i wr => ∃ k : Nat, k ≤ s.size ∧ i = .int .i64 k ∧ wr.ownsRow w.heap.size 5 1 v (2 * k) ((hexL (s.data.toList.take k)).map bc) ∧ Below w.heap.size w wr) (fun _ i _ => s.size - (intOf i).toNat)
  case atStart => exact ⟨0, by omega, rfl, World.ownsRow_nil _ _ _ _, Below.refl _ _⟩
  case round =>
    obtain ⟨k, hk, rfl, hown, hb⟩ := hrel
    by_cases hlt : k < s.size
    · have hT := Lib.hid (take_bytes s k hlt)
      obtain ⟨b0, b1⟩ := byte_bd s[k]
      have w1 : IntKind.u8.wrap ((s[k].toNat : Int) / 16) = (s[k].toNat : Int) / 16 := by rw [IntKind.wrap_u8']; omega
      have w2 : (s[k].toNat : Int).tmod 16 = (s[k].toNat : Int) % 16 := Int.tmod_eq_emod_of_nonneg b0
      have hli : (k : Int) < (s.size : Int) := by omega
      go_wp2_with fail
      go_region_held3 (fun _ => True) (first | trivial | go_keep) (first
        | (go_at_call 65; go_must (refine (digit_any _ _ (by omega) (by omega)).mono ?_); rintro e w' ⟨rfl, rfl⟩)
        | (refine step_append_own (by rfl) (.tmp 11) (.tmp 22) 51 (by rfl) w.heap.size 5 i0 (.int .u8 0) 1 1 Tryd.underlying51 hi hz0 hz1 hz2 rfl (by decide) _ (2 * k) _ (by simp [Act.eval]; rfl) (by exact hown.alloc _) ⟨wr.heap.size, 0, none⟩ 2 2 [.int .u8 (hexd ((s[k].toNat : Int) / 16)), .int .u8 (hexd ((s[k].toNat : Int) % 16))] (by simp [Act.eval]) rfl (by exact news_new wr #[_, _] _) (by simp [Value.oneCell']) (by unfold maxLen; omega) (by omega) (by have := hb.size; simp; omega) ?_; intro v2 w2 hown2 hgrow2))
      all_goals
        go_wp2_with fail
        go_roundw
        case rel =>
          refine ⟨k + 1, by omega, by go_num, ?_, ((hb.alloc hb.size _).drew).grown hgrow2 (by have := hb.size; simp; omega) (fun j hj => (hown.lt j hj).1)⟩
          rw [hT.out, hexL_snoc, List.map_append, ← hexB_cells]
          exact hown2
        case measure => simp [intOf]; omega
    · obtain rfl : k = s.size := by omega
      have hL : s.data.toList.take s.size = s.data.toList := List.take_of_length_le (Nat.le_of_eq Array.length_toList)
      rw [hL] at hown
      have ks := own_string (P := Tryd.prog) (t := 51) (ty := 9) Tryd.underlying51 Tryd.underlying5 Tryd.underlying9 hown
      clear hL
      go_wp2_with fail
      go_ret
      exact ⟨rfl, hb⟩
end Go.Proofs.YtcadklhjhjbhaaaDoor
