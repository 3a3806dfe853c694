/- The reference's Cut (layer 16): what it answers. -/
import Derived.Test.YtmjbhmpogpagjaaBlkR
import Derived.RangeFuncBox
namespace Go.Proofs.Ytmjbhmpogpagjaa
set_option maxRecDepth 20000
set_option linter.unusedSimpArgs false
set_option linter.unusedVariables false
open Go.RowKit
theorem extract_take {r : List UInt8} {n : Nat} : Value.string ((⟨r.toArray⟩ : ByteArray).extract 0 n) = strV (r.take n) := by
  unfold strV
  congr 1
  apply ByteArray.ext
  rw [ByteArray.data_extract]
  apply Array.ext'
  rw [Array.toList_extract, List.extract_eq_take_drop]
  simp
set_option maxHeartbeats 4000000 in
set_option maxRecDepth 20000 in
theorem cut_any (size : Nat) (L : List UInt8) (w : World) (h1 : 1 ≤ size) (h2 : size ≤ 256) (hL : L.length ≤ 10000) :
    Calls Try.prog 29 #[strV L, .int .i64 (size : Int)] w fun e w' => ∃ v bl q, e = .returned (.tuple #[v, strV q]) ∧ w'.ownsRow w.heap.size 9 1 v bl.length (bl.map strV) ∧ Cuts size L bl q ∧ Below w.heap.size w w' := by
  obtain ⟨i0, hi, hz0, hz1, hz2⟩ := info_parts Try.info_str
  go_enter Try.func29, Try.ntmps29
  go_wp2_with fail
  go_loopw [0, 6] (fun x v W => ∃ bl : List (List UInt8), ∃ r : List UInt8, x = strV r ∧ L = bl.flatten ++ r ∧ (∀ b ∈ bl, b.length = size) ∧ W.ownsRow w.heap.size 9 1 v bl.length (bl.map strV) ∧ Below w.heap.size w W) (fun x _ _ => match x with | .string S => S.size | _ => 0)
  case atStart => exact ⟨[], L, rfl, rfl, by simp, World.ownsRow_nil _ _ _ _, Below.refl _ _⟩
  case round =>
    obtain ⟨bl, r, rfl, hQ, hall, hown, hbe⟩ := hrel
    have hm := flat_many (by omega) hall
    have hl := congrArg List.length hQ
    rw [List.length_append] at hl
    obtain ⟨R, hR⟩ : ∃ R : ByteArray, R = ⟨r.toArray⟩ := ⟨_, rfl⟩
    have hRz : R.size = r.length := by rw [hR]; rfl
    rw [show strV r = .string R by rw [hR]; rfl]
    have HQ := Lib.hid hQ
    have HA := Lib.hid hall
    have HR := Lib.hid hR
    have HB := Lib.hid hbe
    clear hQ hall hR
    have hs1 : (1 : Int) ≤ (size : Int) := by omega
    have hs2 : (size : Int) ≤ 256 := by omega
    by_cases hlt : size ≤ r.length
    · have hlt' : (size : Int) ≤ (r.length : Int) := by omega
      have HW := Lib.hid hbe.size
      have HOL := Lib.hid hown.lt
      have hws := hbe.size
      clear hl
      have hm2 : bl.length ≤ 10000 := by have h := congrArg List.length HQ.out; rw [List.length_append] at h; omega
      clear hbe hm
      go_wp2_with (at_builtin; refine wpList_append_own _ rfl (.tmp 11) (.tmp 15) 22 rfl w.heap.size 9 i0 (.string ByteArray.empty) 1 16 Try.underlying22 hi hz0 hz1 hz2 rfl (by decide) u6 bl.length _ (by simp [Act.eval]) (by exact hown.alloc _) ⟨wr.heap.size, 0, none⟩ 1 1 [.string (R.extract 0 size)] (by simp [Act.eval]) rfl (by exact news_new wr #[_] _) (by simp [Value.oneCell']) (by unfold maxLen; omega) (by omega) (by show _ ≤ (wr.heap.push _).size; rw [Array.size_push]; omega) ?_; intro v6 w6 hown6 hgr6 _)
      have e1 : Value.string (R.extract 0 size) = strV (r.take size) := by rw [HR.out, extract_take]
      have e2 : Value.string (R.extract size r.length) = strV (r.drop size) := by rw [HR.out, extract_str]
      have hb6 : Below w.heap.size w w6 := (HB.out.alloc hws _).grown hgr6 (by show _ ≤ (wr.heap.push _).size; rw [Array.size_push]; omega) (fun x hx => (HOL.out x hx).1)
      rw [e1] at hown6
      have hown7 : w6.ownsRow w.heap.size 9 1 v6 (bl ++ [r.take size]).length ((bl ++ [r.take size]).map strV) := by
        rw [List.length_append, List.map_append, List.map_cons, List.map_nil]
        exact hown6
      have hd := List.take_append_drop size r
      have hdl : (r.drop size).length = r.length - size := List.length_drop
      go_roundw
      case rel =>
        refine ⟨bl ++ [r.take size], r.drop size, e2, by rw [HQ.out, List.flatten_append]; simp [hd], ?_, hown7, hb6⟩
        intro x hx
        rcases List.mem_append.1 hx with hx | hx
        · exact HA.out x hx
        · have e : x = r.take size := by simpa using hx
          rw [e, List.length_take]; omega
      case measure =>
        rw [e2]
        show (⟨(r.drop size).toArray⟩ : ByteArray).size < R.size
        rw [hRz, ba_size]
        omega
    · have hlt' : (r.length : Int) < (size : Int) := by omega
      have HO := Lib.hid hown
      clear hbe hm hl hown
      go_wp2_with fail
      go_ret2
      refine ⟨u6, bl, r, ?_, HO.out, ⟨HQ.out, HA.out, by omega⟩, HB.out⟩
      rw [HR.out]
      rfl
end Go.Proofs.Ytmjbhmpogpagjaa
