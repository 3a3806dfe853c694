/- Digits to the base 16: contracts of the functions of layer 1. -/
import Derived.Test.YtmjbhmpogpagjaaAid
import Derived.Laws.BitsAllLaws
import Derived.Laws.Bits64
import Derived.IntWalk
import Derived.Deep.RegionLaw
import Derived.Deep.AppendLies
namespace Go.Proofs.Ytmjbhmpogpagjaa
set_option maxRecDepth 20000
set_option linter.unusedSimpArgs false
set_option linter.unusedVariables false
open Go.RowKit
/-- A digit to the base 16. -/
def hexd (x : Int) : Int := if x < 10 then x + 48 else x + 87
theorem and15 (x : Int) (x0 : 0 ≤ x) (x1 : x < 256) : bits .and .u8 x 15 = x % 16 := by
  rw [u8_and x 15 x0 x1 (by decide) (by decide)]
  have e : (15 : Int).toNat = 15 := rfl
  rw [e, nat_mask4]
  omega
theorem hexd_at (x : Int) (x0 : 0 ≤ x) (x1 : x < 16) (h : x.toNat < (⟨#[48, 49, 50, 51, 52, 53, 54, 55, 56, 57, 97, 98, 99, 100, 101, 102]⟩ : ByteArray).size) :
    (((⟨#[48, 49, 50, 51, 52, 53, 54, 55, 56, 57, 97, 98, 99, 100, 101, 102]⟩ : ByteArray)[x.toNat]).toNat : Int) = hexd x := by
  obtain ⟨n, rfl⟩ := Int.eq_ofNat_of_zero_le x0
  have hn : n < 16 := by omega
  match n, hn with
  | 0, _ => rfl | 1, _ => rfl | 2, _ => rfl | 3, _ => rfl | 4, _ => rfl | 5, _ => rfl | 6, _ => rfl | 7, _ => rfl
  | 8, _ => rfl | 9, _ => rfl | 10, _ => rfl | 11, _ => rfl | 12, _ => rfl | 13, _ => rfl | 14, _ => rfl | 15, _ => rfl
theorem Try.info_u8 : (Try.prog.info? 5).map (fun i => (i.zero, i.size, i.bytes)) = some (some (.int .u8 0), 1, 1) := by kernel_rfl
theorem Try.info_u32 : (Try.prog.info? 105).map (fun i => (i.zero, i.size, i.bytes)) = some (some (.int .u32 0), 1, 4) := by kernel_rfl
theorem Try.info_u64 : (Try.prog.info? 36).map (fun i => (i.zero, i.size, i.bytes)) = some (some (.int .u64 0), 1, 8) := by kernel_rfl
theorem hex1_any (v : Value) (n : Nat) (xs : List Value) (base bb off m c : Nat) (x : Int) (w : World) (x0 : 0 ≤ x) (x1 : x < 256) (hm : 0 < m) (hown : w.ownsRow base 5 1 v n xs) (hx : w.cell? ⟨bb, off, none⟩ = some (.int .u8 x))
    (hn : n ≤ 1000000) (hb : base ≤ w.heap.size) (hbb : bb < base) :
    Calls Try.prog 28 #[v, .slice (some ⟨bb, off, none⟩) m c] w fun e w' =>
      ∃ v', e = .returned v' ∧ w'.ownsRow base 5 1 v' (n + 2) (xs ++ [.int .u8 (hexd (x / 16)), .int .u8 (hexd (x % 16))]) ∧ Below base w w' := by
  have k0 : 0 ≤ x / 16 := by omega
  have k1 : x / 16 < 16 := by omega
  have k2 : 0 ≤ x % 16 := by omega
  have k3 : x % 16 < 16 := by omega
  have ha := and15 x x0 x1
  have h1 := hexd_at (x / 16) k0 k1 (by show (x / 16).toNat < 16; omega)
  have h2 := hexd_at (x % 16) k2 k3 (by show (x % 16).toNat < 16; omega)
  have hne : some bb ≠ v.ownBlock := fun e => by have := hown.lt bb e.symm; omega
  obtain ⟨i0, hi, hz0, hz1, hz2⟩ := info_parts Try.info_u8
  go_enter Try.func28, Try.ntmps28
  go_wp2
  go_region_held3 (fun w' => w'.cell? ⟨bb, off, none⟩ = some (.int .u8 x)) (first | go_keep | (rw [hgrow2.cell_far _ (by simp; omega) hne]; assumption)) ((refine step_append_own rfl (.tmp 5) (.tmp 16) 51 rfl base 5 i0 (.int .u8 0) 1 1 Try.underlying51 hi hz0 hz1 hz2 rfl (by decide) v n xs (by simp [Act.eval]) (by exact hown.alloc _) ⟨w.heap.size, 0, none⟩ 2 2 [.int .u8 (hexd (x / 16)), .int .u8 (hexd (x % 16))] (by simp [Act.eval]) rfl (by exact news_new w #[_, _] _) (by simp [Value.oneCell']) (by unfold maxLen; omega) (by omega) (by simp; omega) ?_; intro v2 w2 hown2 hgrow2))
  all_goals (go_wp2; go_ret; exact ⟨v2, rfl, hown2, (((Below.refl base w).alloc hb _).drew).grown hgrow2 (by simp; omega) (fun j hj => (hown.lt j hj).1)⟩)
theorem or_disj (a b q : Int) (i : Nat) (ha : 0 ≤ a) (hq : a = q * ((2 ^ i : Nat) : Int)) (hb : 0 ≤ b) (hb' : b < ((2 ^ i : Nat) : Int)) : a.toNat ||| b.toNat = (a + b).toNat := by
  have hq0 : a.toNat % 2 ^ i = 0 := by
    have h1 : ((a.toNat : Nat) : Int) = a := Int.toNat_of_nonneg ha
    have h2 : ((a.toNat % 2 ^ i : Nat) : Int) = 0 := by rw [Int.natCast_emod, h1, hq]; exact Int.mul_emod_left _ _
    exact Int.ofNat_eq_zero.1 h2
  rw [nat_join i _ _ hq0 (by omega)]
  omega
theorem or_u32 (a b q : Int) (i : Nat) (ha : 0 ≤ a) (ha' : a < 4294967296) (hq : a = q * ((2 ^ i : Nat) : Int)) (hb : 0 ≤ b) (hb1 : b < 4294967296) (hb' : b < ((2 ^ i : Nat) : Int)) : bits .or .u32 a b = a + b := by
  rw [u32_or a b ha ha' hb hb1, or_disj a b q i ha hq hb hb']; omega
theorem or_u64 (a b q : Int) (i : Nat) (ha : 0 ≤ a) (ha' : a < 18446744073709551616) (hq : a = q * ((2 ^ i : Nat) : Int)) (hb : 0 ≤ b) (hb1 : b < 18446744073709551616) (hb' : b < ((2 ^ i : Nat) : Int)) : bits .or .u64 a b = a + b := by
  rw [u64_or a b ha ha' hb hb1, or_disj a b q i ha hq hb hb']; omega
/-- The bytes of a word, so many of them. -/
theorem put641_any (v : Value) (n : Nat) (xs : List Value) (base bb off m c : Nat) (x : Int) (w : World) (hm : 0 < m) (hown : w.ownsRow base 5 1 v n xs) (hx : w.cell? ⟨bb, off, none⟩ = some (.int .u64 x))
    (hn : n ≤ 1000000) (hb : base ≤ w.heap.size) (hbb : bb < base) :
    Calls Try.prog 42 #[v, .slice (some ⟨bb, off, none⟩) m c] w fun e w' =>
      ∃ v', e = .returned v' ∧ w'.ownsRow base 5 1 v' (n + 8) (xs ++ (List.range 8).map fun i => .int .u8 (x / 2 ^ (56 - 8 * i) % 256)) ∧ Below base w w' := by
  obtain ⟨i0, hi, hz0, hz1, hz2⟩ := info_parts Try.info_u8
  have HO := Lib.hid hown
  clear hown
  go_enter Try.func42, Try.ntmps42
  go_wp2_with fail
  go_loopw [0, 6] (fun o i wr => ∃ k : Nat, k ≤ 8 ∧ i = .int .i64 k ∧ wr.ownsRow base 5 1 o (n + k) (xs ++ (List.range k).map fun i => .int .u8 (x / 2 ^ (56 - 8 * i) % 256)) ∧ Below base w wr) (fun _ i _ => 8 - (intOf i).toNat)
  case atStart => exact ⟨0, by omega, rfl, by simpa using HO.out, Below.refl _ _⟩
  case round =>
    obtain ⟨k, hk, rfl, hown, hgr⟩ := hrel
    have HW := Lib.hid hown
    have hbw : base ≤ wr.heap.size := Nat.le_trans hb hgr.size
    clear hown
    by_cases hlt : k < 8
    · have hck : wr.cell? ⟨bb, off, none⟩ = some (.int .u64 x) := (hgr.cell (by exact hbb)).trans hx
      have s1 : IntKind.i64.wrap (8 * (k : Int)) = 8 * k := IntWalk.i64_in _ (by omega)
      have s2 : IntKind.i64.wrap (56 - 8 * (k : Int)) = 56 - 8 * k := IntWalk.i64_in _ (by omega)
      have s3 : 0 ≤ 56 - 8 * (k : Int) := by omega
      go_wp2_with (at_builtin; refine wpList_append_own _ rfl (.tmp 9) (.tmp 18) 51 rfl base 5 i0 (.int .u8 0) 1 1 Try.underlying51 hi hz0 hz1 hz2 rfl (by decide) _ (n + k) _ rfl (HW.out.alloc _) ⟨wr.heap.size, 0, none⟩ 1 1 _ (by simp [Act.eval]) rfl (by exact news_new wr #[_] _) (by simp [Value.oneCell']) (by unfold maxLen; omega) (by omega) (by simp; omega) ?_; intro v2 w2 hown2 hgrow2 _)
      go_roundw
      case rel => exact ⟨k + 1, by omega, by go_num, by rw [List.range_succ, List.map_append, ← List.append_assoc]; exact hown2, (hgr.alloc hbw _).grown hgrow2 (by simp; omega) (fun j hj => (HW.out.lt j hj).1)⟩
      case measure => simp [intOf]; omega
    · obtain rfl : k = 8 := by omega
      go_wp2_with fail
      go_ret
      exact ⟨_, rfl, HW.out, hgr⟩
end Go.Proofs.Ytmjbhmpogpagjaa
