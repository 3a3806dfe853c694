/- Digits to the base 16: contracts of the functions of layer 1. -/
import Derived.Test.YtcokmlbpomopkaaAid
import Derived.Laws.BitsAllLaws
import Derived.Laws.Bits64
import Derived.IntWalk
import Derived.Deep.RegionLaw
import Derived.Deep.AppendLies
namespace Go.Proofs.Ytcokmlbpomopkaa
set_option maxRecDepth 20000
open Go.RowKit
/-- A digit to the base 16. -/
def hexd (x : Int) : Int := if x < 10 then x + 48 else x + 87
theorem and15 (x : Int) (x0 : 0 ≤ x) (x1 : x < 256) : bits .and .u8 x 15 = x % 16 := by
  rw [u8_and x 15 x0 x1 (by decide) (by decide)]
  have e : (15 : Int).toNat = 15 := rfl
  rw [e, nat_mask4]
  omega
theorem hexd_at (x : Int) (x0 : 0 ≤ x) (x1 : x < 16) (h : x.toNat < (⟨#[48, 49, 50, 51, 52, 53, 54, 55, 56, 57, 97, 98, 99, 100, 101, 102]⟩ : ByteArray).size) :
    (((⟨#[48, 49, 50, 51, 52, 53, 54, 55, 56, 57, 97, 98, 99, 100, 101, 102]⟩ : ByteArray)[x.toNat]).toNat : Int) = hexd x := by
  obtain ⟨n, rfl⟩ := Int.eq_ofNat_of_zero_le x0
  have hn : n < 16 := by omega
  match n, hn with
  | 0, _ => rfl | 1, _ => rfl | 2, _ => rfl | 3, _ => rfl | 4, _ => rfl | 5, _ => rfl | 6, _ => rfl | 7, _ => rfl
  | 8, _ => rfl | 9, _ => rfl | 10, _ => rfl | 11, _ => rfl | 12, _ => rfl | 13, _ => rfl | 14, _ => rfl | 15, _ => rfl
theorem Try.info_u8 : (Try.prog.info? 5).map (fun i => (i.zero, i.size, i.bytes)) = some (some (.int .u8 0), 1, 1) := by kernel_rfl
theorem Try.info_u32 : (Try.prog.info? 36).map (fun i => (i.zero, i.size, i.bytes)) = some (some (.int .u32 0), 1, 4) := by kernel_rfl
theorem Try.info_u64 : (Try.prog.info? 51).map (fun i => (i.zero, i.size, i.bytes)) = some (some (.int .u64 0), 1, 8) := by kernel_rfl
theorem hex1_any (v : Value) (n : Nat) (xs : List Value) (base bb off m c : Nat) (x : Int) (w : World) (x0 : 0 ≤ x) (x1 : x < 256) (hm : 0 < m) (hown : w.ownsRow base 5 1 v n xs) (hx : w.cell? ⟨bb, off, none⟩ = some (.int .u8 x))
    (hn : n ≤ 1000000) (hb : base ≤ w.heap.size) (hbb : bb < base) :
    Calls Try.prog 29 #[v, .slice (some ⟨bb, off, none⟩) m c] w fun e w' =>
      ∃ v', e = .returned v' ∧ w'.ownsRow base 5 1 v' (n + 2) (xs ++ [.int .u8 (hexd (x / 16)), .int .u8 (hexd (x % 16))]) ∧ Below base w w' := by
  have k0 : 0 ≤ x / 16 := by omega
  have k1 : x / 16 < 16 := by omega
  have k2 : 0 ≤ x % 16 := by omega
  have k3 : x % 16 < 16 := by omega
  have ha := and15 x x0 x1
  have h1 := hexd_at (x / 16) k0 k1 (by show (x / 16).toNat < 16; omega)
  have h2 := hexd_at (x % 16) k2 k3 (by show (x % 16).toNat < 16; omega)
  have hne : some bb ≠ v.ownBlock := fun e => by have := hown.lt bb e.symm; omega
  obtain ⟨i0, hi, hz0, hz1, hz2⟩ := info_parts Try.info_u8
  go_enter Try.func29, Try.ntmps29
  go_wp2
  go_region_held3 (fun w' => w'.cell? ⟨bb, off, none⟩ = some (.int .u8 x)) (first | go_keep | (rw [hgrow2.cell_far _ (by simp; omega) hne]; assumption)) ((refine step_append_own rfl (.tmp 5) (.tmp 16) 54 rfl base 5 i0 (.int .u8 0) 1 1 Try.underlying54 hi hz0 hz1 hz2 rfl (by decide) v n xs (by simp [Act.eval]) (by exact hown.alloc _) ⟨w.heap.size, 0, none⟩ 2 2 [.int .u8 (hexd (x / 16)), .int .u8 (hexd (x % 16))] (by simp [Act.eval]) rfl (by exact news_new w #[_, _] _) (by simp [Value.oneCell']) (by unfold maxLen; omega) (by omega) (by simp; omega) ?_; intro v2 w2 hown2 hgrow2))
  all_goals (go_wp2; go_ret; exact ⟨v2, rfl, hown2, (((Below.refl base w).alloc hb _).drew).grown hgrow2 (by simp; omega) (fun j hj => (hown.lt j hj).1)⟩)
theorem put321_any (v : Value) (n : Nat) (xs : List Value) (base bb off m c : Nat) (x : Int) (w : World) (hm : 0 < m) (hown : w.ownsRow base 5 1 v n xs) (hx : w.cell? ⟨bb, off, none⟩ = some (.int .u32 x))
    (hn : n ≤ 1000000) (hb : base ≤ w.heap.size) (hbb : bb < base) :
    Calls Try.prog 43 #[v, .slice (some ⟨bb, off, none⟩) m c] w fun e w' =>
      ∃ v', e = .returned v' ∧ w'.ownsRow base 5 1 v' (n + 4) (xs ++ [.int .u8 (x / 16777216 % 256), .int .u8 (x / 65536 % 256), .int .u8 (x / 256 % 256), .int .u8 (x % 256)]) ∧ Below base w w' := by
  have hne : some bb ≠ v.ownBlock := fun e => by have := hown.lt bb e.symm; omega
  obtain ⟨i0, hi, hz0, hz1, hz2⟩ := info_parts Try.info_u8
  go_enter Try.func43, Try.ntmps43
  go_wp2
  go_region_held3 (fun w' => w'.cell? ⟨bb, off, none⟩ = some (.int .u32 x)) (first | go_keep | (rw [hgrow2.cell_far _ (by simp; omega) hne]; assumption)) ((refine step_append_own rfl (.tmp 5) (.tmp 25) 54 rfl base 5 i0 (.int .u8 0) 1 1 Try.underlying54 hi hz0 hz1 hz2 rfl (by decide) v n xs (by simp [Act.eval]) (by exact hown.alloc _) ⟨w.heap.size, 0, none⟩ 4 4 [.int .u8 (x / 16777216 % 256), .int .u8 (x / 65536 % 256), .int .u8 (x / 256 % 256), .int .u8 (x % 256)] (by simp [Act.eval]) rfl (by exact news_new w #[_, _, _, _] _) (by simp [Value.oneCell']) (by unfold maxLen; omega) (by omega) (by simp; omega) ?_; intro v2 w2 hown2 hgrow2))
  all_goals (go_wp2; go_ret; exact ⟨v2, rfl, hown2, (((Below.refl base w).alloc hb _).drew).grown hgrow2 (by simp; omega) (fun j hj => (hown.lt j hj).1)⟩)
theorem or_disj (a b q : Int) (i : Nat) (ha : 0 ≤ a) (hq : a = q * ((2 ^ i : Nat) : Int)) (hb : 0 ≤ b) (hb' : b < ((2 ^ i : Nat) : Int)) : a.toNat ||| b.toNat = (a + b).toNat := by
  have hq0 : a.toNat % 2 ^ i = 0 := by
    have h1 : ((a.toNat : Nat) : Int) = a := Int.toNat_of_nonneg ha
    have h2 : ((a.toNat % 2 ^ i : Nat) : Int) = 0 := by rw [Int.natCast_emod, h1, hq]; exact Int.mul_emod_left _ _
    exact Int.ofNat_eq_zero.1 h2
  rw [nat_join i _ _ hq0 (by omega)]
  omega
theorem or_u32 (a b q : Int) (i : Nat) (ha : 0 ≤ a) (ha' : a < 4294967296) (hq : a = q * ((2 ^ i : Nat) : Int)) (hb : 0 ≤ b) (hb1 : b < 4294967296) (hb' : b < ((2 ^ i : Nat) : Int)) : bits .or .u32 a b = a + b := by
  rw [u32_or a b ha ha' hb hb1, or_disj a b q i ha hq hb hb']; omega
theorem or_u64 (a b q : Int) (i : Nat) (ha : 0 ≤ a) (ha' : a < 18446744073709551616) (hq : a = q * ((2 ^ i : Nat) : Int)) (hb : 0 ≤ b) (hb1 : b < 18446744073709551616) (hb' : b < ((2 ^ i : Nat) : Int)) : bits .or .u64 a b = a + b := by
  rw [u64_or a b ha ha' hb hb1, or_disj a b q i ha hq hb hb']; omega
theorem get321_any (v : Value) (n : Nat) (xs : List Value) (base bb off c : Nat) (b0 b1 b2 b3 : Int) (w : World) (hown : w.ownsRow base 36 1 v n xs)
    (h0 : w.cell? ⟨bb, off, none⟩ = some (.int .u8 b0)) (h1 : w.cell? ⟨bb, off + 1, none⟩ = some (.int .u8 b1)) (h2 : w.cell? ⟨bb, off + 2, none⟩ = some (.int .u8 b2)) (h3 : w.cell? ⟨bb, off + 3, none⟩ = some (.int .u8 b3))
    (a0 : 0 ≤ b0) (a0' : b0 < 256) (a1 : 0 ≤ b1) (a1' : b1 < 256) (a2 : 0 ≤ b2) (a2' : b2 < 256) (a3 : 0 ≤ b3) (a3' : b3 < 256)
    (hn : n ≤ 1000000) (hb : base ≤ w.heap.size) (hbb : bb < base) :
    Calls Try.prog 70 #[v, .slice (some ⟨bb, off, none⟩) 4 c] w fun e w' =>
      ∃ v', e = .returned v' ∧ w'.ownsRow base 36 1 v' (n + 1) (xs ++ [.int .u32 (b0 * 16777216 + b1 * 65536 + b2 * 256 + b3)]) ∧ Below base w w' := by
  have hne : some bb ≠ v.ownBlock := fun e => by have := hown.lt bb e.symm; omega
  obtain ⟨i0, hi, hz0, hz1, hz2⟩ := info_parts Try.info_u32
  have o1 : bits .or .u32 (b0 * 16777216) (b1 * 65536) = b0 * 16777216 + b1 * 65536 := or_u32 _ _ b0 24 (by omega) (by omega) rfl (by omega) (by omega) (by show b1 * 65536 < 16777216; omega)
  have o2 : bits .or .u32 (b0 * 16777216 + b1 * 65536) (b2 * 256) = b0 * 16777216 + b1 * 65536 + b2 * 256 := or_u32 _ _ (b0 * 256 + b1) 16 (by omega) (by omega) (by show _ = _ * (65536 : Int); omega) (by omega) (by omega) (by show b2 * 256 < 65536; omega)
  have o3 : bits .or .u32 (b0 * 16777216 + b1 * 65536 + b2 * 256) b3 = b0 * 16777216 + b1 * 65536 + b2 * 256 + b3 := or_u32 _ _ (b0 * 65536 + b1 * 256 + b2) 8 (by omega) (by omega) (by show _ = _ * (256 : Int); omega) (by omega) (by omega) (by show b3 < 256; omega)
  have hbw : bb < w.heap.size := by omega
  have w0 : IntKind.u32.wrap b0 = b0 := by rw [IntKind.wrap_u32']; omega
  have w1 : IntKind.u32.wrap b1 = b1 := by rw [IntKind.wrap_u32']; omega
  have w2 : IntKind.u32.wrap b2 = b2 := by rw [IntKind.wrap_u32']; omega
  have w3 : IntKind.u32.wrap b3 = b3 := by rw [IntKind.wrap_u32']; omega
  have w4 : IntKind.u32.wrap (b0 * 16777216) = b0 * 16777216 := by rw [IntKind.wrap_u32']; omega
  have w5 : IntKind.u32.wrap (b1 * 65536) = b1 * 65536 := by rw [IntKind.wrap_u32']; omega
  have w6 : IntKind.u32.wrap (b2 * 256) = b2 * 256 := by rw [IntKind.wrap_u32']; omega
  go_enter Try.func70, Try.ntmps70
  go_wp2
  go_region_held3 (fun w' => w'.cell? ⟨bb, off, none⟩ = some (.int .u8 b0) ∧ w'.cell? ⟨bb, off + 1, none⟩ = some (.int .u8 b1) ∧ w'.cell? ⟨bb, off + 2, none⟩ = some (.int .u8 b2) ∧ w'.cell? ⟨bb, off + 3, none⟩ = some (.int .u8 b3)) (first | go_keep | (refine ⟨?_, ?_, ?_, ?_⟩ <;> (rw [hgrow2.cell_far _ (by simp; omega) hne]; simp [go_sem, h0, h1, h2, h3, hbw]))) ((refine step_append_own rfl (.tmp 5) (.tmp 28) 47 rfl base 36 i0 (.int .u32 0) 1 4 Try.underlying47 hi hz0 hz1 hz2 rfl (by decide) v n xs (by simp [Act.eval]) (by exact hown.alloc _) ⟨w.heap.size, 0, none⟩ 1 1 [.int .u32 (b0 * 16777216 + b1 * 65536 + b2 * 256 + b3)] (by simp [Act.eval]) rfl (by exact news_new w #[_] _) (by simp [Value.oneCell']) (by unfold maxLen; omega) (by omega) (by simp; omega) ?_; intro v2 w2 hown2 hgrow2))
  all_goals (go_wp2; go_ret; exact ⟨v2, rfl, hown2, (((Below.refl base w).alloc hb _).drew).grown hgrow2 (by simp; omega) (fun j hj => (hown.lt j hj).1)⟩)
end Go.Proofs.Ytcokmlbpomopkaa
