/- regroup: what it answers, of bytes by six bits and of sixes by bytes. -/
import Derived.Test.YtmkcbmlpdkaniaaB64D
import Derived.Test.YtmkcbmlpdkaniaaB64M
namespace Go.Proofs.Ytmkcbmlpdkaniaa
open Go.RowKit
/-- The world in which regroup's loop begins. -/
def start (W : World) (F T : Int) : World := ((((W.alloc (.cells #[.int .i64 F] 3)).alloc (.cells #[.int .i64 T] 3)).alloc (.cells #[.slice none 0 0] 34)).alloc (.cells #[.int .u64 0] 35)).alloc (.cells #[.int .i64 0] 3)
theorem alloc_size1 (w : World) (o : Obj) : (w.alloc o).heap.size = w.heap.size + 1 := by simp
theorem own_slice {w : World} {base : Nat} {e : TypeId} {v : Value} {n : Nat} {xs : List Value} (h : w.ownsRow base e 1 v n xs) : ∃ a c, v = .slice a n c := by
  obtain ⟨hl, ⟨rfl, rfl⟩ | ⟨g, cap, cur, rfl, _⟩⟩ := h
  · exact ⟨_, _, rfl⟩
  · exact ⟨_, _, rfl⟩
theorem start_86 (W : World) (x : Nat → Nat) : regSt W.heap.size (W.heap.size + 1 + 1 + 1) W.heap.size (W.heap.size + 1 + 1 + 1 + 1) (W.heap.size + 1) (W.heap.size + 1 + 1) 8 6 x 0 (wN 8 x (6 * 0) 0 : Int) ((0 : Nat) : Int) (start W 8 6) := by
  have s1 := alloc_size1
  refine ⟨?_, ((((Boxed.new W _ _).alloc _).alloc _).alloc _).alloc _, ?_, ?_, .slice none 0 0, ?_, ⟨rfl, .inl ⟨rfl, rfl⟩⟩⟩
  · have h := (Boxed.new (((W.alloc (.cells #[.int .i64 8] 3)).alloc (.cells #[.int .i64 6] 3)).alloc (.cells #[.slice none 0 0] 34)) 35 (.int .u64 0)).alloc (.cells #[.int .i64 0] 3)
    rw [s1, s1, s1] at h
    exact h
  · have h := Boxed.new ((((W.alloc (.cells #[.int .i64 8] 3)).alloc (.cells #[.int .i64 6] 3)).alloc (.cells #[.slice none 0 0] 34)).alloc (.cells #[.int .u64 0] 35)) 3 (.int .i64 0)
    rw [s1, s1, s1, s1] at h
    exact h
  · have h := (((Boxed.new (W.alloc (.cells #[.int .i64 8] 3)) 3 (.int .i64 6)).alloc (.cells #[.slice none 0 0] 34)).alloc (.cells #[.int .u64 0] 35)).alloc (.cells #[.int .i64 0] 3)
    rw [s1] at h
    exact h
  · have h := ((Boxed.new ((W.alloc (.cells #[.int .i64 8] 3)).alloc (.cells #[.int .i64 6] 3)) 34 (.slice none 0 0)).alloc (.cells #[.int .u64 0] 35)).alloc (.cells #[.int .i64 0] 3)
    rw [s1, s1] at h
    exact h
set_option maxHeartbeats 8000000 in
theorem regroup_86 (b len cap : Nat) (x : Nat → Nat) (W : World) (hx : ∀ i, x i < 256) (hlen : len ≤ 400) (hb : b < W.heap.size) (hcell : ∀ i, i < len → W.cell? ⟨b, i, none⟩ = some (.int .u8 (x i : Int))) :
    Calls Try.prog 13 #[.slice (some ⟨b, 0, none⟩) len cap, .int .i64 8, .int .i64 6] W
      fun e w' => ∃ ov q l, 6 * q + l = 8 * len ∧ l < 6 ∧ e = .returned (.tuple #[ov, .int .u64 (wN 8 x (6 * q) l : Int), .int .i64 (l : Int)]) ∧ Below W.heap.size W w' ∧ w'.ownsRow W.heap.size 5 1 ov q ((List.range q).map fun j => .int .u8 (wN 8 x (6 * j) 6 : Int)) := by
  have base0 := start_86 W x
  have below0 : Below W.heap.size W (start W 8 6) := gr_alloc (gr_alloc (gr_alloc (gr_alloc (gr_alloc (Below.refl _ _) _) _) _) _) _
  unfold start at base0 below0
  have HX := Lib.hid hx
  have HC := Lib.hid hcell
  clear hx hcell
  go_enter Try.func13, Try.ntmps13
  go_wp2_with fail
  go_loopw [15] (fun i wr => ∃ k q l : Nat, k ≤ len ∧ i = .int .i64 (k : Int) ∧ 6 * q + l = 8 * k ∧ l < 6 ∧ regSt W.heap.size (W.heap.size + 1 + 1 + 1) W.heap.size (W.heap.size + 1 + 1 + 1 + 1) (W.heap.size + 1) (W.heap.size + 1 + 1) 8 6 x q (wN 8 x (6 * q) l : Int) (l : Int) wr ∧ Below W.heap.size W wr) (fun i _ => len - (intOf i).toNat)
  case atStart => exact ⟨0, 0, 0, by omega, rfl, by omega, by omega, base0, below0⟩
  case round =>
    clear base0 below0
    obtain ⟨k, q, l, hk, rfl, hql, hl, hst, hbl⟩ := hrel
    by_cases hlt : k < len
    · have p1 : (k : Int) < (len : Int) := by omega
      have hx := HX.out k
      have hc := HC.out k hlt
      have c0 : wr.cell? ⟨b, k, none⟩ = some (.int .u8 (x k : Int)) := (hbl.cell (p := ⟨b, k, none⟩) hb).trans hc
      have o5 : IntKind.i64.wrap ((k : Int) + 1) = (k : Int) + 1 := IntWalk.i64_in _ (by omega)
      have HQ := Lib.hid hql
      have SH := shift_86 W.heap.size (W.heap.size + 1 + 1 + 1) W.heap.size (W.heap.size + 1 + 1 + 1 + 1) (W.heap.size + 1) (W.heap.size + 1 + 1) x k q l wr hx (by omega) hql hl hst (by omega) (by omega) (by omega)
      have hszw := hbl.size
      clear hql hst hc
      go_wp2_with (go_at_call 18; refine SH.mono ?_; rintro e w' ⟨rfl, q', l', hq2, hl2, hst2, hb2⟩)
      go_roundw
      case rel => exact ⟨k + 1, q', l', by omega, congrArg (Value.int .i64) (by omega), hq2, hl2, hst2, hbl.trans hb2⟩
      case measure => simp [intOf]; omega
    · obtain rfl : k = len := by omega
      have p1 : ¬ (k : Int) < (k : Int) := by omega
      have HQ := Lib.hid hql
      obtain ⟨B1, B2, B3, B4, ov, B5, own⟩ := hst
      have c1 := B1.cell
      have c3 := B3.cell
      have c5 := B5.cell
      have f1 := B1.frozen
      have f3 := B3.frozen
      have f5 := B5.frozen
      obtain ⟨oa, oc, rfl⟩ := own_slice own
      have HO := Lib.hid own
      clear B2 B4 hql own
      go_wp2_with fail
      go_region
      go_wp2_with fail
      have d51 := boxed_ne B5 B1 (by decide)
      have d53 := boxed_ne B5 B3 (by decide)
      have d13 := boxed_ne B1 B3 (by decide)
      have D5 := (boxed_other (boxed_other (B5.set (.slice oa q oc)) d51 (.int .u64 (wN 8 x (6 * q) l : Int))) d53 (.int .i64 (l : Int))).cell
      have D1 := (boxed_other ((boxed_other B1 d51.symm (.slice oa q oc)).set (.int .u64 (wN 8 x (6 * q) l : Int))) d13 (.int .i64 (l : Int))).cell
      have D3 := ((boxed_other (boxed_other B3 d53.symm (.slice oa q oc)) d13.symm (.int .u64 (wN 8 x (6 * q) l : Int))).set (.int .i64 (l : Int))).cell
      have E1 := ownsRow_setCell_other HO.out (B5.not_row (by decide) HO.out).symm (a := ⟨W.heap.size + 1 + 1, 0, none⟩) (.slice oa q oc)
      have E2 := ownsRow_setCell_other E1 ((boxed_other B1 d51.symm (.slice oa q oc)).not_row (by decide) E1).symm (a := ⟨W.heap.size + 1 + 1 + 1, 0, none⟩) (.int .u64 (wN 8 x (6 * q) l : Int))
      have E3 := ownsRow_setCell_other E2 ((boxed_other (boxed_other B3 d53.symm (.slice oa q oc)) d13.symm (.int .u64 (wN 8 x (6 * q) l : Int))).not_row (by decide) E2).symm (a := ⟨W.heap.size + 1 + 1 + 1 + 1, 0, none⟩) (.int .i64 (l : Int))
      have L1 := (((hbl.setCell (p := ⟨W.heap.size + 1 + 1, 0, none⟩) (by show W.heap.size ≤ W.heap.size + 1 + 1; omega) (.slice oa q oc)).setCell (p := ⟨W.heap.size + 1 + 1 + 1, 0, none⟩) (by show W.heap.size ≤ W.heap.size + 1 + 1 + 1; omega) (.int .u64 (wN 8 x (6 * q) l : Int))).setCell (p := ⟨W.heap.size + 1 + 1 + 1 + 1, 0, none⟩) (by show W.heap.size ≤ W.heap.size + 1 + 1 + 1 + 1; omega) (.int .i64 (l : Int))).drew
      clear B1 B3 B5 c1 c3 c5 f1 f3 f5
      generalize ((wr.setCell ⟨W.heap.size + 1 + 1, 0, none⟩ (.slice oa q oc)).setCell ⟨W.heap.size + 1 + 1 + 1, 0, none⟩ (.int .u64 (wN 8 x (6 * q) l : Int))).setCell ⟨W.heap.size + 1 + 1 + 1 + 1, 0, none⟩ (.int .i64 (l : Int)) = w3 at *
      exact bodyPost_ret (v := .tuple #[.slice oa q oc, .int .u64 (wN 8 x (6 * q) l : Int), .int .i64 (l : Int)]) (by simp [results, Try.results13, go_sem, D5, D1, D3]) rfl ⟨_, q, l, HQ.out, hl, rfl, L1, E3⟩
theorem start_68 (W : World) (x : Nat → Nat) : regSt W.heap.size (W.heap.size + 1 + 1 + 1) W.heap.size (W.heap.size + 1 + 1 + 1 + 1) (W.heap.size + 1) (W.heap.size + 1 + 1) 6 8 x 0 (wN 6 x (8 * 0) 0 : Int) ((0 : Nat) : Int) (start W 6 8) := by
  have s1 := alloc_size1
  refine ⟨?_, ((((Boxed.new W _ _).alloc _).alloc _).alloc _).alloc _, ?_, ?_, .slice none 0 0, ?_, ⟨rfl, .inl ⟨rfl, rfl⟩⟩⟩
  · have h := (Boxed.new (((W.alloc (.cells #[.int .i64 6] 3)).alloc (.cells #[.int .i64 8] 3)).alloc (.cells #[.slice none 0 0] 34)) 35 (.int .u64 0)).alloc (.cells #[.int .i64 0] 3)
    rw [s1, s1, s1] at h
    exact h
  · have h := Boxed.new ((((W.alloc (.cells #[.int .i64 6] 3)).alloc (.cells #[.int .i64 8] 3)).alloc (.cells #[.slice none 0 0] 34)).alloc (.cells #[.int .u64 0] 35)) 3 (.int .i64 0)
    rw [s1, s1, s1, s1] at h
    exact h
  · have h := (((Boxed.new (W.alloc (.cells #[.int .i64 6] 3)) 3 (.int .i64 8)).alloc (.cells #[.slice none 0 0] 34)).alloc (.cells #[.int .u64 0] 35)).alloc (.cells #[.int .i64 0] 3)
    rw [s1] at h
    exact h
  · have h := ((Boxed.new ((W.alloc (.cells #[.int .i64 6] 3)).alloc (.cells #[.int .i64 8] 3)) 34 (.slice none 0 0)).alloc (.cells #[.int .u64 0] 35)).alloc (.cells #[.int .i64 0] 3)
    rw [s1, s1] at h
    exact h
set_option maxHeartbeats 8000000 in
theorem regroup_68 (b len cap : Nat) (x : Nat → Nat) (W : World) (hx : ∀ i, x i < 64) (hlen : len ≤ 400) (hb : b < W.heap.size) (hcell : ∀ i, i < len → W.cell? ⟨b, i, none⟩ = some (.int .u8 (x i : Int))) :
    Calls Try.prog 13 #[.slice (some ⟨b, 0, none⟩) len cap, .int .i64 6, .int .i64 8] W
      fun e w' => ∃ ov q l, 8 * q + l = 6 * len ∧ l < 8 ∧ e = .returned (.tuple #[ov, .int .u64 (wN 6 x (8 * q) l : Int), .int .i64 (l : Int)]) ∧ Below W.heap.size W w' ∧ w'.ownsRow W.heap.size 5 1 ov q ((List.range q).map fun j => .int .u8 (wN 6 x (8 * j) 8 : Int)) := by
  have base0 := start_68 W x
  have below0 : Below W.heap.size W (start W 6 8) := gr_alloc (gr_alloc (gr_alloc (gr_alloc (gr_alloc (Below.refl _ _) _) _) _) _) _
  unfold start at base0 below0
  have HX := Lib.hid hx
  have HC := Lib.hid hcell
  clear hx hcell
  go_enter Try.func13, Try.ntmps13
  go_wp2_with fail
  go_loopw [15] (fun i wr => ∃ k q l : Nat, k ≤ len ∧ i = .int .i64 (k : Int) ∧ 8 * q + l = 6 * k ∧ l < 8 ∧ regSt W.heap.size (W.heap.size + 1 + 1 + 1) W.heap.size (W.heap.size + 1 + 1 + 1 + 1) (W.heap.size + 1) (W.heap.size + 1 + 1) 6 8 x q (wN 6 x (8 * q) l : Int) (l : Int) wr ∧ Below W.heap.size W wr) (fun i _ => len - (intOf i).toNat)
  case atStart => exact ⟨0, 0, 0, by omega, rfl, by omega, by omega, base0, below0⟩
  case round =>
    clear base0 below0
    obtain ⟨k, q, l, hk, rfl, hql, hl, hst, hbl⟩ := hrel
    by_cases hlt : k < len
    · have p1 : (k : Int) < (len : Int) := by omega
      have hx := HX.out k
      have hc := HC.out k hlt
      have c0 : wr.cell? ⟨b, k, none⟩ = some (.int .u8 (x k : Int)) := (hbl.cell (p := ⟨b, k, none⟩) hb).trans hc
      have o5 : IntKind.i64.wrap ((k : Int) + 1) = (k : Int) + 1 := IntWalk.i64_in _ (by omega)
      have HQ := Lib.hid hql
      have SH := shift_68 W.heap.size (W.heap.size + 1 + 1 + 1) W.heap.size (W.heap.size + 1 + 1 + 1 + 1) (W.heap.size + 1) (W.heap.size + 1 + 1) x k q l wr hx (by omega) hql hl hst (by omega) (by omega) (by omega)
      have hszw := hbl.size
      clear hql hst hc
      go_wp2_with (go_at_call 18; refine SH.mono ?_; rintro e w' ⟨rfl, q', l', hq2, hl2, hst2, hb2⟩)
      go_roundw
      case rel => exact ⟨k + 1, q', l', by omega, congrArg (Value.int .i64) (by omega), hq2, hl2, hst2, hbl.trans hb2⟩
      case measure => simp [intOf]; omega
    · obtain rfl : k = len := by omega
      have p1 : ¬ (k : Int) < (k : Int) := by omega
      have HQ := Lib.hid hql
      obtain ⟨B1, B2, B3, B4, ov, B5, own⟩ := hst
      have c1 := B1.cell
      have c3 := B3.cell
      have c5 := B5.cell
      have f1 := B1.frozen
      have f3 := B3.frozen
      have f5 := B5.frozen
      obtain ⟨oa, oc, rfl⟩ := own_slice own
      have HO := Lib.hid own
      clear B2 B4 hql own
      go_wp2_with fail
      go_region
      go_wp2_with fail
      have d51 := boxed_ne B5 B1 (by decide)
      have d53 := boxed_ne B5 B3 (by decide)
      have d13 := boxed_ne B1 B3 (by decide)
      have D5 := (boxed_other (boxed_other (B5.set (.slice oa q oc)) d51 (.int .u64 (wN 6 x (8 * q) l : Int))) d53 (.int .i64 (l : Int))).cell
      have D1 := (boxed_other ((boxed_other B1 d51.symm (.slice oa q oc)).set (.int .u64 (wN 6 x (8 * q) l : Int))) d13 (.int .i64 (l : Int))).cell
      have D3 := ((boxed_other (boxed_other B3 d53.symm (.slice oa q oc)) d13.symm (.int .u64 (wN 6 x (8 * q) l : Int))).set (.int .i64 (l : Int))).cell
      have E1 := ownsRow_setCell_other HO.out (B5.not_row (by decide) HO.out).symm (a := ⟨W.heap.size + 1 + 1, 0, none⟩) (.slice oa q oc)
      have E2 := ownsRow_setCell_other E1 ((boxed_other B1 d51.symm (.slice oa q oc)).not_row (by decide) E1).symm (a := ⟨W.heap.size + 1 + 1 + 1, 0, none⟩) (.int .u64 (wN 6 x (8 * q) l : Int))
      have E3 := ownsRow_setCell_other E2 ((boxed_other (boxed_other B3 d53.symm (.slice oa q oc)) d13.symm (.int .u64 (wN 6 x (8 * q) l : Int))).not_row (by decide) E2).symm (a := ⟨W.heap.size + 1 + 1 + 1 + 1, 0, none⟩) (.int .i64 (l : Int))
      have L1 := (((hbl.setCell (p := ⟨W.heap.size + 1 + 1, 0, none⟩) (by show W.heap.size ≤ W.heap.size + 1 + 1; omega) (.slice oa q oc)).setCell (p := ⟨W.heap.size + 1 + 1 + 1, 0, none⟩) (by show W.heap.size ≤ W.heap.size + 1 + 1 + 1; omega) (.int .u64 (wN 6 x (8 * q) l : Int))).setCell (p := ⟨W.heap.size + 1 + 1 + 1 + 1, 0, none⟩) (by show W.heap.size ≤ W.heap.size + 1 + 1 + 1 + 1; omega) (.int .i64 (l : Int))).drew
      clear B1 B3 B5 c1 c3 c5 f1 f3 f5
      generalize ((wr.setCell ⟨W.heap.size + 1 + 1, 0, none⟩ (.slice oa q oc)).setCell ⟨W.heap.size + 1 + 1 + 1, 0, none⟩ (.int .u64 (wN 6 x (8 * q) l : Int))).setCell ⟨W.heap.size + 1 + 1 + 1 + 1, 0, none⟩ (.int .i64 (l : Int)) = w3 at *
      exact bodyPost_ret (v := .tuple #[.slice oa q oc, .int .u64 (wN 6 x (8 * q) l : Int), .int .i64 (l : Int)]) (by simp [results, Try.results13, go_sem, D5, D1, D3]) rfl ⟨_, q, l, HQ.out, hl, rfl, L1, E3⟩
end Go.Proofs.Ytmkcbmlpdkaniaa
