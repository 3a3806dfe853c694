/- One byte of regroup: what the closure does to the five variables that it captured. -/
import Derived.Test.YtmkcbmlpdkaniaaB64B
import Derived.RangeFuncBox
import Derived.Laws.Bits64b
import Derived.ProofKit
import Derived.Deep.RegionLaw
import Derived.Deep.AppendLies
namespace Go.Proofs.Ytmkcbmlpdkaniaa
open Go.RowKit
/-- The variables of regroup: the row q long; what is left over: these bits as a number, and how many they are. -/
def regSt (base rb fb lb tb ob F T : Nat) (x : Nat → Nat) (q : Nat) (R L : Int) (w : World) : Prop :=
  Boxed w rb 35 (.int .u64 R) ∧ Boxed w fb 3 (.int .i64 (F : Int)) ∧ Boxed w lb 3 (.int .i64 L) ∧ Boxed w tb 3 (.int .i64 (T : Int)) ∧
    ∃ ov, Boxed w ob 34 ov ∧ w.ownsRow base 5 1 ov q ((List.range q).map fun j => .int .u8 (wN F x (T * j) T : Int))
theorem boxed_ne {W : World} {B B' : Nat} {t t' : TypeId} {u u' : Value} (h : Boxed W B t u) (h' : Boxed W B' t' u') (ht : t ≠ t') : B ≠ B' := by
  rintro rfl
  have e := (show W.heap[B]? = _ from h).symm.trans h'
  simp at e
  exact ht e.2
theorem boxed_other {W : World} {B b : Nat} {t : TypeId} {v : Value} (h : Boxed W B t v) (hne : B ≠ b) (u : Value) : Boxed (W.setCell ⟨b, 0, none⟩ u) B t v :=
  h.kept (grownBy_setCell' W b u) (by simpa using hne)
section
variable {base rb fb lb tb ob F T : Nat} {x : Nat → Nat} {q : Nat} {R L : Int} {w : World}
theorem st_rest (h : regSt base rb fb lb tb ob F T x q R L w) (R' : Int) : regSt base rb fb lb tb ob F T x q R' L (w.setCell ⟨rb, 0, none⟩ (.int .u64 R')) := by
  obtain ⟨B1, B2, B3, B4, ov, B5, own⟩ := h
  exact ⟨B1.set _, boxed_other B2 (boxed_ne B2 B1 (by decide)) _, boxed_other B3 (boxed_ne B3 B1 (by decide)) _, boxed_other B4 (boxed_ne B4 B1 (by decide)) _, ov,
    boxed_other B5 (boxed_ne B5 B1 (by decide)) _, ownsRow_setCell_other own (B1.not_row (by decide) own).symm _⟩
theorem st_left (h : regSt base rb fb lb tb ob F T x q R L w) (d1 : lb ≠ fb) (d2 : lb ≠ tb) (L' : Int) : regSt base rb fb lb tb ob F T x q R L' (w.setCell ⟨lb, 0, none⟩ (.int .i64 L')) := by
  obtain ⟨B1, B2, B3, B4, ov, B5, own⟩ := h
  exact ⟨boxed_other B1 (boxed_ne B1 B3 (by decide)) _, boxed_other B2 d1.symm _, B3.set _, boxed_other B4 d2.symm _, ov,
    boxed_other B5 (boxed_ne B5 B3 (by decide)) _, ownsRow_setCell_other own (B3.not_row (by decide) own).symm _⟩
end
theorem Try.info_u8 : (Try.prog.info? 5).map (fun i => (i.zero, i.size, i.bytes)) = some (some (.int .u8 0), 1, 1) := by kernel_rfl
theorem or_next (R b : Nat) (hR : R < 1024) (hb : b < 256) : bits .or .u64 ((R : Int) * 256) (b : Int) = ((R * 2 ^ 8 + b : Nat) : Int) := by
  have e1 : ((R : Int) * 256) = ((R * 256 : Nat) : Int) := by omega
  rw [e1, bits_or_u64_nat _ _ (by omega) (by omega)]
  have h := Nat.shiftLeft_add_eq_or_of_lt (i := 8) (b := b) (by simpa using hb) R
  rw [Nat.shiftLeft_eq] at h
  rw [h]
theorem pow_wrap (m : Nat) (hm : m ≤ 7) : IntKind.u64.wrap ((2 : Int) ^ m) = (2 : Int) ^ m := by
  match m, hm with
  | 0, _ => rfl | 1, _ => rfl | 2, _ => rfl | 3, _ => rfl | 4, _ => rfl | 5, _ => rfl | 6, _ => rfl | 7, _ => rfl
theorem pow_wrap1 (m : Nat) (hm : m ≤ 7) : IntKind.u64.wrap ((2 : Int) ^ m - 1) = (2 : Int) ^ m - 1 := by
  match m, hm with
  | 0, _ => rfl | 1, _ => rfl | 2, _ => rfl | 3, _ => rfl | 4, _ => rfl | 5, _ => rfl | 6, _ => rfl | 7, _ => rfl
theorem mask_and (R m : Nat) (hR : R < 8192) (hm : m ≤ 7) : bits .and .u64 (R : Int) ((2 : Int) ^ m - 1) = ((R % 2 ^ m : Nat) : Int) := by
  have e : ((2 : Int) ^ m - 1) = ((2 ^ m - 1 : Nat) : Int) := by
    match m, hm with
    | 0, _ => rfl | 1, _ => rfl | 2, _ => rfl | 3, _ => rfl | 4, _ => rfl | 5, _ => rfl | 6, _ => rfl | 7, _ => rfl
  have h2 : 2 ^ m ≤ 2 ^ 7 := Nat.pow_le_pow_right (by decide) hm
  rw [e, bits_and_u64_nat _ _ (by omega) (by omega), Nat.and_two_pow_sub_one_eq_mod]
set_option maxHeartbeats 8000000 in
theorem shift_86 (base rb fb lb tb ob : Nat) (x : Nat → Nat) (k q l : Nat) (w : World) (hx : x k < 256) (hk : k ≤ 400)
    (hp : 6 * q + l = 8 * k) (hl : l < 6) (hst : regSt base rb fb lb tb ob 8 6 x q (wN 8 x (6 * q) l : Int) (l : Int) w) (d1 : lb ≠ fb) (d2 : lb ≠ tb) (hbase : base ≤ rb ∧ base ≤ lb ∧ base ≤ ob) :
    Calls Try.prog 18 #[.int .u8 (x k : Int), .pointer (some ⟨rb, 0, none⟩), .pointer (some ⟨fb, 0, none⟩), .pointer (some ⟨lb, 0, none⟩), .pointer (some ⟨tb, 0, none⟩), .pointer (some ⟨ob, 0, none⟩)] w
      fun e w' => e = .returned (.tuple #[]) ∧ ∃ q' l', 6 * q' + l' = 8 * (k + 1) ∧ l' < 6 ∧ regSt base rb fb lb tb ob 8 6 x q' (wN 8 x (6 * q') l' : Int) (l' : Int) w' ∧ Below base w w' := by
  obtain ⟨i0, hi, hz0, hz1, hz2⟩ := info_parts Try.info_u8
  have hst0 := hst
  obtain ⟨B1, B2, B3, B4, ov, B5, own⟩ := hst
  have c1 := B1.cell
  have c2 := B2.cell
  have c3 := B3.cell
  have c4 := B4.cell
  have f1 := B1.frozen
  have f3 := B3.frozen
  have z1 := w_lt 8 x (6 * q) l
  have z2 : 2 ^ l ≤ 2 ^ 5 := Nat.pow_le_pow_right (by decide) (by omega)
  have hN := w_next 8 x k l (6 * q) hx hp
  have HS : Hid (regSt base rb fb lb tb ob 8 6 x q (wN 8 x (6 * q) (l + 8) : Int) ((l : Int) + 8) ((w.setCell ⟨rb, 0, none⟩ (.int .u64 (wN 8 x (6 * q) (l + 8) : Int))).setCell ⟨lb, 0, none⟩ (.int .i64 ((l : Int) + 8)))) := st_left (st_rest hst0 _) d1 d2 _
  clear hst0
  generalize hR : wN 8 x (6 * q) l = R at *
  have o1 : bits .or .u64 ((R : Int) * 256) (x k : Int) = (wN 8 x (6 * q) (l + 8) : Int) := by rw [or_next R (x k) (by omega) hx, hN]
  clear hN hR
  generalize hN : wN 8 x (6 * q) (l + 8) = N at *
  have d3 := boxed_ne B1 B3 (by decide)
  have d4 := boxed_ne B1 B2 (by decide)
  have d5 := boxed_ne B1 B4 (by decide)
  have d6 := boxed_ne B5 B1 (by decide)
  have d7 := boxed_ne B5 B3 (by decide)
  have HN := Lib.hid hN
  have HP := Lib.hid hp
  clear hN hp
  go_enter Try.func18, Try.ntmps18
  go_wp2_with fail
  go_region
  go_wp2_with fail
  go_loopw [] (fun wr => ∃ q' l', 6 * q' + l' = 8 * (k + 1) ∧ l' < 14 ∧ regSt base rb fb lb tb ob 8 6 x q' (wN 8 x (6 * q') l' : Int) (l' : Int) wr ∧ Below base w wr) (fun wr => match wr.cell? ⟨lb, 0, none⟩ with | some v => (intOf v).toNat | none => 0)
  case atStart =>
    have hp := HP.out
    refine ⟨q, l + 8, by omega, by omega, ?_, (((Below.refl base w).setCell (by simpa using hbase.1) _).setCell (by simpa using hbase.2.1) _).drew⟩
    rw [HN.out]
    exact HS.out
  case round =>
    clear HS HP HN B1 B2 B3 B4 B5 own c1 c2 c3 c4 f1 f3 o1 z1 z2
    obtain ⟨q', l', hp', hl', hst, hb⟩ := hrel
    have hst0 := Lib.hid hst
    obtain ⟨B1, B2, B3, B4, ov, B5, own⟩ := hst
    have c3 := B3.cell
    have c4 := B4.cell
    have f3 := B3.frozen
    by_cases h6 : l' < 6
    · have p1 : ¬ (6 : Int) ≤ (l' : Int) := by omega
      have HP := Lib.hid hp'
      clear hp'
      go_wp2_with fail
      go_end0
      exact ⟨rfl, q', l', HP.out, h6, hst0.out, hb⟩
    · have p1 : (6 : Int) ≤ (l' : Int) := by omega
      obtain ⟨m, hm⟩ : ∃ m, l' = 6 + m := ⟨l' - 6, by omega⟩
      have e1 : (l' : Int) - 6 = (m : Int) := by omega
      have o2 : IntKind.i64.wrap ((l' : Int) - 6) = (m : Int) := by rw [e1]; exact IntWalk.i64_in _ (by omega)
      have HM := Lib.hid hm
      have hst1 := st_left hst0.out d1 d2 (m : Int)
      have hb1 := hb.setCell (p := ⟨lb, 0, none⟩) (by simpa using hbase.2.1) (.int .i64 (m : Int))
      have hb0 : base ≤ wr.heap.size := by have := B3.lt; omega
      have hm8 : m < 8 := by omega
      have h1 := w_high 8 x (6 * q') 6 m
      have h2 := w_low 8 x (6 * q') 6 m
      have z3 := w_lt 8 x (6 * q') 6
      have z4 := w_lt 8 x (6 * q') (6 + m)
      rw [← hm] at h1 h2 z4
      generalize hR : wN 8 x (6 * q') l' = R' at *
      have HP := Lib.hid hp'
      have HR := Lib.hid hR
      clear hp' hm hR
      go_wp2_with fail
      generalize wr.setCell ⟨lb, 0, none⟩ (.int .i64 (m : Int)) = w1 at *
      have hst1' := Lib.hid hst1
      obtain ⟨A1, A2, A3, A4, ov1, A5, own1⟩ := hst1
      have a1 := A1.cell
      have a3 := A3.cell
      have a5 := A5.cell
      have fo := A5.frozen
      have HR' := HR.out
      have z5 : wN 8 x (6 * q') 6 < 64 := z3
      have o3 : IntKind.u8.wrap ((R' : Int) / 2 ^ m) = (wN 8 x (6 * q') 6 : Int) := by
        have e2 : ((2 : Int) ^ m) = ((2 ^ m : Nat) : Int) := by rw [Int.natCast_pow]; rfl
        rw [e2, ← Int.natCast_ediv, h1, IntKind.wrap_u8']
        omega
      have H2 := Lib.hid h2
      have hbw : base ≤ w1.heap.size := by have := A3.lt; omega
      have hqs : q' ≤ 1000 := by have := HP.out; omega
      generalize hD : wN 8 x (6 * q') 6 = D at *
      have HD := Lib.hid hD
      have HC3 := Lib.hid c3
      clear h1 h2 hD HR' own c3 c4 f3 B1 B2 B3 B4 B5 hst0
      have n1 : rb < w1.heap.size := A1.lt
      have n3 : lb < w1.heap.size := A3.lt
      have n5 : ob < w1.heap.size := A5.lt
      have y1 : ∀ o, (w1.alloc o).drew.cell? ⟨rb, 0, none⟩ = some (.int .u64 (R' : Int)) := fun o => (A1.alloc o).cell
      have y3 : ∀ o, (w1.alloc o).drew.cell? ⟨lb, 0, none⟩ = some (.int .i64 (m : Int)) := fun o => (A3.alloc o).cell
      have y5 : ∀ o, (w1.alloc o).drew.cell? ⟨ob, 0, none⟩ = some ov1 := fun o => (A5.alloc o).cell
      have x1 : ∀ o, (w1.alloc o).cell? ⟨rb, 0, none⟩ = some (.int .u64 (R' : Int)) := fun o => (A1.alloc o).cell
      have x3 : ∀ o, (w1.alloc o).cell? ⟨lb, 0, none⟩ = some (.int .i64 (m : Int)) := fun o => (A3.alloc o).cell
      have x5 : ∀ o, (w1.alloc o).cell? ⟨ob, 0, none⟩ = some ov1 := fun o => (A5.alloc o).cell
      go_region_law ((refine step_append_own (by rfl) (.tmp 22) (.tmp 27) 34 (by rfl) base 5 i0 (.int .u8 0) 1 1 Try.underlying34 hi hz0 hz1 hz2 rfl (by decide) ov1 q' _ (by simp [Act.eval]) (by exact own1.alloc _) ⟨w1.heap.size, 0, none⟩ 1 1 [.int .u8 (D : Int)] (by simp [Act.eval]) rfl (by exact news_new w1 #[_] _) (by simp [Value.oneCell']) (by unfold maxLen; omega) (by omega) (by simp; omega) ?_; intro v2 w2 hown2 hgrow2; have hG : w1.grownBy w2 ov1.ownBlock := (by first | exact grown_step (World.grownBy_alloc w1 _ _) hgrow2 | exact grown_step (grown_step (World.grownBy_alloc w1 _ _) (grown_drew _ _)) hgrow2 | exact grown_step (grown_step (World.grownBy_alloc w1 _ _) (grown_drewN _ _ _)) hgrow2); have C1 := A1.kept hG (A1.not_row (by decide) own1); have C2 := A2.kept hG (A2.not_row (by decide) own1); have C3 := A3.kept hG (A3.not_row (by decide) own1); have C4 := A4.kept hG (A4.not_row (by decide) own1); have C5 := A5.kept hG (A5.not_row (by decide) own1); have b1 := C1.cell; have b3 := C3.cell; have apc := C5.cell; have apf := C5.frozen; obtain ⟨g2, cap2, hv2⟩ := ownsRow_succ hown2; subst hv2))
      all_goals
        have st3 : regSt base rb fb lb tb ob 8 6 x (q' + 1) (R' : Int) (m : Int) (w2.setCell ⟨ob, 0, none⟩ (.slice (some ⟨g2, 0, none⟩) (q' + 1) cap2)) := by
          refine ⟨boxed_other C1 (boxed_ne C1 C5 (by decide)) _, boxed_other C2 (boxed_ne C2 C5 (by decide)) _, boxed_other C3 (boxed_ne C3 C5 (by decide)) _, boxed_other C4 (boxed_ne C4 C5 (by decide)) _, _, C5.set _, ?_⟩
          have o := ownsRow_setCell_other hown2 (C5.not_row (by decide) hown2).symm (a := ⟨ob, 0, none⟩) (.slice (some ⟨g2, 0, none⟩) (q' + 1) cap2)
          rw [List.range_succ, List.map_append, List.map_cons, List.map_nil, HD.out]
          exact o
        have bl3 : Below base w (w2.setCell ⟨ob, 0, none⟩ (.slice (some ⟨g2, 0, none⟩) (q' + 1) cap2)) := (hb1.grown hG hbw (fun j hj => (own1.lt j hj).1)).setCell (p := ⟨ob, 0, none⟩) (by simpa using hbase.2.2) _
        clear hown2 hgrow2 hG C1 C2 C3 C4 C5 b1 b3 apc apf y1 y3 y5 x1 x3 x5 n1 n3 n5 a1 a3 a5 fo A1 A2 A3 A4 A5 own1 hst1'
        generalize w2.setCell ⟨ob, 0, none⟩ (.slice (some ⟨g2, 0, none⟩) (q' + 1) cap2) = w3 at *
        have st3' := Lib.hid st3
        obtain ⟨B1, B2, B3, B4, ov3, B5, own3⟩ := st3
        have c1 := B1.cell
        have c3 := B3.cell
        have f1 := B1.frozen
        clear B2 B4 B5 own3
        go_wp2_with fail
        have g1 := pow_wrap m (by omega)
        have g2' := pow_wrap1 m (by omega)
        have andf : bits .and .u64 (R' : Int) ((2 : Int) ^ m - 1) = (wN 8 x (6 * (q' + 1)) m : Int) := by
          have hm := HM.out
          have z6 : 2 ^ l' ≤ 2 ^ 13 := Nat.pow_le_pow_right (by decide) (by omega)
          rw [mask_and R' m (by omega) (by omega), H2.out]
          rfl
        go_region
        go_wp2_with fail
        have e3 : ((w3.setCell ⟨rb, 0, none⟩ (.int .u64 (wN 8 x (6 * (q' + 1)) m : Int))).drew).cell? ⟨lb, 0, none⟩ = some (.int .i64 (m : Int)) := (st_rest st3'.out _).2.2.1.cell
        go_roundw
        case rel =>
          have hp := HP.out
          have hm := HM.out
          exact ⟨q' + 1, m, by omega, by omega, st_rest st3'.out _, (bl3.setCell (p := ⟨rb, 0, none⟩) (by simpa using hbase.1) _).drew⟩
        case measure =>
          have hm := HM.out
          rw [e3, HC3.out]
          simp [intOf]
          omega
end Go.Proofs.Ytmkcbmlpdkaniaa
