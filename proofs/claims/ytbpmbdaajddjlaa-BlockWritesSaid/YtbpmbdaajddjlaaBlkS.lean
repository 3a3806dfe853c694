/- The examples of layer 16: lives. -/
import Derived.Test.YtbpmbdaajddjlaaBlkR
import Derived.Test.YtbpmbdaajddjlaaBlkF
import Derived.RangeFuncBox
namespace Go.Proofs.Ytbpmbdaajddjlaa
open Go.RowKit
def exA : List UInt8 := [97, 98, 99]
def exB : List UInt8 := [100, 101, 102, 103, 104]
theorem ex_cuts {bl : List (List UInt8)} {q : List UInt8} (h : Cuts 4 ([] ++ [exA, exB].flatten) bl q) : bl = [[97, 98, 99, 100], [101, 102, 103, 104]] ∧ q = [] :=
  Cuts.one h ⟨rfl, by decide, by decide⟩
theorem byteK (L : List UInt8) (k : Nat) (h : k < (⟨L.toArray⟩ : ByteArray).size) (x : UInt8) (hx : L[k]? = some x) : (⟨L.toArray⟩ : ByteArray)[k]'h = x := by
  have hl : k < L.length := h
  rw [List.getElem?_eq_getElem hl] at hx
  have e : (⟨L.toArray⟩ : ByteArray)[k]'h = L[k]'hl := rfl
  rw [e]
  exact Option.some.inj hx
theorem pad_ex : (padS 3 64 8).size = 61 ∧ ∀ h : 60 < (padS 3 64 8).size, (((padS 3 64 8)[60]'h).toNat : Int) = 24 := by
  have e : padN 3 64 8 = 61 := by decide
  refine ⟨by rw [padS_size, e], fun h => ?_⟩
  have h3 : (padS 3 64 8)[60]'h = 24 := byteK ((List.range (padN 3 64 8)).map fun k => UInt8.ofNat (padB 3 (padN 3 64 8) k)) 60 h 24 (by
    rw [e, List.getElem?_map, List.getElem?_range (by decide)]
    rfl)
  rw [h3]; rfl
set_option maxHeartbeats 2000000 in
theorem lives16 : LivesSaid := by
  intro w
  have HN := Lib.hid (new_in 4 w (by decide) (by decide))
  go_enter Try.func9, Try.ntmps9
  go_wp2_with fail
  refine HN.out.mono ?_
  rintro e w1 ⟨rfl, hb1, hbe1⟩
  go_wp2_with fail
  have hw := write_any w.heap.size 4 0 w1.heap.size 2 [] [exA, exB] (w1.alloc (.cells #[strV exA, strV exB] 9)) (hb1.of_block (Below.heap_alloc _ _ _ hb1.lt)) (by decide) (by decide) (by
    intro i hi
    have hn : (w1.alloc (.cells [strV exA, strV exB].toArray 9)).heap[w1.heap.size]? = some (.cells [strV exA, strV exB].toArray 9 (0, 0)) := alloc_new w1 _
    have hi2 : i < 2 := hi
    refine (arr_get hn ?_).1
    match i, hi2 with
    | 0, _ => rfl
    | 1, _ => rfl) (by have := hb1.lt; omega) (by decide) (by decide)
  refine hw.mono ?_
  rintro e w2 ⟨v, bl, q', rfl, hown, hcut, _, hgr⟩
  obtain ⟨rfl, rfl⟩ := ex_cuts hcut
  obtain ⟨g2, cap2, hv⟩ := ownsRow_succ hown
  have hv' : v = .slice (some ⟨g2, 0, none⟩) 2 cap2 := hv
  subst hv'
  have c1 : w2.cell? ⟨g2, 1, none⟩ = some (.string ⟨#[101, 102, 103, 104]⟩) := hown.cellAt 1 (by decide)
  have hbe : Below w.heap.size w w2 := (hbe1.alloc hbe1.size (.cells #[strV exA, strV exB] 9)).grown hgr (by rw [show (w1.alloc (.cells #[strV exA, strV exB] 9)).heap.size = w1.heap.size + 1 from Array.size_push ..]; have := hbe1.size; omega) (by intro k hk; cases hk; exact Nat.le_refl _)
  have HP : Calls Try.prog 12 #[.int .i64 3, .int .i64 64, .int .i64 8] w2 fun e w' => e = .returned (.string (padS 3 64 8)) ∧ Below w2.heap.size w2 w' := pad_in 3 64 8 w2 (by decide) (by decide) (by decide) (by decide) (by decide)
  obtain ⟨p1, p2⟩ := pad_ex
  generalize padS 3 64 8 = S at *
  have hlt : g2 < w2.heap.size := by
    apply Nat.lt_of_not_le
    intro hle
    simp [World.cell?, Array.getElem?_eq_none hle] at c1
  have HPP := Lib.hid HP
  have p0 : 60 < S.size := by omega
  have p3 := p2 p0
  clear hw HN hb1 hbe1 hown hcut hgr hv HP p2
  go_wp2_with fail
  refine HPP.out.mono ?_
  rintro e w3 ⟨rfl, hb3⟩
  have c2 : w3.cell? ⟨g2, 1, none⟩ = some (.string ⟨#[101, 102, 103, 104]⟩) := by rw [← c1]; exact hb3.cell hlt
  have hbe3 := gr_step hbe hb3
  clear c1 hb3 hbe
  go_wp2_with fail
  all_goals
    go_ret
    exact ⟨rfl, hbe3⟩
end Go.Proofs.Ytbpmbdaajddjlaa
