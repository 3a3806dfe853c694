/- The law BlockPads, out of the contract of lives (layer 16), which is its premise here. -/
import Derived.Test.YtbpmbdaajddjlaaBlkE
namespace Go.Proofs.Ytbpmbdaajddjlaa
open Go.RowKit
theorem byte0 (L : List UInt8) (h : 0 < (⟨L.toArray⟩ : ByteArray).size) (x : UInt8) (hx : L[0]? = some x) : (⟨L.toArray⟩ : ByteArray)[0]'h = x := by
  cases L with
  | nil => simp at hx
  | cons a l =>
    have e : a = x := by simpa using hx
    subst e
    rfl
theorem padS_size (n size width : Nat) : (padS n size width).size = padN n size width := by
  show (List.map _ _).toArray.size = _
  simp
theorem padN_fits (n size width : Nat) (h2 : 16 ≤ size) : (n + padN n size width) % size = 0 ∧ width < padN n size width ∧ padN n size width ≤ width + size := by
  obtain ⟨q, hq⟩ : ∃ q, (n + 1 + width) % size = q := ⟨_, rfl⟩
  obtain ⟨z, hz⟩ : ∃ z, (size - q) % size = z := ⟨_, rfl⟩
  have hz9 : z < size := by rw [← hz]; exact Nat.mod_lt _ (by omega)
  have h := (pad_here (n + 1 + width) size z q z (by omega) hq hz (Nat.le_refl _)).2 rfl
  have e : padN n size width = 1 + z + width := by unfold padN; rw [hq, hz]
  rw [e]
  exact ⟨by rw [show n + (1 + z + width) = n + 1 + width + z by omega]; exact h, by omega, by omega⟩
def LivesSaid : Prop := ∀ w, Calls Try.prog 9 #[] w fun e w' => e = .returned (.bool true) ∧ Below w.heap.size w w'
theorem pads_out (hl : LivesSaid) (n size width : Int) (w : World) (h : ¬ padIn n size width) :
    Calls Try.prog 4 #[.int .i64 n, .int .i64 size, .int .i64 width] w fun e w' => e = .returned (.bool true) ∧ Below w.heap.size w w' := by
  have HL := Lib.hid hl
  have HH := Lib.hid h
  unfold padIn at h
  clear hl
  go_enter Try.func4, Try.ntmps4
  go_wp2_with (first
    | (go_at_call 12; refine (pad_out n size width _ HH.out).mono ?_; rintro e w' ⟨rfl, rfl⟩)
    | (go_at_call 13; refine (rpad_out n size width _ HH.out).mono ?_; rintro e w' ⟨rfl, rfl⟩)
    | (go_at_call 9; refine (HL.out _).mono ?_; rintro e w' ⟨rfl, hb⟩))
  all_goals first
    | (exfalso; omega)
    | (go_ret; refine ⟨ret_bool ?_, by assumption⟩; simp only [Bool.or_eq_true, decide_eq_true_eq]; omega)
    | (go_ret; refine ⟨ret_bool ?_, by assumption⟩; simp; done)
    | (go_ret; refine ⟨ret_bool ?_, by assumption⟩; simp; omega)
set_option maxHeartbeats 1000000 in
theorem pads_in (hl : LivesSaid) (n size width : Nat) (w : World) (h1 : n ≤ 1099511627776) (h2 : 16 ≤ size) (h3 : size ≤ 256) (h4 : 8 ≤ width) (h5 : width ≤ 16) :
    Calls Try.prog 4 #[.int .i64 (n : Int), .int .i64 (size : Int), .int .i64 (width : Int)] w fun e w' => e = .returned (.bool true) ∧ Below w.heap.size w w' := by
  have HL := Lib.hid hl
  clear hl
  have HP := Lib.hid (fun w => pad_in n size width w h1 h2 h3 h4 h5)
  have HR := Lib.hid (fun w => rpad_in n size width w h1 h2 h3 h4 h5)
  obtain ⟨f1, f2, f3⟩ := padN_fits n size width h2
  have p0 : 0 < padN n size width := by omega
  have hs := padS_size n size width
  obtain ⟨M, hM⟩ : ∃ M, padN n size width = M := ⟨_, rfl⟩
  rw [hM] at f1 f2 f3 hs
  clear hM
  have hp0 : 0 < (padS n size width).size := by omega
  have b0 : (((padS n size width)[0]'hp0).toNat : Int) = 128 := by
    have e : (padS n size width)[0]'hp0 = 128 := by
      exact byte0 ((List.range (padN n size width)).map fun k => UInt8.ofNat (padB n (padN n size width) k)) hp0 128 (by
        rw [List.getElem?_map, List.getElem?_range p0]
        rfl)
    rw [e]; rfl
  have hne : (padS n size width).toList.isEmpty = false := by
    rw [ByteArray.toList_eq]
    have h : (padS n size width).data.toList.length = M := by rw [Array.length_toList]; exact hs
    cases hc : (padS n size width).data.toList with
    | nil => rw [hc] at h; simp at h; omega
    | cons a l => rfl
  generalize padS n size width = S at *
  have i7 : ¬ (size : Int) = 0 := by omega
  have z1 : (width : Int) < (M : Int) := by omega
  have z2 : (M : Int) ≤ (width : Int) + (size : Int) := by omega
  have i1 : (n : Int) ≤ 1099511627776 := by omega
  have i2 : (size : Int) ≤ 256 := by omega
  have i3 : (width : Int) ≤ 16 := by omega
  have r1 : IntKind.i64.wrap ((n : Int) + (M : Int)) = (n : Int) + (M : Int) := IntWalk.i64_in _ (by omega)
  have t1 : ((n : Int) + (M : Int)).tmod (size : Int) = 0 := by
    rw [show (n : Int) + (M : Int) = ((n + M : Nat) : Int) by omega, Int.tmod_eq_emod_of_nonneg (by omega), ← Int.natCast_emod, f1]; rfl
  go_enter Try.func4, Try.ntmps4
  go_wp2_with (first
    | (go_at_call 12; refine (HP.out _).mono ?_; rintro e w' ⟨rfl, hb⟩)
    | (go_at_call 13; refine (HR.out _).mono ?_; rintro e w' ⟨rfl, hb2⟩)
    | (go_at_call 9; refine (HL.out _).mono ?_; rintro e w' ⟨rfl, hb3⟩))
  all_goals first
    | (exfalso; omega)
    | (go_ret; refine ⟨rfl, ?_⟩; exact gr_step (gr_step (by assumption) (by assumption)) (by assumption))
theorem blockPads_of (hl : LivesSaid) (n size width : Int) (w : World) (_ : (Lit.int .i64 n).wf = true) (_ : (Lit.int .i64 size).wf = true) (_ : (Lit.int .i64 width).wf = true) :
    Calls Try.prog 4 #[.int .i64 n, .int .i64 size, .int .i64 width] w fun e w' => e = .returned (.bool true) ∧ Below w.heap.size w w' := by
  by_cases h : padIn n size width
  · obtain ⟨h1, h2, h3, h4, h5, h6⟩ := h
    obtain ⟨n, rfl⟩ := Int.eq_ofNat_of_zero_le h1
    obtain ⟨size, rfl⟩ := Int.eq_ofNat_of_zero_le (show 0 ≤ size by omega)
    obtain ⟨width, rfl⟩ := Int.eq_ofNat_of_zero_le (show 0 ≤ width by omega)
    exact pads_in hl n size width w (by omega) (by omega) (by omega) (by omega) (by omega)
  · exact pads_out hl n size width w h
end Go.Proofs.Ytbpmbdaajddjlaa
