/- values: what it answers. -/
import Derived.Test.YtmkcbmlpdkaniaaB64F
import Derived.Laws.RangeString
import Derived.Laws.CopyOwn
namespace Go.Proofs.Ytmkcbmlpdkaniaa
open Go.RowKit
theorem Try.info_arr : (Try.prog.info? 40).map (fun i => (i.zero, i.size)) = some (some (.agg (Array.replicate 256 (.int .u8 0))), 256) := by kernel_rfl
theorem zero_arr (w : World) : (zeroValue 40).run Try.prog w = .ok (.agg (Array.replicate 256 (.int .u8 0))) w := by
  have h := Try.info_arr
  obtain ⟨i, hi, he⟩ := Option.map_eq_some_iff.1 h
  simp only [Prod.mk.injEq] at he
  simp [zeroValue, typeInfo, hi, he.1]
/-- The table behind k rounds: what each byte stands for, and one more. -/
def valV (url : Bool) (k c : Nat) : Int := if numI url c < k then numI url c + 1 else 0
def rowV (url : Bool) (k : Nat) : List Value := (List.range 256).map fun c => .int .u8 (valV url k c)
theorem valV_0 (url : Bool) (c : Nat) : valV url 0 c = 0 := by
  unfold valV
  rcases num_cases url c with h | ⟨k, hk, h, _⟩ <;> rw [h] <;> split <;> omega
theorem rowV_0 (url : Bool) : (rowV url 0).toArray = Array.replicate 256 (.int .u8 0) := by
  apply Array.ext'
  rw [Array.toList_replicate]
  unfold rowV
  simp only [valV_0]
  rw [List.map_const', List.length_range]
theorem valV_next (url : Bool) (k c : Nat) (hk : k < 64) : valV url (k + 1) c = if c = sgN url k then (k : Int) + 1 else valV url k c := by
  unfold valV
  by_cases e : c = sgN url k
  · rw [if_pos e, e, num_yes hk rfl, if_pos (by omega)]
  · rw [if_neg e]
    rcases num_cases url c with h | ⟨j, hj, h, g⟩
    · rw [h, if_pos (by omega), if_pos (by omega)]
    · have : j ≠ k := fun e' => e (by rw [← e', g])
      rw [h]
      by_cases hjk : j < k
      · rw [if_pos (by omega), if_pos (by omega)]
      · rw [if_neg (by omega), if_neg (by omega)]
theorem rowV_next (url : Bool) (k : Nat) (hk : k < 64) : (rowV url k).set (sgN url k) (.int .u8 ((k : Int) + 1)) = rowV url (k + 1) := by
  unfold rowV
  refine List.ext_getElem (by simp) fun i h1 h2 => ?_
  rw [List.getElem_set]
  simp only [List.getElem_map, List.getElem_range]
  rw [valV_next url k i hk]
  by_cases e : sgN url k = i
  · rw [if_pos e, if_pos e.symm]
  · rw [if_neg e, if_neg (fun h => e h.symm)]
theorem rowV_all (url : Bool) : rowV url 64 = (List.range 256).map fun c => .int .u8 (numI url c + 1) := by
  unfold rowV
  refine List.map_congr_left fun c _ => ?_
  unfold valV
  rcases num_cases url c with h | ⟨j, hj, h, g⟩ <;> rw [h] <;> rw [if_pos (by omega)]
theorem rowV_get (url : Bool) (c : Nat) (h : c < 256) : (rowV url 64)[c]? = some (.int .u8 (numI url c + 1)) := by
  rw [rowV_all, List.getElem?_map, List.getElem?_range h]
  rfl
theorem rowV_len (url : Bool) (k : Nat) : (rowV url k).length = 256 := by unfold rowV; simp
theorem iter_size (w : World) (s : ByteArray) (k : Nat) : (w.iter s k).heap.size = w.heap.size + 1 := alloc_size1 _ _
theorem push_modify {α : Type} (a : Array α) (x : α) (b : Nat) (f : α → α) (h : b < a.size) : (a.push x).modify b f = (a.modify b f).push x := by
  apply Array.ext
  · simp
  · intro i h1 h2
    simp only [Array.size_modify, Array.size_push] at h1
    simp only [Array.getElem_modify, Array.getElem_push, Array.size_modify]
    by_cases hi : i < a.size
    · simp only [hi, dif_pos]
    · simp only [hi, dif_neg, not_false_eq_true]
      rw [if_neg (by omega)]
theorem set_iter (w : World) (s : ByteArray) (k : Nat) (a : Addr) (v : Value) (h : a.block < w.heap.size) : (w.iter s k).setCell a v = (w.setCell a v).iter s k := by
  show { w with heap := (w.heap.push (.stringIter s k)).modify a.block _ } = { w with heap := (w.heap.modify a.block _).push (.stringIter s k) }
  rw [push_modify _ _ _ _ h]
theorem iter_old (w : World) (s : ByteArray) (k b : Nat) (h : b < w.heap.size) : (w.iter s k).heap[b]? = w.heap[b]? := by
  show (w.heap.push _)[b]? = _
  rw [Array.getElem?_push_lt h, Array.getElem?_eq_getElem h]
theorem alloc_old (w : World) (o : Obj) (b : Nat) (h : b < w.heap.size) : (w.alloc o).heap[b]? = w.heap[b]? := by
  show (w.heap.push _)[b]? = _
  rw [Array.getElem?_push_lt h, Array.getElem?_eq_getElem h]
theorem alloc_new (w : World) (o : Obj) : (w.alloc o).heap[w.heap.size]? = some o := by
  show (w.heap.push _)[w.heap.size]? = _
  simp
/-- A block of cells that is an array: its cells; a store into it. -/
theorem arr_get {w : World} {b i : Nat} {t : TypeId} {L : List Value} {v : Value} (h : w.heap[b]? = some (.cells L.toArray t (0, 0))) (hi : L[i]? = some v) : w.cell? ⟨b, i, none⟩ = some v ∧ w.frozen? ⟨b, i, none⟩ = false :=
  ⟨by simp [World.cell?, h, hi], by simp [World.frozen?, h]⟩
theorem arr_set {w : World} {b i : Nat} {t : TypeId} {L : List Value} (h : w.heap[b]? = some (.cells L.toArray t (0, 0))) (v : Value) : (w.setCell ⟨b, i, none⟩ v).heap[b]? = some (.cells (L.set i v).toArray t (0, 0)) := by
  have hlt := lt_of_block h
  have h' : w.heap[b] = .cells L.toArray t (0, 0) := by simpa [Array.getElem?_eq_getElem hlt] using h
  show (w.heap.modify b _)[b]? = _
  rw [Array.getElem?_eq_getElem (by simpa using hlt), Array.getElem_modify_self, h']
  simp
/-- A function's one result that lies in a cell, an array. -/
theorem results_arr {P : Program} {fn : Func} {tmps : Array Value} {w : World} {v : Value} {a t b : Nat} (h : fn.results = #[.cell a t]) (ha : tmps.getD a undef = .pointer (some ⟨b, 0, none⟩)) (hl : (loadVar t ⟨b, 0, none⟩).run P w = .ok v w) : (results fn tmps).run P w = .ok v w := by
  rw [Array.getD_eq_getD_getElem?] at ha
  simp only [results, h]
  simp [asAddr, ha, hl]
theorem abc_ascii (url : Bool) (k : Nat) (h : k < (abc url).size) : ((abc url)[k]'h).toNat < 128 := by
  rw [gb_at]
  have e : (List.range 64).all (fun n => decide (gb (abc url) n < 128)) = true := by cases url <;> decide +kernel
  have := List.all_eq_true.1 e k (List.mem_range.2 (by rw [abc_size] at h; exact h))
  simpa using this
set_option maxRecDepth 100000 in
set_option maxHeartbeats 8000000 in
theorem values_any (url : Bool) (w : World) :
    Calls Try.prog 16 #[.bool url] w fun e w' => e = .returned (.agg (rowV url 64).toArray) ∧ Below w.heap.size w w' := by
  have kz := zero_arr
  go_enter Try.func16, Try.ntmps16
  go_wp2_with (go_at_call 12; refine (signs_any _ _).mono ?_; rintro e w' ⟨rfl, rfl⟩)
  generalize hX : (w.alloc (Obj.cells (Array.replicate 256 (Value.int IntKind.u8 0)) 40)).alloc (Obj.cells (Array.replicate 256 (Value.int IntKind.u8 0)) 40) = X
  have hXs : X.heap.size = w.heap.size + 1 + 1 := by rw [← hX, alloc_size1, alloc_size1]
  have hX0 : X.heap[w.heap.size]? = some (.cells (Array.replicate 256 (Value.int IntKind.u8 0)) 40 (0, 0)) := by
    rw [← hX, alloc_old _ _ _ (by rw [alloc_size1]; omega), alloc_new]
  have hX1 : X.heap[w.heap.size + 1]? = some (.cells (rowV url 0).toArray 40 (0, 0)) := by
    rw [← hX, rowV_0]
    have := alloc_new (w.alloc (Obj.cells (Array.replicate 256 (Value.int IntKind.u8 0)) 40)) (Obj.cells (Array.replicate 256 (Value.int IntKind.u8 0)) 40)
    rw [alloc_size1] at this
    exact this
  have hXb : Below w.heap.size w X := by rw [← hX]; exact gr_alloc (gr_alloc (Below.refl _ _) _) _
  obtain ⟨Z, hZ⟩ : ∃ Z, Z = Array.replicate 256 (Value.int IntKind.u8 0) := ⟨_, rfl⟩
  have hZs : Z.size = 256 := by rw [hZ, Array.size_replicate]
  rw [← hZ] at hX0
  clear hX kz hZ
  go_loopw [] (fun wr => ∃ k : Nat, ∃ Y : World, k ≤ 64 ∧ wr = Y.iter (abc url) k ∧ Y.heap.size = w.heap.size + 1 + 1 ∧ Y.heap[w.heap.size]? = some (.cells Z 40 (0, 0)) ∧ Y.heap[w.heap.size + 1]? = some (.cells (rowV url k).toArray 40 (0, 0)) ∧ Below w.heap.size w Y) (fun wr => match wr.heap[w.heap.size + 1 + 1]? with | some (.stringIter _ p) => 64 - p | _ => 0)
  case atStart => exact ⟨0, X, by omega, rfl, hXs, hX0, hX1, hXb⟩
  case round =>
    clear hXs hX0 hX1 hXb
    obtain ⟨k, Y, hk, rfl, hYs, hY0, hY1, hYb⟩ := hrel
    have hz := abc_size url
    by_cases hlt : k < 64
    · have hks : k < (abc url).size := by omega
      have hnx := fun ty => run_next_ascii (P := Try.prog) Y (abc url) k ty hks (abc_ascii url k hks)
      have g0 : ((abc url)[k]'hks).toNat = sgN url k := gb_at (abc url) k hks
      rw [hYs] at hnx
      simp only [g0] at hnx
      have hsg := sg_lt url k
      have hY1' : (Y.iter (abc url) (k + 1)).heap[w.heap.size + 1]? = some (.cells (rowV url k).toArray 40 (0, 0)) := by rw [iter_old _ _ _ _ (by omega)]; exact hY1
      have hat : (rowV url k)[sgN url k]? = some (.int .u8 (valV url k (sgN url k))) := by unfold rowV; rw [List.getElem?_map, List.getElem?_range hsg]; rfl
      obtain ⟨c1, c2⟩ := arr_get hY1' hat
      have q1 : (sgN url k : Int) < 256 := by omega
      have o1 : IntKind.u8.wrap ((k : Int) + 1) = (k : Int) + 1 := by rw [IntKind.wrap_u8']; omega
      have HS := Lib.hid (set_iter Y (abc url) (k + 1) ⟨w.heap.size + 1, sgN url k, none⟩ (.int .u8 ((k : Int) + 1)) (by show w.heap.size + 1 < _; omega))
      have HN := Lib.hid (rowV_next url k hlt)
      clear hY1' hat g0
      go_wp2_with fail
      go_roundw
      case rel =>
        refine ⟨k + 1, Y.setCell ⟨w.heap.size + 1, sgN url k, none⟩ (.int .u8 ((k : Int) + 1)), by omega, HS.out, ?_, ?_, ?_, hYb.setCell (p := ⟨w.heap.size + 1, sgN url k, none⟩) (by show w.heap.size ≤ w.heap.size + 1; omega) _⟩
        · rw [← hYs]; show (Y.heap.modify _ _).size = _; rw [Array.size_modify]
        · rw [Below.heap_setCell _ _ _ _ (by show w.heap.size ≠ w.heap.size + 1; omega)]; exact hY0
        · rw [← HN.out]; exact arr_set hY1 _
      case measure =>
        rw [HS.out]
        have e1 := World.iter_heap (Y.setCell ⟨w.heap.size + 1, sgN url k, none⟩ (.int .u8 ((k : Int) + 1))) (abc url) (k + 1)
        have e2 := World.iter_heap Y (abc url) k
        rw [show (Y.setCell ⟨w.heap.size + 1, sgN url k, none⟩ (.int .u8 ((k : Int) + 1))).heap.size = w.heap.size + 1 + 1 by rw [← hYs]; show (Y.heap.modify _ _).size = _; rw [Array.size_modify]] at e1
        rw [hYs] at e2
        rw [e1, e2]
        show 64 - (k + 1) < 64 - k
        omega
    · obtain rfl : k = 64 := by omega
      have hnx := fun ty => run_next_end (P := Try.prog) Y (abc url) 64 ty (by omega)
      rw [hYs] at hnx
      have hY1' : (Y.iter (abc url) 64).heap[w.heap.size + 1]? = some (.cells (rowV url 64).toArray 40 (0, 0)) := by rw [iter_old _ _ _ _ (by omega)]; exact hY1
      have ks := run_storeCells_from (P := Try.prog) w.heap.size 40 (rowV url 64) 0 Z (Y.iter (abc url) 64) (by rw [iter_old _ _ _ _ (by omega)]; exact hY0) (by rw [rowV_len]; omega) (by intro v hv; unfold rowV at hv; obtain ⟨c, _, rfl⟩ := List.mem_map.1 hv; rfl)
      have hl := rowV_len url 64
      go_wp2_with fail
      refine wp_load_row 40 (.tmp 3) rfl (w.heap.size + 1) (by simp [Act.eval]) 40 (rowV url 64).toArray (0, 0) _ hY1' Try.underlying40 rfl (by rw [List.size_toArray, rowV_len]; kernel_rfl) ?_
      go_wp2_with fail
      have hb2 : Below w.heap.size w ((Y.iter (abc url) 64).setRow w.heap.size (rowV url 64).toArray) := below_setRow (hYb.alloc (by omega) _) (Nat.le_refl _) _
      have hr2 : ((Y.iter (abc url) 64).setRow w.heap.size (rowV url 64).toArray).heap[w.heap.size]? = some (.cells (rowV url 64).toArray 40 (0, 0)) := setRow_heap _ _ Z _ _ _ (by rw [iter_old _ _ _ _ (by omega)]; exact hY0)
      generalize (Y.iter (abc url) 64).setRow w.heap.size (rowV url 64).toArray = W2 at *
      have kl2 := run_loadVar_row (P := Try.prog) W2 w.heap.size 40 40 (rowV url 64).toArray (0, 0) _ hr2 Try.underlying40 rfl (by rw [List.size_toArray, rowV_len]; kernel_rfl)
      clear hnx ks hY1' hY1 hY0
      exact bodyPost_ret (v := .agg (rowV url 64).toArray) (results_arr Try.results16 (by rfl) kl2) rfl ⟨rfl, hb2⟩
end Go.Proofs.Ytmkcbmlpdkaniaa
