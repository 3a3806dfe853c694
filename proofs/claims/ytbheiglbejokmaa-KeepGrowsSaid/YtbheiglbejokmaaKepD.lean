/- Lists of texts; slices.Sort of them (layer 32). -/
import Derived.Test.YtbheiglbejokmaaKepC
import Derived.Test.YtbheiglbejokmaaVerA
import Derived.Test.YtbheiglbejokmaaShelfSrt
import Derived.Sort.OwnSorted
namespace Go.Proofs.Ytbheiglbejokmaa
set_option maxRecDepth 20000
set_option linter.unusedSimpArgs false
set_option linter.unusedVariables false
open Go.RowKit Go.Sort Go.Lib Go.MapKept
/-- A slice, and the texts in it. -/
def TxAt (w : World) (v : Value) (l : List ByteArray) : Prop :=
  (v = .slice none 0 0 ∧ l = []) ∨ ∃ g cap cs, v = .slice (some ⟨g, 0, none⟩) l.length cap ∧ l.length ≤ cap ∧ cap ≤ maxLen ∧ w.heap[g]? = some (.cells cs 9 (0, 0)) ∧ cs.size = cap ∧ cs.toList.take l.length = vsT l
theorem TxAt.keep {w w' : World} {v : Value} {l : List ByteArray} (h : TxAt w v l) (hb : Below w.heap.size w w') : TxAt w' v l := by
  rcases h with h | ⟨g, cap, cs, h1, h2, h3, h4, h5⟩
  · exact .inl h
  · exact .inr ⟨g, cap, cs, h1, h2, h3, (hb.block g (Array.getElem?_eq_some_iff.1 h4).1).trans h4, h5⟩
def bl (s : ByteArray) : List UInt8 := s.data.toList
def lb (l : List UInt8) : ByteArray := ⟨l.toArray⟩
theorem lb_bl (s : ByteArray) : lb (bl s) = s := by
  unfold lb bl
  rw [Array.toArray_toList]
theorem bl_lb (l : List UInt8) : bl (lb l) = l := rfl
def srt (l : List ByteArray) : List ByteArray := ((l.map bl).mergeSort fun x y => decide (x ≤ y)).map lb
theorem srt_len (l : List ByteArray) : (srt l).length = l.length := by simp [srt]
theorem vsT_enc (l : List ByteArray) : vsT l = (l.map bl).map encStr := by
  rw [vsT, List.map_map]
  refine List.map_congr_left fun s _ => ?_
  show Value.string s = .string (lb (bl s))
  rw [lb_bl]
theorem vsT_srt (l : List ByteArray) : vsT (srt l) = ((l.map bl).mergeSort fun x y => decide (x ≤ y)).map encStr := by
  rw [vsT, srt, List.map_map]
  rfl
theorem sort_any (w0 w : World) (v : Value) (l : List ByteArray) (h : TxAt w v l) (h0 : Below w0.heap.size w0 w) (hg : ∀ g a b, v = .slice (some ⟨g, 0, none⟩) a b → w0.heap.size ≤ g) (hl : l.length ≤ 1000) :
    Calls Try.prog 50 #[v] w fun e w' => e = .returned (.tuple #[]) ∧ TxAt w' v (srt l) ∧ Below w0.heap.size w0 w' := by
  rcases h with ⟨rfl, rfl⟩ | ⟨g, cap, cs, rfl, h2, h3, h4, h5, h6⟩
  · refine (Try.slices_Sort_string_none none 0 w).mono ?_
    rintro e w' ⟨rfl, rfl⟩
    exact ⟨rfl, .inl ⟨rfl, by rw [← List.length_eq_zero_iff, srt_len]; rfl⟩, h0⟩
  · have hlow := hg g _ _ rfl
    have hH : Holds encStr w g 0 (l.map bl).toArray := holds_of_block h4 (by rw [List.length_map, h6, vsT_enc])
    have hc := Try.slices_Sort_string g 0 cap (l.map bl) w hH (Array.getElem?_eq_some_iff.1 h4).1 (by rw [List.length_map]; omega)
    rw [List.length_map] at hc
    refine hc.mono ?_
    rintro e w' ⟨rfl, n, os, rfl⟩
    have hsz : ((l.map bl).mergeSort fun x y => decide (x ≤ y)).length ≤ cs.size := by simp; omega
    refine ⟨rfl, .inr ⟨g, cap, _, by rw [srt_len], by rw [srt_len]; exact h2, h3, heap_sorted _ h4, by simp [putCells, h5], ?_⟩, ?_⟩
    · rw [vsT_srt, srt_len]
      have h7 := take_putCells cs ((l.map bl).mergeSort fun x y => decide (x ≤ y)) hsz
      rw [List.length_mergeSort, List.length_map] at h7
      exact h7
    · exact below_grown h0 (grownBy_sorted _) hlow
end Go.Proofs.Ytbheiglbejokmaa
