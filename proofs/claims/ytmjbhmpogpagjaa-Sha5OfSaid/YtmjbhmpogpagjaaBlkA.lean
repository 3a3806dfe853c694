/- block.Pad: what it answers. -/
import Derived.Test.YtmjbhmpogpagjaaPutp
import Derived.ProofKit
import Derived.Laws.Rows
import Derived.Deep.OwnRows
namespace Go.Proofs.Ytmjbhmpogpagjaa
set_option maxRecDepth 20000
set_option linter.unusedSimpArgs false
set_option linter.unusedVariables false
open Go.RowKit
def rowB (p : Nat → Nat) (N : Nat) : List Value := (List.range N).map fun k => .int .u8 (p k : Int)
theorem rowB_get (p : Nat → Nat) (N k : Nat) (h : k < N) : (rowB p N)[k]? = some (.int .u8 (p k : Int)) := by
  unfold rowB
  rw [List.getElem?_map, List.getElem?_range h]
  rfl
def updB (p : Nat → Nat) (i x : Nat) (k : Nat) : Nat := if k = i then x else p k
theorem rowB_len (p : Nat → Nat) (N : Nat) : (rowB p N).length = N := by unfold rowB; simp
theorem rowB_set (p : Nat → Nat) (N i x : Nat) : (rowB p N).set i (.int .u8 (x : Int)) = rowB (updB p i x) N := by
  unfold rowB
  refine List.ext_getElem (by simp) fun j h1 h2 => ?_
  rw [List.getElem_set]
  simp only [List.getElem_map, List.getElem_range]
  unfold updB
  by_cases h : i = j
  · subst h; simp
  · have h' : ¬ j = i := fun e => h e.symm
    simp [h, h']
theorem rowB_made (n : Nat) : madeCells #[.int .u8 0] n = (rowB (fun _ => 0) n).toArray := by
  apply Array.ext
  · rw [size_madeCells]; simp [rowB_len]
  · intro i h1 h2
    have hi : i < n := by simpa [size_madeCells] using h1
    simp [madeCells, rowB, Nat.mod_one]
theorem make_bytes (N : Nat) (Z : Int) (hz : Z = (N : Int)) (hN : N ≤ 1000) (w : World) : (Instr.makeSlice 51 (.int .i64 Z) (.int .i64 Z)).run Try.prog w = .ok (.slice (some ⟨w.heap.size, 0, none⟩) N N) (w.alloc (.cells (rowB (fun _ => 0) N).toArray 5)) := by
  rw [← rowB_made, hz]
  exact run_make_row' (P := Try.prog) 51 5 (.int .u8 0) 1 Try.underlying51 Try.info_u8 rfl .i64 .i64 N (by omega) (by omega) w
/-- What fills n bytes up: its byte k, of L. -/
def padB (n L k : Nat) : Nat := if k = 0 then 128 else 8 * n / 256 ^ (L - 1 - k) % 256
/-- How many bytes fill n up. -/
def padN (n size width : Nat) : Nat := 1 + (size - (n + 1 + width) % size) % size + width
def padS (n size width : Nat) : ByteArray := ⟨((List.range (padN n size width)).map fun k => UInt8.ofNat (padB n (padN n size width) k)).toArray⟩
end Go.Proofs.Ytmjbhmpogpagjaa
