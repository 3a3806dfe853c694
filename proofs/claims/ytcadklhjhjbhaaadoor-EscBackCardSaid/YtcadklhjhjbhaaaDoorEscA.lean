/- esc (layer 4): the reader's block, must, take. -/
import Derived.Test.YtcadklhjhjbhaaaDoorUtfN
import Derived.Test.YtcadklhjhjbhaaaDoorUtfI
import Derived.Test.YtcadklhjhjbhaaaDoorUtfF
import Derived.Test.YtcadklhjhjbhaaaDoorBldA
import Derived.Test.YtcadklhjhjbhaaaDoorPan
import Derived.Deep.DeepCutAuto
import Derived.BigQuiet
namespace Go.Proofs.YtcadklhjhjbhaaaDoor
set_option maxRecDepth 20000
set_option linter.unusedSimpArgs false
set_option linter.unusedVariables false
open Go.RowKit Go.Lib Go.Shelf
attribute [local go_sem] Oper.semAt_some
abbrev RdT : TypeId := 73
/-- A reader: its text, its place, its map. -/
def rdB (t : ByteArray) (a : Nat) (sh : Value) : Obj := .cells #[.string t, .int .i64 (a : Int), sh] RdT (0, 0)
/-- What giving up brings. -/
def pch (n : Int) : List PanicEntry := [{ v := .iface 69 (.agg #[.int .i64 n]), recovered := false }]
/-- All blocks but one are as they were. -/
structure Oth (b : Nat) (w w' : World) : Prop where
  os : w'.os = w.os
  tape : w'.tape = w.tape
  output : w'.output = w.output
  size : w.heap.size ≤ w'.heap.size
  block : ∀ k, k < w.heap.size → k ≠ b → w'.heap[k]? = w.heap[k]?
theorem Oth.refl (b : Nat) (w : World) : Oth b w w := ⟨rfl, rfl, rfl, Nat.le_refl _, fun _ _ _ => rfl⟩
theorem Oth.trans {b : Nat} {u v w : World} (h : Oth b u v) (k : Oth b v w) : Oth b u w :=
  ⟨k.os.trans h.os, k.tape.trans h.tape, k.output.trans h.output, Nat.le_trans h.size k.size, fun i hi hb => (k.block i (Nat.lt_of_lt_of_le hi h.size) hb).trans (h.block i hi hb)⟩
theorem Oth.below {b : Nat} {v w : World} (h : Below v.heap.size v w) : Oth b v w := ⟨h.os, h.tape, h.output, h.size, fun i hi _ => h.block i hi⟩
theorem Oth.drewN {b : Nat} {u v : World} (h : Oth b u v) (q : Nat) : Oth b u (v.drewN q) := ⟨h.os, h.tape, h.output, h.size, h.block⟩
theorem Oth.setCell {b : Nat} {u v : World} (h : Oth b u v) (o : Nat) (x : Value) : Oth b u (v.setCell ⟨b, o, none⟩ x) :=
  ⟨h.os, h.tape, h.output, by simpa using h.size, fun k hk hb => (Below.heap_setCell v ⟨b, o, none⟩ x k (by simpa using hb)).trans (h.block k hk hb)⟩
theorem Oth.low {b n : Nat} {v w : World} (h : Oth b v w) (hn : n ≤ b) (hs : n ≤ v.heap.size) : Below n v w :=
  ⟨h.os, h.tape, h.output, h.size, fun k hk => h.block k (by omega) (by omega)⟩
section
variable {w : World} {b : Nat} {t : ByteArray} {a : Nat} {sh : Value}
theorem rd_cells (h : w.heap[b]? = some (rdB t a sh)) : w.cell? ⟨b, 0, none⟩ = some (.string t) ∧ w.cell? ⟨b, 1, none⟩ = some (.int .i64 (a : Int)) ∧ w.cell? ⟨b, 2, none⟩ = some sh := by
  refine ⟨?_, ?_, ?_⟩ <;> (rw [Lib.cell_of_heap h]; rfl)
theorem rd_frozen (h : w.heap[b]? = some (rdB t a sh)) (i : Nat) : w.frozen? ⟨b, i, none⟩ = false := Lib.frozen_of_heap h i
theorem rd_set (h : w.heap[b]? = some (rdB t a sh)) (a' : Nat) : (w.setCell ⟨b, 1, none⟩ (.int .i64 (a' : Int))).heap[b]? = some (rdB t a' sh) := by
  simp [World.setCell, Array.getElem?_modify, h, rdB]
theorem rd_setS (h : w.heap[b]? = some (rdB t a sh)) (v : Value) : (w.setCell ⟨b, 2, none⟩ v).heap[b]? = some (rdB t a v) := by
  simp [World.setCell, Array.getElem?_modify, h, rdB]
end
set_option maxRecDepth 100000 in
theorem must_yes (n : Int) (w : World) : Calls Tryd.prog 31 #[.bool true, .int .i64 n] w fun e w' => e = .returned (.tuple #[]) ∧ w' = w := by
  go_enter Tryd.func31, Tryd.ntmps31
  go_wp2
  go_end0
  exact ⟨rfl, rfl⟩
set_option maxRecDepth 100000 in
theorem must_no (n : Int) (w : World) : Calls Tryd.prog 31 #[.bool false, .int .i64 n] w fun e w' => e = .panicked (pch n) ∧ w' = w := by
  go_enter Tryd.func31, Tryd.ntmps31
  go_wp2
  exact ⟨rfl, rfl, rfl⟩
set_option maxRecDepth 100000 in
/-- take, where a byte stands. -/
theorem take_yes (t : ByteArray) (a b : Nat) (sh : Value) (w : World) (hb : w.heap[b]? = some (rdB t a sh)) (ht : t.size ≤ 100000) (ha : a < t.size) :
    Calls Tryd.prog 32 #[.pointer (some ⟨b, 0, none⟩)] w fun e w' => e = .returned (.int .u8 (t[a].toNat : Int)) ∧ w'.heap[b]? = some (rdB t (a + 1) sh) ∧ Oth b w w' := by
  obtain ⟨c0, c1, -⟩ := rd_cells hb
  have f1 := rd_frozen hb 1
  have q1 : (a : Int) < (t.size : Int) := by omega
  have q2 : IntKind.i64.wrap ((a : Int) + 1) = (a : Int) + 1 := by rw [IntKind.wrap_i64]; omega
  have KM := Lib.hid (fun w => must_yes 5 w)
  go_enter Tryd.func32, Tryd.ntmps32
  go_wp2_with (go_quiet ((go_at_call 31; exact Calls.quiet_of_same (KM.out _))))
  go_ret
  exact ⟨rfl, rd_set (w := w.drewN _) hb (a + 1), (((Oth.refl b w).drewN _).setCell 1 _).drewN _⟩
set_option maxRecDepth 100000 in
set_option maxHeartbeats 4000000 in
/-- take, behind the last byte. -/
theorem take_no (t : ByteArray) (a b : Nat) (sh : Value) (w : World) (hb : w.heap[b]? = some (rdB t a sh)) (ht : t.size ≤ 100000) (ha : t.size ≤ a) :
    Calls Tryd.prog 32 #[.pointer (some ⟨b, 0, none⟩)] w fun e w' => e = .panicked (pch 5) ∧ Oth b w w' := by
  obtain ⟨c0, c1, -⟩ := rd_cells hb
  have q1 : ¬ (a : Int) < (t.size : Int) := by omega
  have KM := Lib.hid (fun w => must_no 5 w)
  go_enter Tryd.func32, Tryd.ntmps32
  have d0 := fun d os => cell_regrown c0 d os
  have d1 := fun d os => cell_regrown c1 d os
  go_upto_region 1 with fail
  refine wp_region_inw 10 (by kernel_rfl) (by decide) (by kernel_rfl) (by kernel_rfl) ?_
  repeat (refine inw_val (v := ?_) (by rfl) (by rfl) (fun d os => ?_) ?_; rotate_left; (focus (go_simp; (try with_reducible rfl); done)); simp only [nm0, nm1, nm2, nm3])
  refine inw_panic (n := 10) (f := 31) ?hr rfl ?hw rfl (fun W => ?he) KM.out (fun W hW => ?hk)
  case hr => decide +kernel
  case hw => rfl
  case he => go_simp
  case hk =>
    go_wp2_with fail
    exact ⟨rfl, rfl, Oth.below hW⟩
end Go.Proofs.YtcadklhjhjbhaaaDoor
