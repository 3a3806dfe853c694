/- esc (layer 4): Unquote. -/
import Derived.Test.YtcadklhjhjbhaaaDoorEscF
import Derived.Recover
import Derived.RangeFuncBox
namespace Go.Proofs.YtcadklhjhjbhaaaDoor
set_option maxRecDepth 20000
set_option linter.unusedSimpArgs false
set_option linter.unusedVariables false
open Go.RowKit Go.Lib Go.Shelf
attribute [local go_sem] Oper.semAt_some
/-- What the closure leaves: the three results, and all else as it was. -/
structure Laid3 (p q r : Nat) (s : List UInt8) (i : Int) (m : Int) (w w' : World) : Prop where
  bs : Boxed w' p 9 (.string ⟨s.toArray⟩)
  bi : Boxed w' q 3 (.int .i64 i)
  be : Boxed w' r 23 (.int .i64 m)
  os : w'.os = w.os
  tape : w'.tape = w.tape
  output : w'.output = w.output
  size : w.heap.size ≤ w'.heap.size
  block : ∀ k, k < w.heap.size → k ≠ p → k ≠ q → k ≠ r → w'.heap[k]? = w.heap[k]?
theorem laid3_set (p q r : Nat) (vs vi ve : Value) (s : List UInt8) (i m : Int) (w : World) (ob : Obj) (h1 : Boxed w p 9 vs) (h2 : Boxed w q 3 vi) (h3 : Boxed w r 23 ve) (hpq : p ≠ q) (hpr : p ≠ r) (hqr : q ≠ r) :
    Laid3 p q r s i m w ((((w.setCell ⟨p, 0, none⟩ (.string ⟨s.toArray⟩)).setCell ⟨q, 0, none⟩ (.int .i64 i)).setCell ⟨r, 0, none⟩ (.int .i64 m)).alloc ob).drew := by
  have a1 := h1.set (.string ⟨s.toArray⟩)
  have a2 := a1.other (B' := q) (by omega) (.int .i64 i)
  have a3 := a2.other (B' := r) (by omega) (.int .i64 m)
  have b1 := h2.other (B' := p) (by omega) (.string ⟨s.toArray⟩)
  have b2 := b1.set (.int .i64 i)
  have b3 := b2.other (B' := r) (by omega) (.int .i64 m)
  have d1 := h3.other (B' := p) (by omega) (.string ⟨s.toArray⟩)
  have d2 := d1.other (B' := q) (by omega) (.int .i64 i)
  have d3 := d2.set (.int .i64 m)
  refine ⟨a3.alloc _, b3.alloc _, d3.alloc _, rfl, rfl, rfl, by simp, fun k hk hp hq hr => ?_⟩
  refine (Below.heap_alloc _ _ k (by simpa using hk)).trans ?_
  rw [Below.heap_setCell _ ⟨r, 0, none⟩ _ k hr, Below.heap_setCell _ ⟨q, 0, none⟩ _ k hq, Below.heap_setCell _ ⟨p, 0, none⟩ _ k hp]
theorem assert_wrong (m : Int) (w : World) : (Instr.typeAssert (.iface 69 (.agg #[.int .i64 m])) 20 69 true).run Tryd.prog w = .ok (.tuple #[.agg #[.int .i64 m], .bool true]) w := rfl
set_option maxRecDepth 100000 in
set_option maxHeartbeats 2000000 in
theorem catch_panic (p q r : Nat) (vs vi ve : Value) (m : Int) (w : World) (h1 : Boxed w p 9 vs) (h2 : Boxed w q 3 vi) (h3 : Boxed w r 23 ve) (hpq : p ≠ q) (hpr : p ≠ r) (hqr : q ≠ r) :
    CallsD Tryd.prog 30 #[.pointer (some ⟨p, 0, none⟩), .pointer (some ⟨q, 0, none⟩), .pointer (some ⟨r, 0, none⟩)] (.panicking (pch m)) w fun e u' w' =>
      e = .returned (.tuple #[]) ∧ u' = .panicking [{ v := .iface 69 (.agg #[.int .i64 m]), recovered := true }] ∧ Laid3 p q r [] 0 m w w' := by
  refine callsD_of_wpS Tryd.func30 rfl fun c₀ cs hu => ?_
  have fp := h1.lt
  have fq := h2.lt
  have fr := h3.lt
  have c1 := h1.cell
  have c2 := h2.cell
  have c3 := h3.cell
  have z1 := h1.frozen
  have z2 := h2.frozen
  have z3 := h3.frozen
  apply wpS_seq
  apply wpS_region
  simp [wpOpsS, go_sem, recoverD, hu, Tryd.ntmps30, Exit.thenS, pch]
  have hta := assert_wrong m w
  refine wpS_of_wp ?_
  go_wp2_with (go_region)
  all_goals
    have HL := laid3_set p q r vs vi ve [] 0 m w (.cells #[.int .i64 m] 69) h1 h2 h3 hpq hpr hqr
    cases c₀
    simp_all [bodyPostS, results, Tryd.results30]
set_option maxRecDepth 100000 in
set_option maxHeartbeats 2000000 in
theorem catch_none (p q r : Nat) (w : World) :
    CallsD Tryd.prog 30 #[.pointer (some ⟨p, 0, none⟩), .pointer (some ⟨q, 0, none⟩), .pointer (some ⟨r, 0, none⟩)] .returning w fun e u' w' =>
      e = .returned (.tuple #[]) ∧ u' = .returning ∧ w' = w := by
  refine callsD_of_wpS Tryd.func30 rfl fun c₀ cs hu => ?_
  apply wpS_seq
  apply wpS_region
  simp [wpOpsS, go_sem, recoverD, hu, Tryd.ntmps30, Exit.thenS]
  refine wpS_of_wp ?_
  go_wp2_with fail
  cases c₀
  simp_all [bodyPostS, results, Tryd.results30]
end Go.Proofs.YtcadklhjhjbhaaaDoor
