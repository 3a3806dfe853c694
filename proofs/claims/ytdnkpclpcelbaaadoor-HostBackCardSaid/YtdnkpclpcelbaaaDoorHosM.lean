/- host.isBracketed (layer 27): rules it needs. -/
import Derived.Test.YtdnkpclpcelbaaaDoorHosL
import Derived.Test.YtdnkpclpcelbaaaDoorHosP
namespace Go.Proofs.YtdnkpclpcelbaaaDoor
set_option maxRecDepth 20000
set_option linter.unusedSimpArgs false
set_option linter.unusedVariables false
open Go.RowKit Go.Lib Go.Shelf Go.Sort
attribute [local go_sem] Oper.semAt_some
/-- A loop of known rounds, by what holds ahead of each. -/
theorem wp_loop_st {P : Program} {c : Code} {Q : Exit → Act → World → Prop} {a : Act} {w : World} (n : Nat) (St : Nat → Act → World → Prop) (start : St 0 a w) (step : ∀ k a w, k < n → St k a w → c.wp P (Exit.then (fun a' w' => St (k + 1) a' w') Q) a w) (fin : ∀ a w, St n a w → c.wp P (Exit.then (fun _ _ => False) Q) a w) : (Code.loop c).wp P Q a w := by
  refine wp_loop_rounds (n + 1) ?_
  have key : ∀ m k a w, k + m = n → St k a w → Code.rounds P c Q (m + 1) a w := by
    intro m
    induction m with
    | zero =>
      intro k a w hk h
      rw [rounds_succ]
      obtain rfl : k = n := by omega
      refine Code.wp_mono (fun e a w h => ?_) (fin a w h)
      cases e <;> first | exact h | exact False.elim h
    | succ m ih =>
      intro k a w hk h
      rw [rounds_succ]
      refine Code.wp_mono (fun e a' w' h' => ?_) (step k a w (by omega) h)
      cases e <;> first | exact h' | exact ih (k + 1) a' w' (by omega) h'
  exact key n 0 a w (by omega) start
def dsOf (Ds : List Nat) : List Deferred := Ds.map fun D => { target := .collected D, args := #[] }
/-- The marks of the ranges that have been. -/
structure Marks (D0 : Nat) (Ds : List Nat) (w : World) : Prop where
  ne : Ds.Pairwise (· ≠ ·)
  lo : ∀ D ∈ Ds, D0 ≤ D
  at_ : ∀ D ∈ Ds, w.heap[D]? = some (.deferred (some []))
theorem Marks.nil (D0 : Nat) (w : World) : Marks D0 [] w := ⟨.nil, fun _ h => (by cases h), fun _ h => (by cases h)⟩
theorem Marks.lt {D0 : Nat} {Ds : List Nat} {w : World} (h : Marks D0 Ds w) {D : Nat} (hD : D ∈ Ds) : D < w.heap.size := (Array.getElem?_eq_some_iff.1 (h.at_ D hD)).1
theorem Marks.calls {D0 : Nat} {Ds : List Nat} {w w' : World} (h : Marks D0 Ds w) (hb : Below w.heap.size w w') : Marks D0 Ds w' :=
  ⟨h.ne, h.lo, fun D hD => (hb.block D (h.lt hD)).trans (h.at_ D hD)⟩
theorem Marks.setRow {D0 : Nat} {Ds : List Nat} {w : World} {b : Nat} {cs cs0 : Array Value} {T : TypeId} {fr : Nat × Nat} (h : Marks D0 Ds w) (hb : w.heap[b]? = some (.cells cs0 T fr)) : Marks D0 Ds (w.setRow b cs) :=
  ⟨h.ne, h.lo, fun D hD => by
    rw [setRow_other _ _ _ _ (fun e => by rw [← e, h.at_ D hD] at hb; cases hb)]
    exact h.at_ D hD⟩
theorem Marks.own {D0 D : Nat} {Ds : List Nat} {w w' : World} {row : Option Nat} (h : Marks D0 Ds w) (hl : ∀ d ∈ Ds, d < D) (hg : w.grownBy w' row) (hr : ∀ r, row = some r → D ≤ r ∧ ∃ o : Obj, w.heap[r]? = some o ∧ o.isCells = false) : Marks D0 Ds w' :=
  ⟨h.ne, h.lo, fun d hd => (hg.block d (h.lt hd) (fun e => by have := (hr d e.symm).1; have := hl d hd; omega)).trans (h.at_ d hd)⟩
theorem Marks.cons {D0 D : Nat} {Ds : List Nat} {w : World} (h : Marks D0 Ds w) (hl : ∀ d ∈ Ds, d < D) (h0 : D0 ≤ D) (hD : w.heap[D]? = some (.deferred (some []))) : Marks D0 (D :: Ds) w :=
  ⟨List.pairwise_cons.2 ⟨fun d hd e => by have := hl d hd; omega, h.ne⟩, fun d hd => by
    rcases List.mem_cons.1 hd with rfl | hd
    · exact h0
    · exact h.lo d hd, fun d hd => by
    rcases List.mem_cons.1 hd with rfl | hd
    · exact hD
    · exact h.at_ d hd⟩
theorem leaves_marks {F : Fence} {n : Nat} {P : Program} {fn : Func} {tmps : Array Value} {R : Ending → World → Prop} {w0 : World} {s : Nat} {v : Value} (hres : fn.results = #[.tmp s]) (hv : tmps.getD s undef = v) (hR : ∀ W, Below w0.heap.size w0 W → R (.returned v) W) :
    ∀ (Ds : List Nat) (W : World), Marks w0.heap.size Ds W → Below w0.heap.size w0 W → LeavesInM F n P fn tmps R (dsOf Ds) .returning W
  | [], W, _, hb => ⟨v, results_slot hres hv, hR W hb⟩
  | D :: Ds, W, hM, hb => by
    have hD := hM.at_ D (List.mem_cons_self ..)
    have h0 := hM.lo D (List.mem_cons_self ..)
    have hpo := grownBy_putObj' W D (.deferred none)
    refine ⟨by simp, .inl ⟨D, _, rfl, run_takeDeferred hD, leaves_marks hres hv hR Ds _ ⟨(List.pairwise_cons.1 hM.ne).2, fun d hd => hM.lo d (List.mem_cons_of_mem _ hd), fun d hd => ?_⟩ ?_⟩⟩
    · rw [World.putObj_heap_other ((List.pairwise_cons.1 hM.ne).1 d hd).symm]
      exact hM.at_ d (List.mem_cons_of_mem _ hd)
    · exact ⟨hpo.os.trans hb.os, hpo.tape.trans hb.tape, hpo.output.trans hb.output, Nat.le_trans hb.size hpo.size, fun k hk => (World.putObj_heap_other (by omega)).trans (hb.block k hk)⟩
end Go.Proofs.YtdnkpclpcelbaaaDoor
