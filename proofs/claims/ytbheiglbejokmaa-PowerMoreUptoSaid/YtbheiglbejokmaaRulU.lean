/- Rules that came in, opened; what is known of the types of nodes and rules. -/
import Derived.Test.YtbheiglbejokmaaNodU
namespace Go.Proofs.Ytbheiglbejokmaa
set_option maxRecDepth 20000
set_option linter.unusedSimpArgs false
set_option linter.unusedVariables false
open Go.RowKit Go.Deep
theorem ndTypes : ∃ fs, NdTypes Try.prog 25 3 2 9 22 23 fs :=
  ⟨_, Try.underlying25, by kernel_rfl, Try.underlying3, Try.underlying2, Try.underlying9, Try.underlying22, Try.underlying23, by kernel_rfl, by kernel_rfl, by kernel_rfl, by kernel_rfl, by kernel_rfl, by kernel_rfl⟩
section
variable {H : Type} {enc : TypeId × Value → H} {w : World} {base : Nat} {sp : Nat → Bool} {held : Bool}
theorem open_rule {fuel : Nat} {cs : List Value} {x : DataW H × List MemPlace} (h : DataW.trod enc Try.prog w base sp held fuel 35 cs = some x) : ∃ r : Rl, cs = r.cs := by
  obtain ⟨xs, n, rfl, _, hlen, hxs, hf⟩ := DataW.trod_struct Try.underlying35 h
  have c5 : Try.prog.cellsOf 35 = 5 := by kernel_rfl
  rw [c5] at hlen
  obtain ⟨c0, c1, c2, c3, c4, rfl⟩ : ∃ c0 c1 c2 c3 c4, cs = [c0, c1, c2, c3, c4] := by
    match cs, hlen with
    | [c0, c1, c2, c3, c4], _ => exact ⟨_, _, _, _, _, rfl⟩
  have hx : ∀ i, i < 5 → ∃ y, xs[i]? = some y := fun i hi => ⟨_, List.getElem?_eq_getElem (by rw [hxs]; exact hi)⟩
  have cI : Try.prog.cellsOf 3 = 1 := by kernel_rfl
  have cS : Try.prog.cellsOf 9 = 1 := by kernel_rfl
  have cB : Try.prog.cellsOf 4 = 1 := by kernel_rfl
  obtain ⟨y0, e0⟩ := hx 0 (by decide)
  obtain ⟨y1, e1⟩ := hx 1 (by decide)
  obtain ⟨y2, e2⟩ := hx 2 (by decide)
  obtain ⟨y3, e3⟩ := hx 3 (by decide)
  obtain ⟨y4, e4⟩ := hx 4 (by decide)
  have g0 : DataW.trod enc Try.prog w base sp held n 9 (([c0, c1, c2, c3, c4].drop 0).take (Try.prog.cellsOf 9)) = xs[0]? := hf 0 _ rfl
  have g1 : DataW.trod enc Try.prog w base sp held n 3 (([c0, c1, c2, c3, c4].drop 1).take (Try.prog.cellsOf 3)) = xs[1]? := hf 1 _ rfl
  have g2 : DataW.trod enc Try.prog w base sp held n 4 (([c0, c1, c2, c3, c4].drop 2).take (Try.prog.cellsOf 4)) = xs[2]? := hf 2 _ rfl
  have g3 : DataW.trod enc Try.prog w base sp held n 3 (([c0, c1, c2, c3, c4].drop 3).take (Try.prog.cellsOf 3)) = xs[3]? := hf 3 _ rfl
  have g4 : DataW.trod enc Try.prog w base sp held n 4 (([c0, c1, c2, c3, c4].drop 4).take (Try.prog.cellsOf 4)) = xs[4]? := hf 4 _ rfl
  rw [e0] at g0
  rw [e1] at g1
  rw [e2] at g2
  rw [e3] at g3
  rw [e4] at g4
  rw [cS] at g0
  rw [cI] at g1
  rw [cB] at g2
  rw [cI] at g3
  rw [cB] at g4
  obtain ⟨s, r0, _, _⟩ := DataW.trod_string Try.underlying9 g0
  obtain ⟨k, r1, _, _⟩ := DataW.trod_int Try.underlying3 g1
  obtain ⟨m, r2, _⟩ := DataW.trod_bool Try.underlying4 g2
  obtain ⟨t, r3, _, _⟩ := DataW.trod_int Try.underlying3 g3
  obtain ⟨l, r4, _⟩ := DataW.trod_bool Try.underlying4 g4
  simp only [List.drop_zero, List.drop_succ_cons, List.take_succ_cons, List.take_zero, List.cons.injEq, and_true] at r0 r1 r2 r3 r4
  subst r0 r1 r2 r3 r4
  exact ⟨⟨s, k, m, t, l⟩, rfl⟩
theorem open_rls {fuel : Nat} {cs : List Value} {x : DataW H × List MemPlace} (h : DataW.trod enc Try.prog w base sp held fuel 26 cs = some x) : ∃ (a : Option Addr) (len cap : Nat) (L : List Rl), cs = [.slice a len cap] ∧ IsRl w (.slice a len cap) L := by
  obtain ⟨a, len, cap, m, f, rfl, hm, _, hr, hy⟩ := open_row Try.underlying26 (by kernel_rfl : Try.prog.cellsOf 35 = 5) (by decide) h
  have key : ∀ i, i < len → ∃ r : Rl, f i = r.cs := fun i hi => by
    obtain ⟨y, h1⟩ := hy i hi
    exact open_rule h1
  haveI : Inhabited Rl := ⟨rl0⟩
  obtain ⟨g, hg⟩ := choose_lt key
  refine ⟨a, len, cap, (List.range len).map g, rfl, a, len, cap, rfl, by simp, hm, ⟨fun h0 => ?_⟩⟩
  obtain ⟨b, off, e, hlt, hc⟩ := hr.at_ h0
  refine ⟨b, off, e, hlt, fun i hi => ?_⟩
  have e1 : ((List.range len).map g).getD i rl0 = g i := by
    rw [List.getD_eq_getElem?_getD, List.getElem?_map, List.getElem?_range hi]
    rfl
  rw [e1, ← hg i hi]
  exact hc i hi
end
end Go.Proofs.Ytbheiglbejokmaa
