/- api.Node: a recursive value that came in, opened. No program in it: its types by their facts. -/
import Derived.Test.YtbheiglbejokmaaTexts
import Derived.Deep.Slices
import Derived.DataReads
namespace Go.Proofs.Ytbheiglbejokmaa
set_option maxRecDepth 20000
set_option linter.unusedSimpArgs false
set_option linter.unusedVariables false
open Go.RowKit Go.Deep
/-- A node as it is meant. -/
inductive Nd where
  | mk (kind n : Int) (s : ByteArray) (ks : List ByteArray) (ls : List Nd)
/-- What is known of the types. -/
structure NdTypes (P : Program) (tN tI tJ tS tK tL : TypeId) (fs : Array Field) : Prop where
  node : P.underlying tN = some (.struct fs)
  fields : (fs.toList.map fun f => (f.type, f.offset)) = [(tI, 0), (tJ, 1), (tS, 2), (tK, 3), (tL, 4)]
  int : P.underlying tI = some (.int .i64)
  i64 : P.underlying tJ = some (.int .i64)
  str : P.underlying tS = some .string
  keys : P.underlying tK = some (.slice tS)
  vals : P.underlying tL = some (.slice tN)
  cN : P.cellsOf tN = 5
  cI : P.cellsOf tI = 1
  cJ : P.cellsOf tJ = 1
  cS : P.cellsOf tS = 1
  cK : P.cellsOf tK = 1
  cL : P.cellsOf tL = 1
/-- A row of cells that came in, from an address on. -/
structure RowAt (w : World) (a : Option Addr) (len size : Nat) (f : Nat → List Value) : Prop where
  at_ : 0 < len → ∃ b off, a = some ⟨b, off, none⟩ ∧ b < w.heap.size ∧ ∀ i, i < len → (f i).length = size ∧ ∀ j, j < size → w.cell? ⟨b, off + (i * size + j), none⟩ = (f i)[j]?
/-- Strings in a row. -/
def IsStrs (w : World) (a : Option Addr) (len : Nat) (ss : List ByteArray) : Prop :=
  ss.length = len ∧ len ≤ maxLen ∧ (∀ s ∈ ss, s.size ≤ maxLen) ∧ RowAt w a len 1 (fun i => [.string (ss.getD i ByteArray.empty)])
/-- These cells are that node's. -/
inductive IsNd (w : World) : List Value → Nd → Prop
  | mk {kind n : Int} {s : ByteArray} {ks : List ByteArray} {ls : List Nd} {ak : Option Addr} {lk ck : Nat} {al : Option Addr} {ll cl : Nat} (kid : Nat → List Value)
      (hkind : (Lit.int .i64 kind).wf = true) (hn : (Lit.int .i64 n).wf = true) (hs : s.size ≤ maxLen) (hk : IsStrs w ak lk ks) (hl : ls.length = ll) (hlm : ll ≤ maxLen)
      (hrow : RowAt w al ll 5 kid) (hkids : ∀ (i : Nat) (h : i < ls.length), IsNd w (kid i) ls[i]) : IsNd w [.int .i64 kind, .int .i64 n, .string s, .slice ak lk ck, .slice al ll cl] (.mk kind n s ks ls)
theorem RowAt.below {w w' : World} {a : Option Addr} {len size : Nat} {f : Nat → List Value} (h : RowAt w a len size f) (hb : Below w.heap.size w w') : RowAt w' a len size f :=
  ⟨fun h0 => by
    obtain ⟨b, off, e, hlt, hc⟩ := h.at_ h0
    exact ⟨b, off, e, Nat.lt_of_lt_of_le hlt hb.size, fun i hi => ⟨(hc i hi).1, fun j hj => (hb.cell (p := ⟨b, _, none⟩) hlt).trans ((hc i hi).2 j hj)⟩⟩⟩
theorem IsStrs.below {w w' : World} {a : Option Addr} {len : Nat} {ss : List ByteArray} (h : IsStrs w a len ss) (hb : Below w.heap.size w w') : IsStrs w' a len ss := ⟨h.1, h.2.1, h.2.2.1, h.2.2.2.below hb⟩
theorem IsNd.keep {w w' : World} (hb : Below w.heap.size w w') {cs : List Value} {N : Nd} (h : IsNd w cs N) : IsNd w' cs N := by
  induction h with
  | mk kid hkind hn hs hk hl hlm hrow _ ih => exact .mk kid hkind hn hs (hk.below hb) hl hlm (hrow.below hb) ih
section
variable {H : Type} {enc : TypeId × Value → H} {P : Program} {w : World} {base : Nat} {sp : Nat → Bool} {held : Bool}
theorem addr_flat {w : World} {a : Addr} {v : Value} (h : w.cell? a = some v) : ∃ b off, a = ⟨b, off, none⟩ ∧ b < w.heap.size := by
  obtain ⟨b, off, spot⟩ := a
  have hspot : spot = none := by simpa using World.cell?_spot h
  subst hspot
  exact ⟨b, off, rfl, World.block_lt_of_cell? w _ h⟩
/-- A slice whose elements were read: a row. -/
theorem open_row {t e : TypeId} {size fuel : Nat} {cs : List Value} {x : DataW H × List MemPlace} (ht : P.underlying t = some (.slice e)) (hc : P.cellsOf e = size) (h0 : 0 < size) (h : DataW.trod enc P w base sp held fuel t cs = some x) :
    ∃ (a : Option Addr) (len cap m : Nat) (f : Nat → List Value), cs = [.slice a len cap] ∧ len ≤ maxLen ∧ m < fuel ∧ RowAt w a len size f ∧ ∀ i, i < len → ∃ y, DataW.trod enc P w base sp held m e (f i) = some y := by
  cases fuel with
  | zero => simp [DataW.trod] at h
  | succ n =>
    rcases DataW.trod_slice ht h with ⟨rfl, _⟩ | ⟨a, len, cap, elems, rest, m, hm, rfl, _, hb, hl, hcm, hlen, hel, _, _⟩
    · exact ⟨none, 0, 0, n, fun _ => [], rfl, Nat.zero_le _, Nat.lt_succ_self n, ⟨fun h => absurd h (by omega)⟩, fun i hi => absurd hi (by omega)⟩
    · have key : ∀ i, i < len → ∃ c : List Value, w.cells? base (a.add (i * size)) size = some c ∧ ∃ y, DataW.trod enc P w base sp held m e c = some y := fun i hi => by
        have h1 := hel i hi
        rw [hc, List.getElem?_eq_getElem (by omega)] at h1
        obtain ⟨c, h2, h3⟩ := Option.bind_eq_some_iff.1 h1
        exact ⟨c, h2, _, h3⟩
      obtain ⟨f, hf⟩ := choose_lt key
      refine ⟨some a, len, cap, m, f, rfl, Nat.le_trans hl hcm, by omega, ⟨fun hpos => ?_⟩, fun i hi => (hf i hi).2⟩
      have g0 := World.cells?_some (hf 0 hpos).1
      obtain ⟨v, hv⟩ : ∃ v, w.cell? a = some v := by
        have h1 := g0.2.2 0 h0
        rw [List.getElem?_eq_getElem (by omega), add_add] at h1
        exact ⟨_, by simpa [Addr.add] using h1⟩
      obtain ⟨b, off, rfl, hlt⟩ := addr_flat hv
      refine ⟨b, off, rfl, hlt, fun i hi => ?_⟩
      have gi := World.cells?_some (hf i hi).1
      refine ⟨gi.2.1, fun j hj => ?_⟩
      have h2 := gi.2.2 j hj
      rw [add_add] at h2
      rw [← h2]
      unfold Addr.add
      split
      · rename_i h3
        rw [h3]
        simp
      · rfl
/-- A slice of strings. -/
theorem open_strs {tK tS : TypeId} {fuel : Nat} {cs : List Value} {x : DataW H × List MemPlace} (hK : P.underlying tK = some (.slice tS)) (hS : P.underlying tS = some .string) (cS : P.cellsOf tS = 1) (h : DataW.trod enc P w base sp held fuel tK cs = some x) :
    ∃ (a : Option Addr) (len cap : Nat) (ss : List ByteArray), cs = [.slice a len cap] ∧ IsStrs w a len ss := by
  obtain ⟨a, len, cap, m, f, rfl, hm, _, hr, hy⟩ := open_row hK cS (by decide) h
  have key : ∀ i, i < len → ∃ s : ByteArray, f i = [.string s] ∧ s.size ≤ maxLen := fun i hi => by
    obtain ⟨y, h1⟩ := hy i hi
    obtain ⟨s, h2, _, h3⟩ := DataW.trod_string hS h1
    exact ⟨s, h2, h3⟩
  haveI : Inhabited ByteArray := ⟨ByteArray.empty⟩
  obtain ⟨g, hg⟩ := choose_lt key
  refine ⟨a, len, cap, (List.range len).map g, rfl, by simp, hm, ?_, ⟨fun h0 => ?_⟩⟩
  · intro s hs
    obtain ⟨i, hi, rfl⟩ := List.mem_map.1 hs
    exact (hg i (List.mem_range.1 hi)).2
  · obtain ⟨b, off, e, hlt, hc⟩ := hr.at_ h0
    refine ⟨b, off, e, hlt, fun i hi => ⟨rfl, fun j hj => ?_⟩⟩
    rw [(hc i hi).2 j hj, (hg i hi).1]
    have e1 : ((List.range len).map g).getD i ByteArray.empty = g i := by
      rw [List.getD_eq_getElem?_getD, List.getElem?_map, List.getElem?_range hi]
      rfl
    rw [e1]
/-- A node that came in. -/
theorem open_nd {tN tI tJ tS tK tL : TypeId} {fs : Array Field} (T : NdTypes P tN tI tJ tS tK tL fs) : ∀ (fuel : Nat) (cs : List Value) (x : DataW H × List MemPlace), DataW.trod enc P w base sp held fuel tN cs = some x → ∃ N, IsNd w cs N := by
  intro fuel
  induction fuel using Nat.strongRecOn with
  | ind fuel ih =>
    intro cs x h
    obtain ⟨xs, n, rfl, _, hlen, hxs, hf⟩ := DataW.trod_struct T.node h
    have hfl := T.fields
    have hsz : fs.size = 5 := by
      have := congrArg List.length hfl
      simpa using this
    have hx : ∀ i, i < 5 → ∃ y, xs[i]? = some y := fun i hi => ⟨_, List.getElem?_eq_getElem (by omega)⟩
    have field : ∀ i t o, (fs.toList.map fun f => (f.type, f.offset))[i]? = some (t, o) → DataW.trod enc P w base sp held n t ((cs.drop o).take (P.cellsOf t)) = xs[i]? := fun i t o e => by
      rw [List.getElem?_map] at e
      obtain ⟨f, h1, h2⟩ := Option.map_eq_some_iff.1 e
      cases h2
      exact hf i f (by simpa using h1)
    rw [hfl] at field
    rw [T.cN] at hlen
    obtain ⟨c0, c1, c2, c3, c4, rfl⟩ : ∃ c0 c1 c2 c3 c4, cs = [c0, c1, c2, c3, c4] := by
      match cs, hlen with
      | [c0, c1, c2, c3, c4], _ => exact ⟨_, _, _, _, _, rfl⟩
    obtain ⟨y0, e0⟩ := hx 0 (by decide)
    obtain ⟨y1, e1⟩ := hx 1 (by decide)
    obtain ⟨y2, e2⟩ := hx 2 (by decide)
    obtain ⟨y3, e3⟩ := hx 3 (by decide)
    obtain ⟨y4, e4⟩ := hx 4 (by decide)
    have g0 := field 0 tI 0 rfl
    have g1 := field 1 tJ 1 rfl
    have g2 := field 2 tS 2 rfl
    have g3 := field 3 tK 3 rfl
    have g4 := field 4 tL 4 rfl
    rw [T.cI, e0] at g0
    rw [T.cJ, e1] at g1
    rw [T.cS, e2] at g2
    rw [T.cK, e3] at g3
    rw [T.cL, e4] at g4
    obtain ⟨k, r0, _, w0⟩ := DataW.trod_int T.int g0
    obtain ⟨m, r1, _, w1⟩ := DataW.trod_int T.i64 g1
    obtain ⟨s, r2, _, w2⟩ := DataW.trod_string T.str g2
    obtain ⟨ak, lk, ck, ss, r3, hk⟩ := open_strs T.keys T.str T.cS g3
    obtain ⟨al, ll, cl, fu, f, r4, hm, hfu, hr, hy⟩ := open_row T.vals T.cN (by decide) g4
    have key : ∀ i, i < ll → ∃ N, IsNd w (f i) N := fun i hi => by
      obtain ⟨y, h1⟩ := hy i hi
      exact ih fu (by omega) (f i) y h1
    haveI : Inhabited Nd := ⟨.mk 0 0 ByteArray.empty [] []⟩
    obtain ⟨g, hg⟩ := choose_lt key
    simp only [List.drop_zero, List.drop_succ_cons, List.take_succ_cons, List.take_zero, List.cons.injEq, and_true] at r0 r1 r2 r3 r4
    subst r0 r1 r2 r3 r4
    refine ⟨.mk k m s ss ((List.range ll).map g), .mk f w0 w1 w2 hk (by simp) hm hr fun i hi => ?_⟩
    have hi' : i < ll := by simpa using hi
    have e5 : ((List.range ll).map g)[i] = g i := by simp
    rw [e5]
    exact hg i hi'
end
end Go.Proofs.Ytbheiglbejokmaa
