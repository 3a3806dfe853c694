/- A node that came in, opened: its nodes are at most as many as its reading's bulk. -/
import Derived.Test.YtbheiglbejokmaaRows
import Derived.Test.YtbheiglbejokmaaNodG
namespace Go.Proofs.Ytbheiglbejokmaa
set_option maxRecDepth 20000
set_option linter.unusedSimpArgs false
set_option linter.unusedVariables false
open Go.RowKit Go.Deep
section
variable {H : Type}
theorem bulk_one (d : DataW H) : 1 ≤ Rows.uptoBulk d := by
  cases d with
  | lit l => cases l <;> simp [Rows.uptoBulk]
  | _ => simp [Rows.uptoBulk]
theorem bulk_mem {d : DataW H} : ∀ {l : List (DataW H)}, d ∈ l → Rows.uptoBulk d ≤ Rows.uptoBulkAll l
  | [], h => by cases h
  | x :: r, h => by
    rw [Rows.uptoBulkAll]
    rcases List.mem_cons.1 h with rfl | h
    · omega
    · have := bulk_mem h; omega
theorem bulk_append (l r : List (DataW H)) : Rows.uptoBulkAll (l ++ r) = Rows.uptoBulkAll l + Rows.uptoBulkAll r := by
  induction l with
  | nil => simp [Rows.uptoBulkAll]
  | cons x l ih => simp only [List.cons_append, Rows.uptoBulkAll, ih]; omega
theorem allL_bulk : ∀ (ls : List Nd) (ds : List (DataW H)), ls.length = ds.length → (∀ (i : Nat) (h : i < ls.length) (h2 : i < ds.length), (ls[i]).all.length ≤ Rows.uptoBulk ds[i]) → (Nd.allL ls).length ≤ Rows.uptoBulkAll ds
  | [], _, _, _ => by rw [Nd.allL]; exact Nat.zero_le _
  | x :: ls, [], h, _ => by simp at h
  | x :: ls, d :: ds, h, hb => by
    rw [Nd.allL, Rows.uptoBulkAll, List.length_append]
    have h1 := hb 0 (by simp) (by simp)
    have h2 := allL_bulk ls ds (by simpa using h) (fun i hi hj => hb (i + 1) (by simpa using hi) (by simpa using hj))
    have h1 : x.all.length ≤ Rows.uptoBulk d := h1
    omega
variable {enc : TypeId × Value → H} {P : Program} {w : World} {base : Nat} {sp : Nat → Bool} {held : Bool}
/-- A slice whose elements were read: a row, and what its elements read as. -/
theorem open_row2 {t e : TypeId} {size fuel : Nat} {cs : List Value} {x : DataW H × List MemPlace} (ht : P.underlying t = some (.slice e)) (hc : P.cellsOf e = size) (h0 : 0 < size) (h : DataW.trod enc P w base sp held fuel t cs = some x) :
    ∃ (a : Option Addr) (len cap m : Nat) (f : Nat → List Value) (ds : List (DataW H)), cs = [.slice a len cap] ∧ len ≤ maxLen ∧ m < fuel ∧ RowAt w a len size f ∧ ds.length = len ∧ Rows.uptoBulkAll ds + 1 ≤ Rows.uptoBulk x.1 ∧ ∀ (i : Nat) (hi : i < ds.length), ∃ y, DataW.trod enc P w base sp held m e (f i) = some y ∧ y.1 = ds[i] := by
  obtain ⟨a, len, cap, m, f, rfl, hm, hmf, hr, hy⟩ := open_row ht hc h0 h
  cases fuel with
  | zero => simp [DataW.trod] at h
  | succ n =>
    rcases DataW.trod_slice ht h with ⟨e1, rfl⟩ | ⟨a', len', cap', elems, rest, m', hm', e1, rfl, hb, hl, hcm, hlen, hel, _, _⟩
    · simp only [List.cons.injEq, and_true, Value.slice.injEq] at e1
      obtain ⟨rfl, rfl, rfl⟩ := e1
      exact ⟨none, 0, 0, n, f, [], rfl, Nat.zero_le _, Nat.lt_succ_self n, hr, rfl, by simp [Rows.uptoBulk, Rows.uptoBulkAll], fun i hi => absurd hi (by simp)⟩
    · simp only [List.cons.injEq, and_true, Value.slice.injEq] at e1
      obtain ⟨rfl, rfl, rfl⟩ := e1
      refine ⟨some a', len, cap, m', f, elems.map (·.1), rfl, hm, by omega, hr, by simpa using hlen, by simp only [Rows.uptoBulk]; omega, fun i hi => ?_⟩
      have hi2 : i < elems.length := by simpa using hi
      have hi3 : i < len := by omega
      have h1 := hel i hi3
      rw [hc, List.getElem?_eq_getElem hi2] at h1
      obtain ⟨c, h2, h3⟩ := Option.bind_eq_some_iff.1 h1
      have hcf : c = f i := by
        obtain ⟨b, off, ea, hlt, hcell⟩ := hr.at_ (by omega)
        cases ea
        have gi := World.cells?_some h2
        apply List.ext_getElem?
        intro j
        by_cases hj : j < size
        · have g2 := gi.2.2 j hj
          have g3 := (hcell i hi3).2 j hj
          rw [← g2, ← g3, add_add]
          congr 1
          unfold Addr.add
          split
          · rename_i e9
            simp only [e9, Nat.add_zero]
          · rfl
        · rw [List.getElem?_eq_none (by rw [gi.2.1]; omega), List.getElem?_eq_none (by rw [(hcell i hi3).1]; omega)]
      rw [hcf] at h3
      exact ⟨_, h3, by simp⟩
theorem open_nd2 {tN tI tJ tS tK tL : TypeId} {fs : Array Field} (T : NdTypes P tN tI tJ tS tK tL fs) : ∀ (fuel : Nat) (cs : List Value) (x : DataW H × List MemPlace), DataW.trod enc P w base sp held fuel tN cs = some x → ∃ N, IsNd w cs N ∧ N.all.length ≤ Rows.uptoBulk x.1 := by
  intro fuel
  induction fuel using Nat.strongRecOn with
  | ind fuel ih =>
    intro cs x h
    obtain ⟨xs, n, rfl, rfl, hlen, hxs, hf⟩ := DataW.trod_struct T.node h
    have hfl := T.fields
    have hsz : fs.size = 5 := by
      have := congrArg List.length hfl
      simpa using this
    have hx : ∀ i, i < 5 → ∃ y, xs[i]? = some y := fun i hi => ⟨_, List.getElem?_eq_getElem (by omega)⟩
    have field : ∀ i t o, (fs.toList.map fun f => (f.type, f.offset))[i]? = some (t, o) → DataW.trod enc P w base sp held n t ((cs.drop o).take (P.cellsOf t)) = xs[i]? := fun i t o e => by
      rw [List.getElem?_map] at e
      obtain ⟨f, h1, h2⟩ := Option.map_eq_some_iff.1 e
      cases h2
      exact hf i f (by simpa using h1)
    rw [hfl] at field
    rw [T.cN] at hlen
    obtain ⟨c0, c1, c2, c3, c4, rfl⟩ : ∃ c0 c1 c2 c3 c4, cs = [c0, c1, c2, c3, c4] := by
      match cs, hlen with
      | [c0, c1, c2, c3, c4], _ => exact ⟨_, _, _, _, _, rfl⟩
    obtain ⟨y0, e0⟩ := hx 0 (by decide)
    obtain ⟨y1, e1⟩ := hx 1 (by decide)
    obtain ⟨y2, e2⟩ := hx 2 (by decide)
    obtain ⟨y3, e3⟩ := hx 3 (by decide)
    obtain ⟨y4, e4⟩ := hx 4 (by decide)
    have g0 := field 0 tI 0 rfl
    have g1 := field 1 tJ 1 rfl
    have g2 := field 2 tS 2 rfl
    have g3 := field 3 tK 3 rfl
    have g4 := field 4 tL 4 rfl
    rw [T.cI, e0] at g0
    rw [T.cJ, e1] at g1
    rw [T.cS, e2] at g2
    rw [T.cK, e3] at g3
    rw [T.cL, e4] at g4
    obtain ⟨k, r0, _, w0⟩ := DataW.trod_int T.int g0
    obtain ⟨m, r1, _, w1⟩ := DataW.trod_int T.i64 g1
    obtain ⟨s, r2, _, w2⟩ := DataW.trod_string T.str g2
    obtain ⟨ak, lk, ck, ss, r3, hk⟩ := open_strs T.keys T.str T.cS g3
    obtain ⟨al, ll, cl, fu, f, ds, r4, hm, hfu, hr, hdl, hbk, hy⟩ := open_row2 T.vals T.cN (by decide) g4
    have key : ∀ i, i < ll → ∃ N, IsNd w (f i) N ∧ ∀ h : i < ds.length, N.all.length ≤ Rows.uptoBulk ds[i] := fun i hi => by
      obtain ⟨y, h1, h2⟩ := hy i (by omega)
      obtain ⟨N, h3, h4⟩ := ih fu (by omega) (f i) y h1
      exact ⟨N, h3, fun h => by rw [← h2]; exact h4⟩
    haveI : Inhabited Nd := ⟨.mk 0 0 ByteArray.empty [] []⟩
    obtain ⟨g, hg⟩ := choose_lt key
    simp only [List.drop_zero, List.drop_succ_cons, List.take_succ_cons, List.take_zero, List.cons.injEq, and_true] at r0 r1 r2 r3 r4
    subst r0 r1 r2 r3 r4
    refine ⟨.mk k m s ss ((List.range ll).map g), .mk f w0 w1 w2 hk (by simp) hm hr fun i hi => ?_, ?_⟩
    · have hi' : i < ll := by simpa using hi
      have e5 : ((List.range ll).map g)[i] = g i := by simp
      rw [e5]
      exact (hg i hi').1
    · rw [Nd.all, List.length_cons]
      have h1 := allL_bulk ((List.range ll).map g) ds (by simp [hdl]) (fun i hi h2 => by
        have e5 : ((List.range ll).map g)[i] = g i := by simp
        rw [e5]
        exact (hg i (by simpa using hi)).2 h2)
      have h2 : y4.1 ∈ xs.map (·.1) := List.mem_map.2 ⟨y4, List.mem_of_getElem? e4, rfl⟩
      have h3 := bulk_mem h2
      rw [Rows.uptoBulk]
      omega
end
end Go.Proofs.Ytbheiglbejokmaa
