/- UtfOrders: its walk. -/
import Derived.Test.YtcadklhjhjbhaaaDoorUtfK
import Derived.Lib.QuietBelow
import Derived.BigQuiet
namespace Go.Proofs.YtcadklhjhjbhaaaDoor
set_option maxRecDepth 20000
set_option linter.unusedSimpArgs false
set_option linter.unusedVariables false
open Go.RowKit
/-- A slice of numbers that a callee made. -/
structure RowN (w : World) (v : Value) (ns : List Nat) : Prop where
  ex : ∃ o c, v = .slice o ns.length c ∧ (0 < ns.length → ∃ g, o = some ⟨g, 0, none⟩ ∧ g < w.heap.size ∧ ∀ i, i < ns.length → w.cell? ⟨g, i, none⟩ = some (.int .i64 ((ns.getD i 0 : Nat) : Int)))
theorem rowN_of {w : World} {base : Nat} {v : Value} {l : List UInt8} (h : w.ownsRow base 2 1 v (cpsAt l 0).length (cpV (cpsAt l 0))) : RowN w v (cpN l) := by
  have hlen : (cpN l).length = (cpsAt l 0).length := List.length_map _
  obtain ⟨hl, hv | ⟨g, cap, cur, rfl, _, hg, hn, _, hcur, htake⟩⟩ := h
  · obtain ⟨rfl, hv⟩ := hv
    refine ⟨none, 0, by rw [hlen, hv], fun h => absurd h (by omega)⟩
  · refine ⟨some ⟨g, 0, none⟩, cap, by rw [hlen], fun _ => ⟨g, rfl, (Array.getElem?_eq_some_iff.1 hg).1, fun i hi => ?_⟩⟩
    rw [hlen] at hi
    have h1 : (cur.toList.take ((cpsAt l 0).length * 1))[i]? = some (.int .i64 (((cpN l).getD i 0 : Nat) : Int)) := by
      rw [htake]
      simp [cpV, cpN, hi]
    rw [List.getElem?_take, if_pos (by omega)] at h1
    simpa [World.cell?, hg] using h1
theorem RowN.keep {w w' : World} {v : Value} {ns : List Nat} (h : RowN w v ns) (hb : Below w.heap.size w w') : RowN w' v ns := by
  obtain ⟨o, c, e, hc⟩ := h.ex
  refine ⟨o, c, e, fun h0 => ?_⟩
  obtain ⟨g, eo, hg, hcell⟩ := hc h0
  exact ⟨g, eo, Nat.lt_of_lt_of_le hg hb.size, fun i hi => (hb.cell (p := ⟨g, i, none⟩) hg).trans (hcell i hi)⟩
theorem rall_rows (s : ByteArray) (w : World) (hs : s.size ≤ 100000) :
    Calls Tryd.prog 27 #[.string s] w fun e w' => ∃ v5 v6 a, e = .returned (.tuple #[v5, v6, .int .i64 (a : Int)]) ∧ RowN w' v5 (cpN s.data.toList) ∧ Below w.heap.size w w' :=
  (rall_any s w hs).mono fun e w' ⟨v5, v6, a, he, _, h5, _, hb⟩ => ⟨v5, v6, (a : Nat), he, rowN_of h5, hb⟩
theorem cmp_at {xs ys : List Nat} {k : Nat} (h1 : k < xs.length) (h2 : k < ys.length) : cmpN (xs.drop k) (ys.drop k) = if xs.getD k 0 < ys.getD k 0 then -1 else if ys.getD k 0 < xs.getD k 0 then 1 else cmpN (xs.drop (k + 1)) (ys.drop (k + 1)) := by
  rw [List.drop_eq_getElem_cons h1, List.drop_eq_getElem_cons h2, cmpN]
  have e1 : xs.getD k 0 = xs[k] := by rw [List.getD_eq_getElem?_getD, List.getElem?_eq_getElem h1]; rfl
  have e2 : ys.getD k 0 = ys[k] := by rw [List.getD_eq_getElem?_getD, List.getElem?_eq_getElem h2]; rfl
  rw [e1, e2]
theorem cmp_end {xs ys : List Nat} {k : Nat} (h1 : k ≤ xs.length) (h2 : k ≤ ys.length) (h : k = xs.length ∨ k = ys.length) : cmpN (xs.drop k) (ys.drop k) = if xs.length < ys.length then -1 else if ys.length < xs.length then 1 else 0 := by
  rcases h with rfl | rfl
  · rw [List.drop_length]
    cases hd : ys.drop xs.length with
    | nil =>
      have := congrArg List.length hd
      simp at this
      rw [if_neg (by omega), if_neg (by omega)]; rfl
    | cons y t =>
      have := congrArg List.length hd
      simp at this
      rw [if_pos (by omega)]; rfl
  · rw [List.drop_length]
    cases hd : xs.drop ys.length with
    | nil =>
      have := congrArg List.length hd
      simp at this
      rw [if_neg (by omega), if_neg (by omega)]; rfl
    | cons y t =>
      have := congrArg List.length hd
      simp at this
      rw [if_neg (by omega), if_pos (by omega)]; rfl
theorem cpN_len (s : ByteArray) (h : s.size ≤ 200) : (cpN s.data.toList).length ≤ 200 := by
  have h1 := cps_len (s.data.toList.length - 0) s.data.toList 0 rfl
  have h2 : (cpN s.data.toList).length = (cpsAt s.data.toList 0).length := List.length_map _
  have h3 := (Lib.size_eq s).symm
  omega
end Go.Proofs.YtcadklhjhjbhaaaDoor
