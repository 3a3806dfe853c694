/- What came in, opened (layer 49). -/
import Derived.Test.YtdnkpclpcelbaaaDoorRepI
import Derived.Test.YtdnkpclpcelbaaaDoorTexts
import Derived.Test.YtdnkpclpcelbaaaDoorRows
import Derived.SliceStrings
import Derived.OpenShut
import Derived.Lib.LaidTab
import Derived.LaidSub
namespace Go.Proofs.YtdnkpclpcelbaaaDoor
set_option maxRecDepth 20000
set_option linter.unusedSimpArgs false
set_option linter.unusedVariables false
open Go.RowKit Go.ChangeShapes Go.WideShapes
section
variable {H : Type} {enc : TypeId × Value → H} {w : World} {base : Nat} {sp : Nat → Bool} {held : Bool}
theorem bulk_strs : ∀ (l : List ByteArray) (s : ByteArray), s ∈ l → s.data.toList.length ≤ Rows.uptoBulkAll (H := H) (strs l)
  | x :: l, s, h => by
    rw [show (strs (x :: l) : List (DataW H)) = .lit (.string x.data.toList) :: strs l from rfl, Rows.uptoBulkAll, Rows.uptoBulk]
    rcases List.mem_cons.1 h with rfl | h
    · omega
    · have := bulk_strs l s h
      omega
theorem open_words {a : Option Addr} {len cap : Nat} {d : DataW H} {ps : List MemPlace} (hd : DataW.Trod enc Tryd.prog w base sp held SlS (.slice a len cap) d ps) :
    ∃ L, L.length = len ∧ TxS w (.slice a len cap) L ∧ ∀ i, (L.getD i []).length ≤ Rows.uptoBulk d := by
  obtain ⟨fuel, hf⟩ := hd
  rcases open_strings Tryd.underlying46 Tryd.underlying9 (by kernel_rfl) hf with ⟨hcs, hx⟩ | ⟨x, l, c, ss, hcs, _, hl, hm, hz, hx, hcell, hws⟩
  · simp only [Value.cells, List.cons.injEq, and_true, Value.slice.injEq] at hcs
    obtain ⟨rfl, rfl, rfl⟩ := hcs
    exact ⟨[], rfl, ⟨_, _, rfl, fun h => absurd rfl h⟩, fun i => by simp⟩
  · simp only [Value.cells, List.cons.injEq, and_true, Value.slice.injEq] at hcs
    obtain ⟨rfl, rfl, rfl⟩ := hcs
    have hd : d = .slice (strs (ss.take len)) (strs (ss.drop len)) := congrArg Prod.fst hx
    have hlen : (ss.take len).length = len := by
      rw [List.length_take, hz]
      split <;> omega
    have hgd : ∀ i, i < len → ((ss.take len).map fun s => s.data.toList).getD i [] = (ss.getD i ByteArray.empty).data.toList := fun i hi => by
      have h1 : i < ss.length := by rw [List.length_take] at hlen; omega
      rw [List.getD_eq_getElem?_getD, List.getElem?_map, List.getElem?_take_of_lt hi, List.getD_eq_getElem?_getD, List.getElem?_eq_getElem h1]
      rfl
    refine ⟨(ss.take len).map fun s => s.data.toList, by rw [List.length_map, hlen], ⟨some x, cap, by rw [List.length_map, hlen], fun hn => ?_⟩, fun i => ?_⟩
    · have h0 : 0 < len := by
        rcases Nat.eq_zero_or_pos len with h | h
        · subst h
          exact absurd rfl hn
        · exact h
      have hsl : len ≤ ss.length := by rw [List.length_take] at hlen; omega
      obtain ⟨b, off, spot⟩ := x
      have hc := hcell 0 (by omega)
      have hspot : spot = none := by simpa [Addr.add] using World.cell?_spot hc
      subst hspot
      have hb := blk_of_cell hc
      refine ⟨b, off, rfl, by simpa [Addr.add] using hb, fun i hi => ?_⟩
      rw [List.length_map, hlen] at hi
      rw [hgd i hi]
      have h1 := hcell i (by omega)
      by_cases e : i = 0
      · subst e; simpa [Addr.add] using h1
      · simpa [Addr.add, e] using h1
    · by_cases hi : i < len
      · rw [hgd i hi, hd, Rows.uptoBulk]
        have hsl : len ≤ ss.length := by rw [List.length_take] at hlen; omega
        have h1 : i < ss.length := by omega
        have hm : ss.getD i ByteArray.empty ∈ ss.take len := by
          rw [List.getD_eq_getElem?_getD, List.getElem?_eq_getElem h1]
          exact List.mem_take_iff_getElem.2 ⟨i, by omega, rfl⟩
        have := bulk_strs (H := H) _ _ hm
        omega
      · rw [List.getD_eq_getElem?_getD, List.getElem?_eq_none (by rw [List.length_map, hlen]; omega)]
        simp
theorem open_verd {v : Value} {d : DataW H} {ps : List MemPlace} {b0 : Nat} (hval : Value.okWide Tryd.prog w .any b0 VerT v) (hd : DataW.Trod enc Tryd.prog w base sp held VerT v d ps) :
    ∃ (I : List UInt8) (red : Bool) (E : Int), v = .agg #[.string ⟨I.toArray⟩, .bool red, .int .i64 E] ∧ I.length ≤ Rows.uptoBulk d ∧ -9223372036854775808 ≤ E ∧ E ≤ 9223372036854775807 := by
  obtain ⟨c, rfl, hcz⟩ := okWide_struct Tryd.underlying48 hval
  obtain ⟨fuel, hf⟩ := hd
  simp only [Value.cells] at hf
  obtain ⟨xs, n, _, hx, hlen, hxs, hf⟩ := DataW.trod_struct Tryd.underlying48 hf
  have c5 : Tryd.prog.cellsOf VerT = 3 := by kernel_rfl
  rw [c5] at hlen
  obtain ⟨c0, c1, c2, hc⟩ : ∃ c0 c1 c2, c.toList = [c0, c1, c2] := by
    match h : c.toList, hlen with
    | [c0, c1, c2], _ => exact ⟨_, _, _, rfl⟩
  obtain rfl : c = #[c0, c1, c2] := by rw [← Array.toArray_toList (xs := c), hc]
  have hxe : ∀ i, i < 3 → ∃ y, xs[i]? = some y := fun i hi => ⟨_, List.getElem?_eq_getElem (by rw [hxs]; exact hi)⟩
  have cI : Tryd.prog.cellsOf 23 = 1 := by kernel_rfl
  have cS : Tryd.prog.cellsOf 9 = 1 := by kernel_rfl
  have cB : Tryd.prog.cellsOf 4 = 1 := by kernel_rfl
  obtain ⟨y0, e0⟩ := hxe 0 (by decide)
  obtain ⟨y1, e1⟩ := hxe 1 (by decide)
  obtain ⟨y2, e2⟩ := hxe 2 (by decide)
  have g0 : DataW.trod enc Tryd.prog w base sp held n 9 (([c0, c1, c2].drop 0).take (Tryd.prog.cellsOf 9)) = xs[0]? := hf 0 _ rfl
  have g1 : DataW.trod enc Tryd.prog w base sp held n 4 (([c0, c1, c2].drop 1).take (Tryd.prog.cellsOf 4)) = xs[1]? := hf 1 _ rfl
  have g2 : DataW.trod enc Tryd.prog w base sp held n 23 (([c0, c1, c2].drop 2).take (Tryd.prog.cellsOf 23)) = xs[2]? := hf 2 _ rfl
  rw [e0, cS] at g0
  rw [e1, cB] at g1
  rw [e2, cI] at g2
  obtain ⟨s, r0, hy0, _⟩ := DataW.trod_string Tryd.underlying9 g0
  obtain ⟨m, r1, _⟩ := DataW.trod_bool Tryd.underlying4 g1
  obtain ⟨z, r2, _, hz⟩ := DataW.trod_int Tryd.underlying23 g2
  simp only [List.drop_zero, List.drop_succ_cons, List.take_succ_cons, List.take_zero, List.cons.injEq, and_true] at r0 r1 r2
  subst r0 r1 r2
  have hE : -9223372036854775808 ≤ z ∧ z ≤ 9223372036854775807 := by simpa [Lit.wf, IntKind.min, IntKind.max, IntKind.signed, IntKind.bits] using hz
  refine ⟨s.data.toList, m, z, by rw [Array.toArray_toList], ?_, hE.1, hE.2⟩
  have hd : d = .agg (xs.map (·.1)) := congrArg Prod.fst hx
  have hx0 : xs = y0 :: xs.tail := by
    cases xs with
    | nil => cases e0
    | cons a l => rw [List.getElem?_cons_zero] at e0; rw [Option.some.inj e0]; rfl
  rw [hd, hx0, Rows.uptoBulk, List.map_cons, Rows.uptoBulkAll, hy0, Rows.uptoBulk]
  omega
end
theorem gPow : (Tryd.prog.globals[1]?).map (·.type) = some 131 := by kernel_rfl
theorem cellsPow : Tryd.prog.cellsOf 131 = 20 := by kernel_rfl
theorem cellsU6 : Tryd.prog.cellsOf 110 = 1 := by kernel_rfl
theorem laidPow : (Rows.laid_internal_strconv_uint64pow10 : DataW Unit) = Lib.tabData .u64 Lib.pow10Tab := by rfl
theorem tab_of_rep {W : World} (h : laidMetH Tryd.prog Rows.reportLinesRow.laid W) : Tab W := by
  have h2 := laidMetH.filter (fun x => x.1 == "internal/strconv.uint64pow10") h
  have e : (Rows.reportLinesRow.laid.filter fun x => x.1 == "internal/strconv.uint64pow10") = [("internal/strconv.uint64pow10", Lib.tabData .u64 Lib.pow10Tab)] := by
    rw [← laidPow]
    rfl
  rw [e] at h2
  exact Lib.tabIs_of_head (rest := []) gTab gPow Tryd.underlying131 Tryd.underlying110 cellsU6 cellsPow h2
theorem max_of_rep {W : World} (h : W.ShapedOpen Tryd.prog) : ∃ m, W.cell? ⟨gMax, 0, none⟩ = some (.int .i64 m) := Tryd.laysM145.s1_3 W h
end Go.Proofs.YtdnkpclpcelbaaaDoor
