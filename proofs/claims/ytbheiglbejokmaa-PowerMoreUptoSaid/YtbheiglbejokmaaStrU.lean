/- Two texts in an array that came in, opened. -/
import Derived.Test.YtbheiglbejokmaaRulU
import Derived.OpenShut
import Derived.WideKeyArr2
namespace Go.Proofs.Ytbheiglbejokmaa
set_option maxRecDepth 20000
set_option linter.unusedSimpArgs false
set_option linter.unusedVariables false
open Go.ChangeShapes Go.WideShapes Go.ChangeAt Go.RowKit Go.WideMaps
theorem Try.arrS2 : ArrKey Try.prog 62 9 2 := ⟨Try.underlying62, by kernel_rfl, by kernel_rfl, by kernel_rfl⟩
theorem open_s2 {H : Type} {enc : TypeId × Value → H} {W : World} {b0 base : Nat} {sp : Nat → Bool} {held : Bool} {v : Value} {d : DataW H} {ps : List MemPlace}
    (hval : Value.okWide Try.prog W .any b0 62 v) (hd : DataW.Trod enc Try.prog W base sp held 62 v d ps) :
    ∃ a b : ByteArray, v = .agg #[.string a, .string b] := by
  obtain ⟨xs, rfl, hn⟩ := okWide_arr Try.arrS2 hval
  obtain ⟨x0, x1, rfl⟩ : ∃ x0 x1, xs = #[x0, x1] := by
    obtain ⟨l⟩ := xs
    match l, hn with
    | [a, b], _ => exact ⟨a, b, rfl⟩
  obtain ⟨fuel, hf⟩ := hd
  obtain ⟨ys, m, rfl, _, _, hys, hat⟩ := DataW.trod_array Try.underlying62 hf
  have cS : Try.prog.cellsOf 9 = 1 := by kernel_rfl
  have h0 := hat 0 (by decide)
  have h1 := hat 1 (by decide)
  rw [cS] at h0 h1
  rw [List.getElem?_eq_getElem (by omega)] at h0 h1
  obtain ⟨a, r0, _, _⟩ := DataW.trod_string Try.underlying9 h0
  obtain ⟨b, r1, _, _⟩ := DataW.trod_string Try.underlying9 h1
  simp [Value.cells] at r0 r1
  subst r0 r1
  exact ⟨a, b, rfl⟩
end Go.Proofs.Ytbheiglbejokmaa
