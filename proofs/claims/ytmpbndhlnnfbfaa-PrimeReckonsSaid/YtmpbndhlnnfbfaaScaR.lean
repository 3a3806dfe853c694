/- A slice of arrays of four words that came in: what a walk is told of it, and how it is opened. -/
import Derived.Test.YtmpbndhlnnfbfaaWidT
import Derived.Deep.Slices
namespace Go.Proofs.Ytmpbndhlnnfbfaa
open Go.ChangeShapes Go.WideShapes Go.ChangeAt Go.RowKit Go.WideMaps Go.Deep
def IsNumRow (w : World) (a : Option Addr) (len : Nat) (ns : List Nat) : Prop :=
  ns.length = len ∧ len ≤ maxLen ∧ (∀ n ∈ ns, n < B64 ^ 4) ∧ (0 < len → ∃ b off, a = some ⟨b, off, none⟩ ∧ b < w.heap.size ∧ ∀ i k, i < len → k < 4 → w.cell? ⟨b, off + i * 4 + k, none⟩ = some (.int .u64 (wd (ns.getD i 0) k : Int)))
theorem trod_num4 {H : Type} {enc : TypeId × Value → H} {W : World} {base : Nat} {sp : Nat → Bool} {held : Bool} {fuel : Nat} {cs : List Value} {y : DataW H × List MemPlace}
    (h : DataW.trod enc Try.prog W base sp held fuel 23 cs = some y) (hl : cs.length = 4) : ∃ n : Nat, n < B64 ^ 4 ∧ cs = numL n := by
  match cs, hl with
  | [x0, x1, x2, x3], _ =>
    cases fuel with
    | zero => simp [DataW.trod] at h
    | succ m =>
      rw [DataW.trod_step] at h
      unfold DataW.trodStep at h
      simp only [Try.arr4.hu, Try.arr4.one, Try.arr4.size] at h
      simp only [List.length_cons, List.length_nil, if_true, List.range_succ, List.range_zero, List.nil_append, List.cons_append, List.mapM_cons, List.mapM_nil, Nat.mul_one] at h
      rcases h0 : DataW.trod enc Try.prog W base sp held m 22 [x0] with _ | y0
      · simp [h0] at h
      rcases h1 : DataW.trod enc Try.prog W base sp held m 22 [x1] with _ | y1
      · simp [h0, h1] at h
      rcases h2 : DataW.trod enc Try.prog W base sp held m 22 [x2] with _ | y2
      · simp [h0, h1, h2] at h
      rcases h3 : DataW.trod enc Try.prog W base sp held m 22 [x3] with _ | y3
      · simp [h0, h1, h2, h3] at h
      obtain ⟨n0, e0, -, w0⟩ := DataW.trod_int Try.underlying22 h0
      obtain ⟨n1, e1, -, w1⟩ := DataW.trod_int Try.underlying22 h1
      obtain ⟨n2, e2, -, w2⟩ := DataW.trod_int Try.underlying22 h2
      obtain ⟨n3, e3, -, w3⟩ := DataW.trod_int Try.underlying22 h3
      simp only [List.cons.injEq, and_true] at e0 e1 e2 e3
      subst e0 e1 e2 e3
      have wb : ∀ n : Int, (Lit.int .u64 n).wf = true → 0 ≤ n ∧ n < 18446744073709551616 := fun n h => by
        simp [Lit.wf] at h
        have e1 : IntKind.u64.min = 0 := by decide
        have e2 : IntKind.u64.max = 18446744073709551615 := by decide
        omega
      have b0 := wb n0 w0
      have b1 := wb n1 w1
      have b2 := wb n2 w2
      have b3 := wb n3 w3
      have hp : ∀ k : Nat, (if k = 0 then n0.toNat else if k = 1 then n1.toNat else if k = 2 then n2.toNat else if k = 3 then n3.toNat else 0) < B64 := fun k => by
        unfold B64
        split
        · omega
        · split
          · omega
          · split
            · omega
            · split <;> omega
      refine ⟨valW (fun k => if k = 0 then n0.toNat else if k = 1 then n1.toNat else if k = 2 then n2.toNat else if k = 3 then n3.toNat else 0) 4, valW_lt _ hp 4, ?_⟩
      have e := rowQ_num _ _ hp rfl
      have e2 : rowQ (fun k => if k = 0 then n0.toNat else if k = 1 then n1.toNat else if k = 2 then n2.toNat else if k = 3 then n3.toNat else 0) = numL (valW (fun k => if k = 0 then n0.toNat else if k = 1 then n1.toNat else if k = 2 then n2.toNat else if k = 3 then n3.toNat else 0) 4) := by
        have e3 : (Value.agg (rowQ fun k => if k = 0 then n0.toNat else if k = 1 then n1.toNat else if k = 2 then n2.toNat else if k = 3 then n3.toNat else 0).toArray) = .agg (numL (valW (fun k => if k = 0 then n0.toNat else if k = 1 then n1.toNat else if k = 2 then n2.toNat else if k = 3 then n3.toNat else 0) 4)).toArray := e
        injection e3 with e4
        exact congrArg Array.toList e4
      rw [← e2]
      unfold rowQ
      simp only [if_true, Nat.one_ne_zero, if_false]
      rw [Int.toNat_of_nonneg b0.1]
      simp [Int.toNat_of_nonneg b1.1, Int.toNat_of_nonneg b2.1, Int.toNat_of_nonneg b3.1]
theorem open_nums {H : Type} {enc : TypeId × Value → H} {W : World} {base : Nat} {sp : Nat → Bool} {held : Bool} {a : Option Addr} {len cap : Nat} {d : DataW H} {ps : List MemPlace}
    (hd : DataW.Trod enc Try.prog W base sp held 43 (.slice a len cap) d ps) : ∃ ns, IsNumRow W a len ns := by
  obtain ⟨fuel, hf⟩ := hd
  have hce : Try.prog.cellsOf 23 = 4 := by kernel_rfl
  rcases open_slice Try.underlying43 hf with ⟨hcs, _⟩ | ⟨x, l, c, m, n, D, Pl, hcs, _, hl, hm, hmm, _, hel⟩
  · simp [Value.cells] at hcs
    obtain ⟨rfl, rfl, rfl⟩ := hcs
    refine ⟨[], rfl, by decide, fun n hn => ?_, fun h0 => absurd h0 (by omega)⟩
    simp at hn
  · simp [Value.cells] at hcs
    obtain ⟨rfl, rfl, rfl⟩ := hcs
    have hlm : len ≤ m := by rw [hmm]; split <;> omega
    have each : ∀ i, i < len → ∃ v : Nat, v < B64 ^ 4 ∧ ∀ k, k < 4 → W.cell? ((x.add (i * 4)).add k) = some (.int .u64 (wd v k : Int)) := fun i hi => by
      obtain ⟨cs', h1, h2⟩ := hel i (by omega)
      rw [hce] at h1
      obtain ⟨hb, hlen, hcell⟩ := World.cells?_some h1
      obtain ⟨v, hv, rfl⟩ := trod_num4 h2 hlen
      refine ⟨v, hv, fun k hk => ?_⟩
      rw [hcell k hk]
      exact numL_get v k hk
    have hch : ∃ f : Nat → Nat, ∀ i, i < len → f i < B64 ^ 4 ∧ ∀ k, k < 4 → W.cell? ((x.add (i * 4)).add k) = some (.int .u64 (wd (f i) k : Int)) :=
      ⟨fun i => if h : i < len then Classical.choose (each i h) else 0, fun i hi => by
        simp only [dif_pos hi]
        exact Classical.choose_spec (each i hi)⟩
    obtain ⟨f, hfn⟩ := hch
    refine ⟨(List.range len).map f, by simp, by omega, fun n h => ?_, fun h0 => ?_⟩
    · obtain ⟨i, hi, rfl⟩ := List.mem_map.1 h
      exact (hfn i (by simpa using hi)).1
    · obtain ⟨b, off, spot⟩ := x
      have c0 := (hfn 0 h0).2 0 (by omega)
      have hspot : spot = none := by simpa [Addr.add] using World.cell?_spot c0
      subst hspot
      have hadd : ∀ i k, ((⟨b, off, none⟩ : Addr).add (i * 4)).add k = ⟨b, off + i * 4 + k, none⟩ := fun i k => by
        rw [add_add]
        unfold Addr.add
        split
        · rename_i h
          have h1 : i = 0 := by omega
          have h2 : k = 0 := by omega
          subst h1 h2
          rfl
        · simp [Nat.add_assoc]
      refine ⟨b, off, rfl, ?_, fun i k hi hk => ?_⟩
      · apply Nat.lt_of_not_le
        intro hb
        rw [hadd] at c0
        simp [World.cell?, Array.getElem?_eq_none hb] at c0
      · rw [← hadd, (hfn i hi).2 k hk]
        have e : ((List.range len).map f).getD i 0 = f i := by
          rw [List.getD_eq_getElem?_getD, List.getElem?_map, List.getElem?_range hi]
          rfl
        rw [e]
end Go.Proofs.Ytmpbndhlnnfbfaa
