/- Numbers of four words as arguments of a law: how they are opened and shut. -/
import Derived.Test.YthdbadomppohbaaWidD
import Derived.ProofKit
import Derived.OpenShut
import Derived.ShutString
import Derived.ChangeOld
import Derived.Below
import Derived.WideKeyArr2
namespace Go.Proofs.Ythdbadomppohbaa
set_option maxRecDepth 20000
set_option linter.unusedSimpArgs false
set_option linter.unusedVariables false
open Go.ChangeShapes Go.WideShapes Go.ChangeAt Go.RowKit Go.WideMaps
theorem Try.arr4 : ArrKey Try.prog 23 22 4 := ⟨Try.underlying23, by kernel_rfl, by kernel_rfl, by kernel_rfl⟩
theorem trod_u64 {H : Type} (enc : TypeId × Value → H) (W : World) (base : Nat) (sp : Nat → Bool) (held : Bool) (m : Nat) (n : Int) (hw : (Lit.int .u64 n).wf = true) :
    DataW.trod enc Try.prog W base sp held (m + 1) 22 [.int .u64 n] = some (.lit (.int .u64 n), []) := by
  rw [DataW.trod_step]
  unfold DataW.trodStep
  simp only [Try.underlying22]
  simp [hw]
theorem open_num {H : Type} {enc : TypeId × Value → H} {W : World} {b0 base : Nat} {sp : Nat → Bool} {held : Bool} {v : Value} {d : DataW H} {ps : List MemPlace}
    (hval : Value.okWide Try.prog W .any b0 23 v) (hd : DataW.Trod enc Try.prog W base sp held 23 v d ps) :
    ∃ n : Nat, n < B64 ^ 4 ∧ v = numV n ∧ ps = [] ∧ ∀ W' b' sp', DataW.Trod enc Try.prog W' b' sp' held 23 v d [] := by
  obtain ⟨xs, rfl, hn⟩ := okWide_arr Try.arr4 hval
  obtain ⟨x0, x1, x2, x3, rfl⟩ : ∃ x0 x1 x2 x3, xs = #[x0, x1, x2, x3] := by
    obtain ⟨l⟩ := xs
    match l, hn with
    | [a, b, c, d], _ => exact ⟨a, b, c, d, rfl⟩
  obtain ⟨fuel, hf⟩ := hd
  cases fuel with
  | zero => simp [DataW.trod] at hf
  | succ m =>
    rw [DataW.trod_step] at hf
    unfold DataW.trodStep at hf
    simp only [Try.arr4.hu, Value.cells, Try.arr4.one, Try.arr4.size] at hf
    simp only [List.length_cons, List.length_nil, if_true, List.range_succ, List.range_zero, List.nil_append, List.cons_append, List.mapM_cons, List.mapM_nil, Nat.mul_one] at hf
    rcases h0 : DataW.trod enc Try.prog W base sp held m 22 [x0] with _ | y0
    · simp [h0] at hf
    rcases h1 : DataW.trod enc Try.prog W base sp held m 22 [x1] with _ | y1
    · simp [h0, h1] at hf
    rcases h2 : DataW.trod enc Try.prog W base sp held m 22 [x2] with _ | y2
    · simp [h0, h1, h2] at hf
    rcases h3 : DataW.trod enc Try.prog W base sp held m 22 [x3] with _ | y3
    · simp [h0, h1, h2, h3] at hf
    simp [h0, h1, h2, h3] at hf
    obtain ⟨n0, e0, rfl, w0⟩ := DataW.trod_int Try.underlying22 h0
    obtain ⟨n1, e1, rfl, w1⟩ := DataW.trod_int Try.underlying22 h1
    obtain ⟨n2, e2, rfl, w2⟩ := DataW.trod_int Try.underlying22 h2
    obtain ⟨n3, e3, rfl, w3⟩ := DataW.trod_int Try.underlying22 h3
    simp only [List.cons.injEq, and_true] at e0 e1 e2 e3
    subst e0 e1 e2 e3
    obtain ⟨rfl, rfl⟩ := hf
    have wb : ∀ n : Int, (Lit.int .u64 n).wf = true → 0 ≤ n ∧ n < 18446744073709551616 := fun n h => by
      simp [Lit.wf] at h
      have e1 : IntKind.u64.min = 0 := by decide
      have e2 : IntKind.u64.max = 18446744073709551615 := by decide
      omega
    have b0 := wb n0 w0
    have b1 := wb n1 w1
    have b2 := wb n2 w2
    have b3 := wb n3 w3
    have hp : ∀ k : Nat, (if k = 0 then n0.toNat else if k = 1 then n1.toNat else if k = 2 then n2.toNat else if k = 3 then n3.toNat else 0) < B64 := fun k => by
      unfold B64
      split
      · omega
      · split
        · omega
        · split
          · omega
          · split <;> omega
    refine ⟨valW (fun k => if k = 0 then n0.toNat else if k = 1 then n1.toNat else if k = 2 then n2.toNat else if k = 3 then n3.toNat else 0) 4, ?_, ?_, rfl, fun W' b' sp' => ⟨2, ?_⟩⟩
    · exact valW_lt _ hp 4
    · rw [← rowQ_num _ _ hp rfl]
      unfold rowQ
      simp only [if_true, Nat.one_ne_zero, if_false]
      rw [Int.toNat_of_nonneg b0.1]
      simp [Int.toNat_of_nonneg b1.1, Int.toNat_of_nonneg b2.1, Int.toNat_of_nonneg b3.1]
    · rw [DataW.trod_step]
      unfold DataW.trodStep
      simp only [Try.arr4.hu, Value.cells, Try.arr4.one, Try.arr4.size]
      simp only [List.length_cons, List.length_nil, if_true, List.range_succ, List.range_zero, List.nil_append, List.cons_append, List.mapM_cons, List.mapM_nil, Nat.mul_one]
      have t0 := trod_u64 enc W' b' sp' held 0 n0 w0
      have t1 := trod_u64 enc W' b' sp' held 0 n1 w1
      have t2 := trod_u64 enc W' b' sp' held 0 n2 w2
      have t3 := trod_u64 enc W' b' sp' held 0 n3 w3
      simp [t0, t1, t2, t3]
end Go.Proofs.Ythdbadomppohbaa
