/- esc (layer 4): what pieces has handed on, and up to where. -/
import Derived.Test.YtcadklhjhjbhaaaDoorEscE
import Derived.Test.YtcadklhjhjbhaaaDoorUtfH
namespace Go.Proofs.YtcadklhjhjbhaaaDoor
set_option maxRecDepth 20000
set_option linter.unusedSimpArgs false
set_option linter.unusedVariables false
open Go.RowKit Go.Lib Go.Shelf
def hexC (q : Nat) : UInt8 := digL.getD q 0
/-- A code point as it is written. -/
def oneV (n : Nat) : List UInt8 := match letV n with
  | some c => [92, UInt8.ofNat c]
  | none => if n < 32 then [92, 117, 48, 48, hexC (n / 16), hexC (n % 16)] else form n
def outL (pre : List (Nat × Nat)) : List UInt8 := 34 :: pre.flatMap fun x => oneV x.2
theorem outL_snoc (pre : List (Nat × Nat)) (x : Nat × Nat) : outL (pre ++ [x]) = outL pre ++ oneV x.2 := by simp [outL]
def quoteL (L : List UInt8) : List UInt8 := outL (cpsAt L 0) ++ [34]
structure PcI (L : List UInt8) (pre : List (Nat × Nat)) (a fr : Nat) (acc : List UInt8) : Prop where
  read : Read L pre a
  eq : cpsAt L 0 = pre ++ cpsAt L a
  frle : fr ≤ a
  out : acc ++ seg L fr a = outL pre
  len : (outL pre).length ≤ 1 + 6 * a
theorem PcI.start (L : List UInt8) : PcI L [] 0 0 [34] := ⟨Read.zero L, rfl, Nat.le_refl _, by rw [seg_nil]; rfl, by simp [outL]⟩
theorem form_lo {n : Nat} (h : n < 128) : form n = [UInt8.ofNat n] := by
  unfold form encodeRune encodeRuneZ
  rw [if_pos ⟨by omega, by omega⟩]
  simp only [List.map_cons, List.map_nil]
  rw [Int.toNat_natCast]
section
variable {L : List UInt8} {pre : List (Nat × Nat)} {a fr : Nat} {acc : List UInt8} {x : Nat × Nat}
theorem PcI.next (h : PcI L pre a fr acc) (hx : pre ++ [x] <+: cpsAt L 0) : x.1 = a ∧ ∃ k, nx (L.drop a) = some (x.2, k) ∧ 1 ≤ k ∧ a + k ≤ L.length ∧ isCp x.2 ∧ form x.2 = (L.drop a).take k ∧ k = (form x.2).length := by
  rw [h.eq] at hx
  have h1 : [x] <+: cpsAt L a := (List.prefix_append_right_inj pre).1 hx
  cases hn : nx (L.drop a) with
  | none => rw [cpsAt_none hn] at h1; exact absurd h1 (by simp)
  | some y =>
    obtain ⟨n, k⟩ := y
    rw [cpsAt_some hn] at h1
    obtain rfl : x = (a, n) := (List.cons_prefix_cons.1 h1).1
    have h2 := nx_lt hn
    obtain ⟨h3, h4, h5⟩ := nx_form hn
    refine ⟨rfl, k, rfl, h2.2, h2.1, h3, h4, ?_⟩
    rw [h4, List.length_take]
    omega
theorem let_lo {n c : Nat} (h : letV n = some c) : n < 128 ∧ c < 128 := by
  unfold letV at h
  repeat' split at h
  all_goals first | (cases h; omega) | (cases h)
theorem oneV_len (n : Nat) (h : (letV n).isSome = true ∨ n < 32) : (oneV n).length ≤ 6 := by
  unfold oneV
  split
  · simp
  · rename_i hl
    rw [if_pos (h.resolve_left (by rw [hl]; simp))]
    simp
theorem PcI.esc (h : PcI L pre a fr acc) (hL : L.length ≤ 100000) (hx : pre ++ [x] <+: cpsAt L 0) (he : (letV x.2).isSome = true ∨ x.2 < 32) : PcI L (pre ++ [x]) (a + 1) (a + 1) (outL pre ++ oneV x.2) := by
  obtain ⟨h1, k, h2, h3, h4, h5, h6, h7⟩ := h.next hx
  have hlo : x.2 < 128 := by
    rcases he with he | he
    · obtain ⟨c, hc⟩ := Option.isSome_iff_exists.1 he
      exact (let_lo hc).1
    · omega
  rw [form_lo hlo] at h7
  obtain rfl : k = 1 := h7
  have hx1 : x = (a, x.2) := by rw [← h1]
  refine ⟨?_, ?_, Nat.le_refl _, by rw [seg_nil, List.append_nil, outL_snoc], ?_⟩
  · rw [hx1]; exact h.read.step hL h2
  · rw [h.eq, cpsAt_some h2, List.append_assoc, ← hx1]; rfl
  · rw [outL_snoc, List.length_append]
    have := oneV_len x.2 he
    have := h.len
    omega
theorem PcI.plain (h : PcI L pre a fr acc) (hL : L.length ≤ 100000) (hx : pre ++ [x] <+: cpsAt L 0) (hn : letV x.2 = none) (h32 : 32 ≤ x.2) : ∃ a', PcI L (pre ++ [x]) a' fr acc := by
  obtain ⟨h1, k, h2, h3, h4, h5, h6, h7⟩ := h.next hx
  have hx1 : x = (a, x.2) := by rw [← h1]
  have ho : oneV x.2 = (L.drop a).take k := by
    unfold oneV
    rw [hn]
    simp only
    rw [if_neg (by omega), h6]
  have hfr := h.frle
  refine ⟨a + k, ?_, ?_, by omega, ?_, ?_⟩
  · rw [hx1]; exact h.read.step hL h2
  · rw [h.eq, cpsAt_some h2, List.append_assoc, ← hx1]; rfl
  · rw [outL_snoc, ho, ← h.out, List.append_assoc, seg_add L h.frle]
  · rw [outL_snoc, ho, List.length_append, List.length_take]
    have := h.len
    omega
theorem PcI.done (h : PcI L (cpsAt L 0) a fr acc) (hv : validB L = true) (hL : L.length ≤ 100000) : a = L.length := by
  have h1 : cpsAt L a = [] := by
    have := h.eq
    exact List.self_eq_append_right.1 this
  have hn : nx (L.drop a) = none := by
    cases hn : nx (L.drop a) with
    | none => rfl
    | some y =>
      obtain ⟨n, k⟩ := y
      rw [cpsAt_some hn] at h1
      cases h1
  have h2 := (h.read.last hn).2
  unfold validB at hv
  have h3 := of_decide_eq_true hv
  omega
theorem PcI.acc_len (h : PcI L pre a fr acc) : acc.length ≤ (outL pre).length ∧ a ≤ L.length := by
  refine ⟨?_, h.read.le⟩
  rw [← h.out, List.length_append]
  omega
end
end Go.Proofs.YtcadklhjhjbhaaaDoor
