/- prime.Add, prime.Mul (layer 19): contracts. -/
import Derived.Test.YthdbadomppohbaaPriE
namespace Go.Proofs.Ythdbadomppohbaa
set_option maxRecDepth 20000
set_option linter.unusedSimpArgs false
set_option linter.unusedVariables false
open Go.RowKit
/-- A slice of numbers below p, four words each. -/
structure IsNums (w : World) (a : Option Addr) (len : Nat) (ns : List Nat) : Prop where
  ln : ns.length = len
  lt : ∀ n ∈ ns, n < PN
  at_ : 0 < len → ∃ b, a = some ⟨b, 0, none⟩ ∧ b < w.heap.size ∧ ∀ i k, i < len → k < 4 → w.cell? ⟨b, i * 4 + k, none⟩ = some (.int .u64 (wd (ns.getD i 0) k : Int))
theorem IsNums.calls {w w' : World} {a : Option Addr} {len N : Nat} {ns : List Nat} (hb : Below N w w') (h : IsNums w a len ns) (hN : w.heap.size ≤ N) : IsNums w' a len ns :=
  ⟨h.ln, h.lt, fun h0 => by
    obtain ⟨b, rfl, hlt, hc⟩ := h.at_ h0
    exact ⟨b, rfl, Nat.lt_of_lt_of_le hlt hb.size, fun i k hi hk => (hb.cell (p := ⟨b, i * 4 + k, none⟩) (Nat.lt_of_lt_of_le hlt hN)).trans (hc i k hi hk)⟩⟩
theorem IsNums.below {w w' : World} {a : Option Addr} {len : Nat} {ns : List Nat} (h : IsNums w a len ns) (hb : Below w.heap.size w w') : IsNums w' a len ns := h.calls hb (Nat.le_refl _)
theorem IsNums.far {w : World} {a : Option Addr} {c len : Nat} {ns : List Nat} {v0 v1 v2 v3 : Value} (h : IsNums w a len ns) (hne : ∀ b, a = some ⟨b, 0, none⟩ → b ≠ c) : IsNums ((((w.setCell ⟨c, 0, none⟩ v0).setCell ⟨c, 1, none⟩ v1).setCell ⟨c, 2, none⟩ v2).setCell ⟨c, 3, none⟩ v3) a len ns :=
  ⟨h.ln, h.lt, fun h0 => by
    obtain ⟨b, e, hlt, hc⟩ := h.at_ h0
    refine ⟨b, e, by simp only [set_size]; exact hlt, fun i k hi hk => ?_⟩
    rw [← hc i k hi hk]
    simp only [World.cell?, set4_far (hne b e)]⟩
theorem getD_ltP {ns : List Nat} (h : ∀ n ∈ ns, n < PN) (i : Nat) : ns.getD i 0 < PN := by
  by_cases hi : i < ns.length
  · rw [List.getD_eq_getElem?_getD, List.getElem?_eq_getElem hi]
    exact h _ (List.getElem_mem hi)
  · rw [List.getD_eq_getElem?_getD, List.getElem?_eq_none (by omega)]
    exact PN_pos
/-- The first k numbers' sum. -/
def sumP (ns : List Nat) : Nat → Nat
  | 0 => 0
  | k + 1 => (sumP ns k + ns.getD k 0) % PN
theorem sumP_lt (ns : List Nat) : ∀ k, sumP ns k < PN
  | 0 => PN_pos
  | _ + 1 => Nat.mod_lt _ PN_pos
def A0 (t u : TypeId) (w : World) : World := (w.alloc (.cells #[.int .u64 0, .int .u64 0, .int .u64 0, .int .u64 0] t)).alloc (.cells #[.int .u64 0, .int .u64 0, .int .u64 0, .int .u64 0] u)
theorem a0_at (t u : TypeId) (w : World) : IsA (A0 t u w) w.heap.size 0 t ∧ IsA (A0 t u w) (w.heap.size + 1) 0 u ∧ (A0 t u w).heap.size = w.heap.size + 2 ∧ Below w.heap.size w (A0 t u w) :=
  ⟨isA_zero (alloc_keep (alloc_new w _) _), isA_zero (alloc_new1 w _ _), by unfold A0; simp, gr_alloc (gr_alloc (Below.refl _ _) _) _⟩
theorem add_fits (a b : Nat) (ha : a < PN) (hb : b < PN) : addN a b % PN = (a + b) % PN := by
  unfold addN
  rw [Nat.mod_eq_of_lt (show a + b < B64 ^ 4 by have := B4_gt; omega)]
set_option maxHeartbeats 8000000 in
theorem padd_any (a : Option Addr) (len cap : Nat) (ns : List Nat) (w : World) (hl : len ≤ 100) (hn : IsNums w a len ns) :
    Calls Try.prog 47 #[.slice a len cap] w fun e w' => e = .returned (numV (sumP ns len)) ∧ Below w.heap.size w w' := by
  have HA0 : Hid (∀ b, a = some ⟨b, 0, none⟩ → 0 < len → b < w.heap.size) := fun b e h0 => by
    obtain ⟨b', e', hlt, _⟩ := hn.at_ h0
    rw [e] at e'
    cases e'
    exact hlt
  obtain ⟨xr, xs, xz, xB⟩ := a0_at 28 28 w
  have HN := Lib.hid (hn.below xB)
  clear hn
  go_enter Try.func47, Try.ntmps47
  go_wp2_with fail
  change Code.wp _ _ _ _ (A0 28 28 w)
  generalize A0 28 28 w = X at *
  have HX := Lib.hid (And.intro xr (And.intro xs xB))
  clear xr xs xB xz
  go_loopw [10] (fun i wr => ∃ k : Nat, k ≤ len ∧ i = .int .i64 (k : Int) ∧ IsA wr (w.heap.size + 1) (sumP ns k) 28 ∧ IsA wr w.heap.size 0 28 ∧ IsNums wr a len ns ∧ Below w.heap.size w wr) (fun i _ => len - (Go.RowKit.intOf i).toNat)
  case atStart => exact ⟨0, by omega, rfl, HX.out.2.1, HX.out.1, HN.out, HX.out.2.2⟩
  case round =>
    obtain ⟨k, hk, rfl, rs, rr, hn, hbe⟩ := hrel
    clear HX HN
    have hs := hbe.size
    have hls := lt_blk rs
    by_cases hlt : k < len
    · have p1 : (k : Int) < (len : Int) := by omega
      obtain ⟨b, rfl, hb, hc⟩ := hn.at_ (by omega)
      have hne := HA0.out b rfl (by omega)
      have c0 : wr.cell? ⟨b, k * 4, none⟩ = _ := hc k 0 hlt (by omega)
      have c1 := hc k 1 hlt (by omega)
      have c2 := hc k 2 hlt (by omega)
      have c3 := hc k 3 hlt (by omega)
      have hstep : sumP ns (k + 1) = (sumP ns k + ns.getD k 0) % PN := rfl
      have hxP := getD_ltP hn.lt k
      have hsP := sumP_lt ns k
      obtain ⟨S, hS⟩ : ∃ S, sumP ns k = S := ⟨_, rfl⟩
      obtain ⟨Y, hY⟩ : ∃ Y, ns.getD k 0 = Y := ⟨_, rfl⟩
      rw [hS] at rs hsP hstep
      rw [hY] at c0 c1 c2 c3 hxP hstep
      have KA := Lib.hid (fun w => add_any S Y w (of_PN hsP) (of_PN hxP))
      have KM := Lib.hid (fun w => pmod_any (addN S Y) w (Nat.mod_lt _ (by decide)))
      rw [add_fits S Y hsP hxP] at KM
      obtain ⟨R, hR⟩ : ∃ R, (S + Y) % PN = R := ⟨_, rfl⟩
      obtain ⟨A, hAA⟩ : ∃ A, addN S Y = A := ⟨_, rfl⟩
      obtain ⟨C, hC⟩ : ∃ C, addK S Y = C := ⟨_, rfl⟩
      rw [hAA, hC] at KA
      rw [hAA, hR] at KM
      rw [hR] at hstep
      have HS := Lib.hid hstep
      simp only [numV_agg] at KA KM
      obtain ⟨⟨s0, s1, s2, s3⟩, _⟩ := fourV rs
      have RS := Lib.hid (rs.alloc (.cells #[.int .u64 (wd Y 0 : Int), .int .u64 (wd Y 1 : Int), .int .u64 (wd Y 2 : Int), .int .u64 (wd Y 3 : Int)] 28))
      have RR := Lib.hid (rr.alloc (.cells #[.int .u64 (wd Y 0 : Int), .int .u64 (wd Y 1 : Int), .int .u64 (wd Y 2 : Int), .int .u64 (wd Y 3 : Int)] 28))
      have RB := Lib.hid (b_alloc hbe (.cells #[.int .u64 (wd Y 0 : Int), .int .u64 (wd Y 1 : Int), .int .u64 (wd Y 2 : Int), .int .u64 (wd Y 3 : Int)] 28))
      have RN := Lib.hid (hn.below ((Below.refl wr.heap.size wr).alloc (Nat.le_refl _) (.cells #[.int .u64 (wd Y 0 : Int), .int .u64 (wd Y 1 : Int), .int .u64 (wd Y 2 : Int), .int .u64 (wd Y 3 : Int)] 28)))
      obtain ⟨⟨u0, u1, u2, u3⟩, _⟩ := fourV RS.out
      clear hc hS hY hR hAA hC hstep hxP hsP rs rr hbe hn
      go_wp2_with fail
      refine (KA.out _).mono ?_
      rintro e w2 ⟨rfl, hb2⟩
      have hs2 := hb2.size
      have hs2' : wr.heap.size + 1 ≤ w2.heap.size := by rw [alloc_size1] at hs2; exact hs2
      have RS2 := Lib.hid ((RS.out.keep hb2).alloc (.cells #[.int .u64 (wd A 0 : Int), .int .u64 (wd A 1 : Int), .int .u64 (wd A 2 : Int), .int .u64 (wd A 3 : Int)] 26))
      have RR2 := Lib.hid ((RR.out.keep hb2).alloc (.cells #[.int .u64 (wd A 0 : Int), .int .u64 (wd A 1 : Int), .int .u64 (wd A 2 : Int), .int .u64 (wd A 3 : Int)] 26))
      have RB2 := Lib.hid (b_alloc (b_calls hb2 RB.out (by rw [alloc_size1]; omega)) (.cells #[.int .u64 (wd A 0 : Int), .int .u64 (wd A 1 : Int), .int .u64 (wd A 2 : Int), .int .u64 (wd A 3 : Int)] 26))
      have RN2 := Lib.hid ((RN.out.below hb2).below ((Below.refl w2.heap.size w2).alloc (Nat.le_refl _) (.cells #[.int .u64 (wd A 0 : Int), .int .u64 (wd A 1 : Int), .int .u64 (wd A 2 : Int), .int .u64 (wd A 3 : Int)] 26)))
      clear RS RR RB RN hb2 hs2 u0 u1 u2 u3 s0 s1 s2 s3 KA c0 c1 c2 c3
      go_wp2_with fail
      refine (KM.out _).mono ?_
      rintro e w3 ⟨rfl, hb3⟩
      have hs3 := hb3.size
      have hs3' : w2.heap.size + 1 ≤ w3.heap.size := by rw [alloc_size1] at hs3; exact hs3
      have rs3 := RS2.out.keep hb3
      obtain ⟨⟨d0, d1, d2, d3⟩, e0, e1, e2, e3⟩ := fourV rs3
      have RS3 := Lib.hid (isA_set (n := R) rs3)
      have RR3 := Lib.hid ((RR2.out.keep hb3).far (c := w.heap.size + 1) (v0 := .int .u64 (wd R 0 : Int)) (v1 := .int .u64 (wd R 1 : Int)) (v2 := .int .u64 (wd R 2 : Int)) (v3 := .int .u64 (wd R 3 : Int)) (by omega))
      have RB3 := Lib.hid (b_set4 (b_calls hb3 RB2.out (by rw [alloc_size1]; omega)) (v0 := .int .u64 (wd R 0 : Int)) (v1 := .int .u64 (wd R 1 : Int)) (v2 := .int .u64 (wd R 2 : Int)) (v3 := .int .u64 (wd R 3 : Int)) (b := w.heap.size + 1) (by omega))
      have RN3 := Lib.hid ((RN2.out.below hb3).far (c := w.heap.size + 1) (v0 := .int .u64 (wd R 0 : Int)) (v1 := .int .u64 (wd R 1 : Int)) (v2 := .int .u64 (wd R 2 : Int)) (v3 := .int .u64 (wd R 3 : Int)) (fun q hq => by cases hq; omega))
      clear RS2 RR2 RB2 RN2 hb3 hs3 rs3 KM
      go_wp2_with fail
      go_roundw
      case rel => exact ⟨k + 1, by omega, congrArg (Value.int .i64) (by omega), by rw [HS.out]; exact RS3.out, RR3.out, RN3.out, RB3.out⟩
      case measure =>
        simp [Go.RowKit.intOf]
        omega
    · obtain rfl : k = len := by omega
      have p1 : ¬ (k : Int) < (k : Int) := by omega
      obtain ⟨R, hR⟩ : ∃ R, sumP ns k = R := ⟨_, rfl⟩
      rw [hR] at rs
      have HR2 := Lib.hid hR
      obtain ⟨⟨s0, s1, s2, s3⟩, _⟩ := fourV rs
      have xr := isA_zero' rr
      obtain ⟨⟨d0, d1, d2, d3⟩, e0, e1, e2, e3⟩ := fourV xr
      have KL := Lib.hid (load_el (isA_set (n := R) xr))
      have BR := Lib.hid (b_set4 (v0 := .int .u64 (wd R 0 : Int)) (v1 := .int .u64 (wd R 1 : Int)) (v2 := .int .u64 (wd R 2 : Int)) (v3 := .int .u64 (wd R 3 : Int)) hbe (b := w.heap.size) (by omega))
      clear hR hn rs rr xr hbe
      go_wp2_with fail
      exact bodyPost_ret (results_arr Try.results47 (by rfl) KL.out) rfl ⟨by rw [HR2.out], BR.out⟩
end Go.Proofs.Ythdbadomppohbaa
