/- The reference's To: what it answers. -/
import Derived.Test.YthdbadomppohbaaWidLa
import Derived.Deep.RegionLaw
namespace Go.Proofs.Ythdbadomppohbaa
set_option maxRecDepth 20000
set_option linter.unusedSimpArgs false
set_option linter.unusedVariables false
open Go.RowKit
/-- A function's one result that lies in a cell, an array. -/
theorem results_arr_one {P : Program} {fn : Func} {tmps : Array Value} {w : World} {v : Value} {a t b : Nat} (h : fn.results = #[.cell a t]) (ha : tmps.getD a undef = .pointer (some ⟨b, 0, none⟩)) (hl : (loadVar t ⟨b, 0, none⟩).run P w = .ok v w) : (results fn tmps).run P w = .ok v w := by
  rw [Array.getD_eq_getD_getElem?] at ha
  simp only [results, h]
  simp [asAddr, ha, hl]
theorem or_shift (a d s : Nat) (ha : a < 18446744073709551616) (hd : d * 2 ^ s < B64) : bits .or .u64 (a : Int) (IntKind.u64.wrap ((d : Int) * 2 ^ s)) = ((a ||| d <<< s : Nat) : Int) := by
  have hd' : d * 2 ^ s < 18446744073709551616 := hd
  have e : (d : Int) * 2 ^ s = ((d * 2 ^ s : Nat) : Int) := by
    rw [Int.natCast_mul, Int.natCast_pow]; rfl
  rw [e, IntWalk.u64_in _ (by omega), bits_or_u64_nat _ _ (by omega) (by omega), Nat.shiftLeft_eq]
/-- Two numbers that part in one word. -/
theorem num_set {x y Q : Nat} (hQ : Q < 4) (h : ∀ j, j ≠ Q → wd y j = wd x j) : numL y = (numL x).set Q (.int .u64 (wd y Q : Int)) := by
  have : Q = 0 ∨ Q = 1 ∨ Q = 2 ∨ Q = 3 := by omega
  unfold numL
  rcases this with rfl | rfl | rfl | rfl
  · rw [h 1 (by omega), h 2 (by omega), h 3 (by omega)]; rfl
  · rw [h 0 (by omega), h 2 (by omega), h 3 (by omega)]; rfl
  · rw [h 0 (by omega), h 1 (by omega), h 3 (by omega)]; rfl
  · rw [h 0 (by omega), h 1 (by omega), h 2 (by omega)]; rfl
set_option maxHeartbeats 1000000 in
theorem rto_any (a : Option Addr) (la ca n from' : Nat) (w : World) (ha : IsN w a la ca n) (hf : from' ≤ 1000) :
    Calls Try.prog 59 #[.slice a la ca, .int .i64 (from' : Int)] w fun e w' => e = .returned (numV (n / 65536 ^ from' % B64 ^ 4)) ∧ Below w.heap.size w w' := by
  have l1 : (la : Int) ≤ 200 := by have := ha.2.1; omega
  have l2 : (from' : Int) ≤ 1000 := by omega
  have HA := Lib.hid ha
  clear ha
  go_enter Try.func59, Try.ntmps59
  have xr : ((w.alloc (.cells (numL 0).toArray 23)).alloc (.cells (numL 0).toArray 23)).heap[w.heap.size]? = some (.cells (numL 0).toArray 23 (0, 0)) := by
    rw [alloc_old _ _ _ (by rw [alloc_size1]; omega), alloc_new]
  have x0 : ((w.alloc (.cells (numL 0).toArray 23)).alloc (.cells (numL 0).toArray 23)).heap[w.heap.size + 1]? = some (.cells (numL 0).toArray 23 (0, 0)) := by
    have := alloc_new (w.alloc (.cells (numL 0).toArray 23)) (.cells (numL 0).toArray 23)
    rw [alloc_size1] at this
    exact this
  have xb : Below w.heap.size w ((w.alloc (.cells (numL 0).toArray 23)).alloc (.cells (numL 0).toArray 23)) := gr_alloc (gr_alloc (Below.refl _ _) _) _
  go_wp2_with fail
  change Code.wp _ _ _ _ ((w.alloc (.cells (numL 0).toArray 23)).alloc (.cells (numL 0).toArray 23))
  generalize (w.alloc (.cells (numL 0).toArray 23)).alloc (.cells (numL 0).toArray 23) = X at *
  obtain ⟨v, hv⟩ : ∃ v, n / 65536 ^ from' = v := ⟨_, rfl⟩
  have HV : ∀ k, Hid (dg n (from' + k) = dg v k) := fun k => by
    show dg n (from' + k) = dg v k
    rw [← hv]; unfold dg; rw [Nat.div_div_eq_div_mul, ← Nat.pow_add]
  have HV0 := Lib.hid hv
  clear hv
  go_loopw [6] (fun i wr => ∃ k : Nat, k ≤ 16 ∧ i = .int .i64 (k : Int) ∧ wr.heap[w.heap.size]? = some (.cells (numL 0).toArray 23 (0, 0)) ∧ wr.heap[w.heap.size + 1]? = some (.cells (numL (v % 65536 ^ k)).toArray 23 (0, 0)) ∧ Below w.heap.size w wr) (fun i _ => 16 - (intOf i).toNat)
  case atStart => exact ⟨0, by omega, rfl, xr, by rw [Nat.pow_zero, Nat.mod_one]; exact x0, xb⟩
  case round =>
    clear xr x0 xb
    obtain ⟨k, hk, rfl, yr, y0, hb⟩ := hrel
    by_cases hlt : k < 16
    · have k1 : (k : Int) < 16 := by omega
      have KA := Lib.hid (limb_any a la ca n (from' + k) _ (IsN_below HA.out hb) (by omega))
      have hd := dg_lt v k
      rw [(HV k).out] at KA
      obtain ⟨Q, hQ⟩ : ∃ Q, k / 4 = Q := ⟨_, rfl⟩
      obtain ⟨r, hr⟩ : ∃ r, k % 4 = r := ⟨_, rfl⟩
      have t1 : (k : Int).tdiv 4 = (Q : Int) := by rw [Int.tdiv_eq_ediv_of_nonneg (by omega)]; omega
      have t2 : (k : Int).tmod 4 = (r : Int) := by rw [Int.tmod_eq_emod_of_nonneg (by omega)]; omega
      have d1 : (k : Int) / 4 = (Q : Int) := by omega
      have d2 : (k : Int) % 4 = (r : Int) := by omega
      have q4 : (Q : Int) < 4 := by omega
      have r4 : (r : Int) < 4 := by omega
      have n1 : (Q : Int).toNat = Q := by omega
      have n2 : (16 * (r : Int)).toNat = 16 * r := by omega
      have n3 : 16 * (r : Int) < 64 := by omega
      obtain ⟨g1, g2, g3⟩ := digit_in v 16 4 k rfl (by omega)
      rw [hQ, hr] at g1
      rw [hr] at g2
      rw [hQ] at g3
      obtain ⟨c1, f1⟩ := arr_get y0 (numL_get (v % 65536 ^ k) Q (by omega))
      have hw := wd_lt (v % 65536 ^ k) Q
      have HY := Lib.hid y0
      have HR := Lib.hid yr
      have G1 := Lib.hid g1
      have G2 := Lib.hid g2
      have G3 := Lib.hid g3
      clear g1 g2 g3 y0 yr hQ hr
      generalize hD : dg v k = D at *
      have HD := Lib.hid hD
      generalize hW : wd (v % 65536 ^ k) Q = W0 at c1 hw
      have HW := Lib.hid hW
      clear hD hW
      obtain ⟨NW, hNW⟩ : ∃ NW, wd (v % 65536 ^ (k + 1)) Q = NW := ⟨_, rfl⟩
      have hor := or_shift W0 D (16 * r) hw (by have h := G2.out; rw [show v / (2 ^ 16) ^ k % 2 ^ 16 = D from HD.out] at h; exact h)
      have hNW2 : W0 ||| D <<< (16 * r) = NW := by
        have h := G1.out
        rw [show v / (2 ^ 16) ^ k % 2 ^ 16 = D from HD.out, show wd (v % (2 ^ 16) ^ k) Q = W0 from HW.out] at h
        rw [← hNW]; exact h.symm
      rw [hNW2] at hor
      have HNW := Lib.hid hNW
      clear hNW hNW2
      have HSET := Lib.hid (arr_set (i := Q) HY.out (.int .u64 (NW : Int)))
      have r0 : IntKind.i64.wrap (Q : Int) = Q := IntWalk.i64_in _ (by omega)
      have r1 : IntKind.i64.wrap ((from' : Int) + (k : Int)) = (from' : Int) + (k : Int) := IntWalk.i64_in _ (by omega)
      have r2 : IntKind.i64.wrap (16 * (r : Int)) = 16 * (r : Int) := IntWalk.i64_in _ (by omega)
      have KD := Lib.hid (limb_any a la ca n (from' + k) wr.drew (IsN_below (IsN_below HA.out hb) (below_drewN1 (Below.refl _ _) 1)) (by omega))
      rw [(HV k).out, HD.out] at KD
      rw [show ((from' + k : Nat) : Int) = (from' : Int) + (k : Int) by omega] at KD
      go_wp2_with fail
      go_region_with ((go_at_call 73; refine KD.out.mono ?_; rintro e w' ⟨rfl, rfl⟩))
      all_goals
        go_wp2_with fail
        go_roundw
        case rel =>
          refine ⟨k + 1, by omega, by go_num, ?_, ?_, (hb.setCell (p := ⟨w.heap.size + 1, Q, none⟩) (by show w.heap.size ≤ w.heap.size + 1; omega) _).drew⟩
          · exact (Below.heap_setCell wr ⟨w.heap.size + 1, Q, none⟩ _ w.heap.size (by show w.heap.size ≠ w.heap.size + 1; omega)).trans HR.out
          · have e : numL (v % 65536 ^ (k + 1)) = (numL (v % 65536 ^ k)).set Q (.int .u64 (NW : Int)) := by
              rw [← HNW.out]
              exact num_set (by omega) (fun j hj => G3.out j hj)
            rw [e]
            exact HSET.out
        case measure => simp [intOf]; omega
    · obtain rfl : k = 16 := by omega
      have HE := Lib.hid (show numV (n / 65536 ^ from' % B64 ^ 4) = .agg (numL (v % 65536 ^ 16)).toArray from by rw [HV0.out]; rfl)
      obtain ⟨y, hy⟩ : ∃ y, v % 65536 ^ 16 = y := ⟨_, rfl⟩
      rw [hy] at y0 HE
      clear hy
      have a0 := (arr_get y0 (numL_get y 0 (by omega))).1
      have a1 := (arr_get y0 (numL_get y 1 (by omega))).1
      have a2 := (arr_get y0 (numL_get y 2 (by omega))).1
      have a3 := (arr_get y0 (numL_get y 3 (by omega))).1
      obtain ⟨d0, e0⟩ := arr_get yr (numL_get 0 0 (by omega))
      obtain ⟨d1, e1⟩ := arr_get yr (numL_get 0 1 (by omega))
      obtain ⟨d2, e2⟩ := arr_get yr (numL_get 0 2 (by omega))
      obtain ⟨d3, e3⟩ := arr_get yr (numL_get 0 3 (by omega))
      have v1 := arr_set (i := 3) (arr_set (i := 2) (arr_set (i := 1) (arr_set (i := 0) yr (.int .u64 (wd y 0 : Int))) (.int .u64 (wd y 1 : Int))) (.int .u64 (wd y 2 : Int))) (.int .u64 (wd y 3 : Int))
      have q2 : ((((numL 0).set 0 (.int .u64 (wd y 0 : Int))).set 1 (.int .u64 (wd y 1 : Int))).set 2 (.int .u64 (wd y 2 : Int))).set 3 (.int .u64 (wd y 3 : Int)) = numL y := rfl
      rw [q2] at v1
      have V1 := Lib.hid v1
      have bl : ∀ (W' : World) (q k : Nat) (x : Value), w.heap.size ≤ q → Below w.heap.size w W' → Below w.heap.size w (W'.setCell ⟨q, k, none⟩ x) := fun W' q k x hq h => h.setCell (p := ⟨q, k, none⟩) hq x
      have BB := Lib.hid (bl _ w.heap.size 3 (.int .u64 (wd y 3 : Int)) (by omega) (bl _ w.heap.size 2 (.int .u64 (wd y 2 : Int)) (by omega) (bl _ w.heap.size 1 (.int .u64 (wd y 1 : Int)) (by omega) (bl _ w.heap.size 0 (.int .u64 (wd y 0 : Int)) (by omega) hb))))
      clear y0 yr q2 v1 bl
      generalize (wd 0 0 : Int) = z0 at d0
      generalize (wd 0 1 : Int) = z1 at d1
      generalize (wd 0 2 : Int) = z2 at d2
      generalize (wd 0 3 : Int) = z3 at d3
      go_wp2_with fail
      obtain ⟨Y, hY⟩ : ∃ Y, Y = (((wr.setCell ⟨w.heap.size, 0, none⟩ (.int .u64 (wd y 0 : Int))).setCell ⟨w.heap.size, 1, none⟩ (.int .u64 (wd y 1 : Int))).setCell ⟨w.heap.size, 2, none⟩ (.int .u64 (wd y 2 : Int))).setCell ⟨w.heap.size, 3, none⟩ (.int .u64 (wd y 3 : Int)) := ⟨_, rfl⟩
      have v1 := V1.out
      have bb := BB.out
      rw [← hY] at v1 bb ⊢
      clear hY V1 BB
      have kl := run_loadVar_row (P := Try.prog) Y w.heap.size 23 23 _ (0, 0) _ v1 Try.underlying23 rfl (by kernel_rfl)
      exact bodyPost_ret (v := .agg (numL y).toArray) (results_arr_one Try.results59 (by rfl) kl) rfl ⟨by rw [HE.out], bb⟩
end Go.Proofs.Ythdbadomppohbaa
