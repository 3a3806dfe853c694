/- scalar.join, scalar.Sum, scalar.Product (layer 22): contracts. -/
import Derived.Test.YthalmomheecpcaaScaC
namespace Go.Proofs.Ythalmomheecpcaa
open Go.RowKit
/-- A slice of numbers of four words. -/
structure IsNums (w : World) (a : Option Addr) (len : Nat) (ns : List Nat) : Prop where
  ln : ns.length = len
  lt : ∀ n ∈ ns, n < B64 ^ 4
  at_ : 0 < len → ∃ b, a = some ⟨b, 0, none⟩ ∧ b < w.heap.size ∧ ∀ i k, i < len → k < 4 → w.cell? ⟨b, i * 4 + k, none⟩ = some (.int .u64 (wd (ns.getD i 0) k : Int))
theorem IsNums.below {w w' : World} {a : Option Addr} {len : Nat} {ns : List Nat} (h : IsNums w a len ns) (hb : Below w.heap.size w w') : IsNums w' a len ns :=
  ⟨h.ln, h.lt, fun h0 => by
    obtain ⟨b, rfl, hlt, hc⟩ := h.at_ h0
    exact ⟨b, rfl, Nat.lt_of_lt_of_le hlt hb.size, fun i k hi hk => (hb.cell (p := ⟨b, i * 4 + k, none⟩) hlt).trans (hc i k hi hk)⟩⟩
theorem IsNums.far {w : World} {b c len : Nat} {ns : List Nat} {v0 v1 v2 v3 : Value} (h : IsNums w (some ⟨b, 0, none⟩) len ns) (hne : b ≠ c) : IsNums ((((w.setCell ⟨c, 0, none⟩ v0).setCell ⟨c, 1, none⟩ v1).setCell ⟨c, 2, none⟩ v2).setCell ⟨c, 3, none⟩ v3) (some ⟨b, 0, none⟩) len ns :=
  ⟨h.ln, h.lt, fun h0 => by
    obtain ⟨b', e, hlt, hc⟩ := h.at_ h0
    cases e
    refine ⟨b, rfl, by simp only [set_size]; exact hlt, fun i k hi hk => ?_⟩
    rw [← hc i k hi hk]
    simp only [World.cell?, set4_far hne]⟩
def M2 (a : Nat) (t : TypeId) (w : World) : World := (w.alloc (.cells #[.int .u64 (wd a 0 : Int), .int .u64 (wd a 1 : Int), .int .u64 (wd a 2 : Int), .int .u64 (wd a 3 : Int)] t)).alloc (.cells #[.int .u64 0, .int .u64 0, .int .u64 0, .int .u64 0] t)
theorem m2_at (a : Nat) (t : TypeId) (w : World) : IsA (M2 a t w) w.heap.size a t ∧ IsA (M2 a t w) (w.heap.size + 1) 0 t ∧ (M2 a t w).heap.size = w.heap.size + 2 ∧ Below w.heap.size w (M2 a t w) :=
  ⟨isA_a1 w a t _, isA_zero (alloc_new1 w _ _), by unfold M2; simp, gr_alloc (gr_alloc (Below.refl _ _) _) _⟩
set_option maxHeartbeats 4000000 in
theorem join_any (F : Nat) (g : Nat → Nat → Nat) (hg : ∀ x y, x < B64 ^ 4 → y < B64 ^ 4 → g x y < B64 ^ 4)
    (hF : ∀ x y w, x < B64 ^ 4 → y < B64 ^ 4 → Calls Try.prog F #[numV x, numV y] w fun e w' => e = .returned (numV (g x y)) ∧ Below w.heap.size w w')
    (o : Nat) (ho : o < B64 ^ 4) (a : Option Addr) (len cap : Nat) (ns : List Nat) (w : World) (hl : len ≤ 100) (hn : IsNums w a len ns) (hE : ∀ args w, (callFunc F args).run Try.prog w = .ok (.enter F args) w) :
    Calls Try.prog 33 #[numV o, .slice a len cap, .func (.func F) #[] #[]] w fun e w' => e = .returned (numV (ns.foldl g o)) ∧ Below w.heap.size w w' := by
  have HF := Lib.hid hF
  have HG := Lib.hid hg
  have HA0 : Hid (0 < len → ∀ b, a = some ⟨b, 0, none⟩ → b < w.heap.size) := fun h0 b e => by
    obtain ⟨b', e', hlt, _⟩ := hn.at_ h0
    rw [e] at e'
    cases e'
    exact hlt
  obtain ⟨xo, xr, xz, xB⟩ := m2_at o 25 w
  have hn2 := hn.below xB
  have HN := Lib.hid hn2
  simp only [numV_agg]
  clear hn hn2 hF hg
  go_enter Try.func33, Try.ntmps33
  go_wp2_with fail
  change Code.wp _ _ _ _ (M2 o 25 w)
  generalize M2 o 25 w = X at *
  go_loopw [11] (fun i wr => ∃ k : Nat, k ≤ len ∧ i = .int .i64 (k : Int) ∧ IsA wr w.heap.size ((ns.take k).foldl g o) 25 ∧ IsA wr (w.heap.size + 1) 0 25 ∧ IsNums wr a len ns ∧ Hid (0 < len → ∀ b, a = some ⟨b, 0, none⟩ → b < w.heap.size) ∧ (ns.take k).foldl g o < B64 ^ 4 ∧ Below w.heap.size w wr) (fun i _ => len - (Go.RowKit.intOf i).toNat)
  case atStart => exact ⟨0, by omega, rfl, xo, xr, HN.out, HA0, ho, xB⟩
  case round =>
    obtain ⟨k, hk, rfl, ro, rr, hn, HA0, hA, hbe⟩ := hrel
    have hzr : w.heap.size + 2 ≤ wr.heap.size := by have := lt_blk rr; omega
    by_cases hlt : k < len
    · have p1 : (k : Int) < (len : Int) := by omega
      obtain ⟨b, rfl, hb, hc⟩ := hn.at_ (by omega)
      have hx : ns.getD k 0 < B64 ^ 4 := by
        have hk2 : k < ns.length := by rw [hn.ln]; exact hlt
        rw [List.getD_eq_getElem?_getD, List.getElem?_eq_getElem hk2]
        exact hn.lt _ (List.getElem_mem hk2)
      have hstep : (ns.take (k + 1)).foldl g o = g ((ns.take k).foldl g o) (ns.getD k 0) := by
        have hk2 : k < ns.length := by rw [hn.ln]; exact hlt
        rw [List.take_succ_eq_append_getElem hk2, List.foldl_append, List.getD_eq_getElem?_getD, List.getElem?_eq_getElem hk2]
        rfl
      have c0 : wr.cell? ⟨b, k * 4, none⟩ = _ := hc k 0 hlt (by omega)
      have c1 := hc k 1 hlt (by omega)
      have c2 := hc k 2 hlt (by omega)
      have c3 := hc k 3 hlt (by omega)
      have HNE := Lib.hid (show b ≠ w.heap.size by have := HA0.out (by omega) b rfl; omega)
      have HS := Lib.hid hstep
      obtain ⟨A, hAA⟩ : ∃ A, (ns.take k).foldl g o = A := ⟨_, rfl⟩
      obtain ⟨Y, hY⟩ : ∃ Y, ns.getD k 0 = Y := ⟨_, rfl⟩
      rw [hAA] at ro hA HS
      rw [hY] at hx c0 c1 c2 c3 HS
      have KF := Lib.hid (fun w => HF.out A Y w hA hx)
      have HGA := Lib.hid (HG.out A Y hA hx)
      obtain ⟨R, hR⟩ : ∃ R, g A Y = R := ⟨_, rfl⟩
      rw [hR] at KF HGA HS
      simp only [numV_agg] at KF
      obtain ⟨⟨d0, d1, d2, d3⟩, e0, e1, e2, e3⟩ := fourV ro
      have HN2 := Lib.hid hn
      have roY := ro.alloc (.cells #[.int .u64 (wd Y 0 : Int), .int .u64 (wd Y 1 : Int), .int .u64 (wd Y 2 : Int), .int .u64 (wd Y 3 : Int)] 25)
      have rrY := rr.alloc (.cells #[.int .u64 (wd Y 0 : Int), .int .u64 (wd Y 1 : Int), .int .u64 (wd Y 2 : Int), .int .u64 (wd Y 3 : Int)] 25)
      obtain ⟨⟨f0, f1, f2, f3⟩, -⟩ := fourV roY
      have HRO := Lib.hid roY
      have HRR := Lib.hid rrY
      have HBE := Lib.hid (gr_allocB hbe (by omega) (.cells #[.int .u64 (wd Y 0 : Int), .int .u64 (wd Y 1 : Int), .int .u64 (wd Y 2 : Int), .int .u64 (wd Y 3 : Int)] 25))
      have HNY := Lib.hid (hn.below ((Below.refl wr.heap.size wr).alloc (Nat.le_refl _) (.cells #[.int .u64 (wd Y 0 : Int), .int .u64 (wd Y 1 : Int), .int .u64 (wd Y 2 : Int), .int .u64 (wd Y 3 : Int)] 25)))
      clear hc hAA hY hR hstep HF HG hA hx hn HN roY rrY ro rr hbe HN2
      go_wp2_with fail
      refine (KF.out _).mono ?_
      rintro e w2 ⟨rfl, hb2⟩
      have ro2 := HRO.out.keep hb2
      have rr2 := HRR.out.keep hb2
      have hB2 := HBE.out.trans (hb2.mono (by simp; omega))
      have hn2 := HNY.out.below hb2
      obtain ⟨⟨d0, d1, d2, d3⟩, e0, e1, e2, e3⟩ := fourV ro2
      have ro3 := Lib.hid (isA_set (n := R) ro2)
      have rr3 := Lib.hid (rr2.far (c := w.heap.size) (v0 := .int .u64 (wd R 0 : Int)) (v1 := .int .u64 (wd R 1 : Int)) (v2 := .int .u64 (wd R 2 : Int)) (v3 := .int .u64 (wd R 3 : Int)) (by omega))
      have hB3 := Lib.hid (set4_below (v0 := .int .u64 (wd R 0 : Int)) (v1 := .int .u64 (wd R 1 : Int)) (v2 := .int .u64 (wd R 2 : Int)) (v3 := .int .u64 (wd R 3 : Int)) hB2 (b := w.heap.size) (Nat.le_refl _))
      have hne : b ≠ w.heap.size := HNE.out
      have hn3 := Lib.hid (hn2.far (v0 := .int .u64 (wd R 0 : Int)) (v1 := .int .u64 (wd R 1 : Int)) (v2 := .int .u64 (wd R 2 : Int)) (v3 := .int .u64 (wd R 3 : Int)) hne)
      clear HRO HRR HBE HNY ro2 rr2 hB2 hn2 hb2
      go_wp2_with fail
      go_roundw
      case rel => exact ⟨k + 1, by omega, congrArg (Value.int .i64) (by omega), by rw [HS.out]; exact ro3.out, rr3.out, hn3.out, HA0, by rw [HS.out]; exact HGA.out, hB3.out⟩
      case measure =>
        simp [Go.RowKit.intOf]
        omega
    · obtain rfl : k = len := by omega
      have p1 : ¬ (k : Int) < (k : Int) := by omega
      have hall : ns.take k = ns := List.take_of_length_le (by rw [hn.ln]; exact Nat.le_refl _)
      rw [hall] at ro hA
      obtain ⟨R, hR⟩ : ∃ R, ns.foldl g o = R := ⟨_, rfl⟩
      rw [hR] at ro
      have HR2 := Lib.hid hR
      have rr2 := isA_zero' rr
      obtain ⟨⟨d0, d1, d2, d3⟩, -⟩ := fourV ro
      obtain ⟨⟨f0, f1, f2, f3⟩, g0, g1, g2, g3⟩ := fourV rr2
      have KL := Lib.hid (load_num (isA_set (n := R) rr2))
      have BR := Lib.hid (set4_below (v0 := .int .u64 (wd R 0 : Int)) (v1 := .int .u64 (wd R 1 : Int)) (v2 := .int .u64 (wd R 2 : Int)) (v3 := .int .u64 (wd R 3 : Int)) hbe (b := w.heap.size + 1) (by omega))
      clear hA hall hR hn rr rr2 ro hbe HF HG HN
      go_wp2_with fail
      exact bodyPost_ret (results_arr Try.results33 (by rfl) KL.out) rfl ⟨by rw [HR2.out]; rfl, BR.out⟩
set_option maxHeartbeats 4000000 in
theorem scasum_any (a : Option Addr) (len cap : Nat) (ns : List Nat) (w : World) (hl : len ≤ 100) (hn : IsNums w a len ns) :
    Calls Try.prog 17 #[.slice a len cap] w fun e w' => e = .returned (numV (ns.foldl (fun a b => (a + b) % LN) 0)) ∧ Below w.heap.size w w' := by
  obtain ⟨xr, xz, xB⟩ := z1_at w
  have hn1 := hn.below xB
  have K1 := Lib.hid (fun w => small_any 0 w (by decide))
  have K2 := Lib.hid (fun (w : World) (h : IsNums w a len ns) => join_any 34 (fun a b => (a + b) % LN) (fun x y _ _ => Nat.lt_trans (Nat.mod_lt _ LN_pos) LN_lt) (fun x y w hx hy => sum1_any x y w hx hy) 0 (by decide) a len cap ns w hl h (enters_of Try.func34 (by kernel_rfl) rfl))
  obtain ⟨R, hR⟩ : ∃ R, ns.foldl (fun a b => (a + b) % LN) 0 = R := ⟨_, rfl⟩
  rw [hR] at K2 ⊢
  have HN1 := Lib.hid hn1
  simp only [numV_agg] at K1 K2 ⊢
  have k0 : ((0 : Nat) : Int) = 0 := rfl
  rw [k0] at K1
  clear hn hn1 hR hl
  go_enter Try.func17, Try.ntmps17
  go_wp2_with fail
  change Calls _ _ _ (Z1 w) _
  generalize Z1 w = X at *
  refine (K1.out X).mono ?_
  rintro e w1 ⟨rfl, hb1⟩
  have hn2 := HN1.out.below hb1
  have xr1 := xr.keep hb1
  have hB1 : Below w.heap.size w w1 := xB.trans (hb1.mono (by omega))
  clear HN1 xr xB hb1 K1
  go_wp2_with fail
  refine (K2.out w1 hn2).mono ?_
  rintro e w2 ⟨rfl, hb2⟩
  have xr2 := isA_zero' (xr1.keep hb2)
  have hB2 : Below w.heap.size w w2 := hB1.trans (hb2.mono (by have := lt_blk xr1; omega))
  obtain ⟨⟨f0, f1, f2, f3⟩, g0, g1, g2, g3⟩ := fourV xr2
  have KL := Lib.hid (load_num (isA_set (n := R) xr2))
  have BR := Lib.hid (set4_below (v0 := .int .u64 (wd R 0 : Int)) (v1 := .int .u64 (wd R 1 : Int)) (v2 := .int .u64 (wd R 2 : Int)) (v3 := .int .u64 (wd R 3 : Int)) hB2 (b := w.heap.size) (Nat.le_refl _))
  clear hn2 K2 xr1 hB1 hb2 hB2 xr2
  go_wp2_with fail
  exact bodyPost_ret (results_arr Try.results17 (by rfl) KL.out) rfl ⟨rfl, BR.out⟩
set_option maxHeartbeats 4000000 in
theorem scaprod_any (a : Option Addr) (len cap : Nat) (ns : List Nat) (w : World) (hl : len ≤ 100) (hn : IsNums w a len ns) :
    Calls Try.prog 18 #[.slice a len cap] w fun e w' => e = .returned (numV (ns.foldl (fun a b => a * b % LN) 1)) ∧ Below w.heap.size w w' := by
  obtain ⟨xr, xz, xB⟩ := z1_at w
  have hn1 := hn.below xB
  have K1 := Lib.hid (fun w => small_any 1 w (by decide))
  have K2 := Lib.hid (fun (w : World) (h : IsNums w a len ns) => join_any 36 (fun a b => a * b % LN) (fun x y _ _ => Nat.lt_trans (Nat.mod_lt _ LN_pos) LN_lt) (fun x y w hx hy => product1_any x y w hx hy) 1 (by decide) a len cap ns w hl h (enters_of Try.func36 (by kernel_rfl) rfl))
  obtain ⟨R, hR⟩ : ∃ R, ns.foldl (fun a b => a * b % LN) 1 = R := ⟨_, rfl⟩
  rw [hR] at K2 ⊢
  have HN1 := Lib.hid hn1
  simp only [numV_agg] at K1 K2 ⊢
  have k0 : ((1 : Nat) : Int) = 1 := rfl
  rw [k0] at K1
  clear hn hn1 hR hl
  go_enter Try.func18, Try.ntmps18
  go_wp2_with fail
  change Calls _ _ _ (Z1 w) _
  generalize Z1 w = X at *
  refine (K1.out X).mono ?_
  rintro e w1 ⟨rfl, hb1⟩
  have hn2 := HN1.out.below hb1
  have xr1 := xr.keep hb1
  have hB1 : Below w.heap.size w w1 := xB.trans (hb1.mono (by omega))
  clear HN1 xr xB hb1 K1
  go_wp2_with fail
  refine (K2.out w1 hn2).mono ?_
  rintro e w2 ⟨rfl, hb2⟩
  have xr2 := isA_zero' (xr1.keep hb2)
  have hB2 : Below w.heap.size w w2 := hB1.trans (hb2.mono (by have := lt_blk xr1; omega))
  obtain ⟨⟨f0, f1, f2, f3⟩, g0, g1, g2, g3⟩ := fourV xr2
  have KL := Lib.hid (load_num (isA_set (n := R) xr2))
  have BR := Lib.hid (set4_below (v0 := .int .u64 (wd R 0 : Int)) (v1 := .int .u64 (wd R 1 : Int)) (v2 := .int .u64 (wd R 2 : Int)) (v3 := .int .u64 (wd R 3 : Int)) hB2 (b := w.heap.size) (Nat.le_refl _))
  clear hn2 K2 xr1 hB1 hb2 hB2 xr2
  go_wp2_with fail
  exact bodyPost_ret (results_arr Try.results18 (by rfl) KL.out) rfl ⟨rfl, BR.out⟩
end Go.Proofs.Ythalmomheecpcaa
