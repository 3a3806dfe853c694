/- The curve's points modulo 2^255 - 19 as a commutative group. No program in it. curve.D (layer 20): what it answers. curve.quotients (layer 20): its contract. The rule of the text before, of a region one of whose first operations may also come behind the last ones: it takes a part of a value, and nothing that the last ones do changes it. No program in it. -/
import Derived.Laws.Tables
import Derived.Laws.CopyOwn
import Derived.Test.YtigfoophimjgdaaM08
namespace Go.Proofs.Ytigfoophimjgdaa
set_option maxRecDepth 20000
set_option linter.unusedSimpArgs false
set_option linter.unusedVariables false
theorem pow_of (n f e b r : Nat) (he : e < 2 ^ f) (h : pm n f e b 1 % n = r) : b ^ e % n = r := by
  have x := pm_eq n f e b 1 he
  rw [Nat.one_mul] at x
  rw [← x]
  exact h
theorem d_euler : dN ^ hN % PN = PN - 1 := pow_of PN 256 hN dN (PN - 1) (by decide +kernel) (by decide +kernel)
theorem PN_big : PN - 1 ≠ 0 ∧ PN - 1 ≠ 1 := by decide +kernel
abbrev dF : Fp := fz dN
abbrev iF : Fp := fz iN
theorem i_sqF : iF * iF = -1 := by
  have h : fz (iN * iN) = fz (PN - 1) := by rw [← fz_mod, iN_sq]
  have h2 : fz (PN - 1) + 1 = 0 := by
    rw [← fz_one, ← fz_add, Nat.sub_add_cancel (Nat.le_of_lt (Nat.lt_of_lt_of_le (by decide) PN_ge)), fz_P]
  rw [fz_mul] at h
  show iF * iF = -1
  grind
/-- d is no square. -/
theorem d_nsq (s t : Fp) (h : s * s = dF * (t * t)) : t = 0 := by
  have h1 : s.val * s.val % PN = dN * (t.val * t.val) % PN := by
    have e : fz (s.val * s.val) = fz (dN * (t.val * t.val)) := by
      rw [fz_mul, fz_mul, fz_mul, fz_of, fz_of]
      exact h
    exact congrArg Fin.val e
  by_cases ht : t.val % PN = 0
  · rw [← fz_of t, fz_null]
    exact ht
  · exfalso
    have hp : ∀ a : Nat, (a * a) ^ hN = a ^ (PN - 1) := fun a => by rw [← h_is, Nat.pow_mul, Nat.pow_two]
    have h2 : (s.val * s.val) ^ hN % PN = (dN * (t.val * t.val)) ^ hN % PN := by rw [Nat.pow_mod, h1, ← Nat.pow_mod]
    rw [hp, Nat.mul_pow, hp, Nat.mul_mod, d_euler, fermatP t.val ht, Nat.mul_one] at h2
    have h3 : (PN - 1) % PN = PN - 1 := Nat.mod_eq_of_lt (Nat.sub_lt PN_pos (by decide))
    rw [h3] at h2
    rcases pow01 s.val (PN - 1) rfl (by have := PN_ge; omega) with h4 | h4
    · exact PN_big.1 (h2.symm.trans h4)
    · exact PN_big.2 (h2.symm.trans h4)
def inv (a : Fp) : Fp := fz (a.val ^ (PN - 2))
theorem inv_ok (a : Fp) (h : a ≠ 0) : a * inv a = 1 := by
  have ha : a.val % PN ≠ 0 := fun e => h (by rw [← fz_of a, fz_null]; exact e)
  have h1 : fz (a.val * a.val ^ (PN - 2)) = 1 := by
    rw [← Nat.pow_succ', show (PN - 2).succ = PN - 1 by have := PN_ge; omega, ← fz_mod, fermatP a.val ha]
    rfl
  rw [fz_mul, fz_of] at h1
  exact h1
theorem fp_cancel (a b c : Fp) (hc : c ≠ 0) (h : a * c = b * c) : a = b := by
  have h1 : (a - b) * c = 0 := by grind
  rcases fp_dom _ _ h1 with h2 | h2
  · grind
  · exact absurd h2 hc
/-- On the curve. -/
def On (p : Fp × Fp) : Prop := p.2 * p.2 - p.1 * p.1 = 1 + dF * (p.1 * p.1) * (p.2 * p.2)
def kF (p q : Fp × Fp) : Fp := dF * p.1 * q.1 * p.2 * q.2
def addE (p q : Fp × Fp) : Fp × Fp := ((p.1 * q.2 + p.2 * q.1) * inv (1 + kF p q), (p.2 * q.2 + p.1 * q.1) * inv (1 - kF p q))
theorem whole (p q : Fp × Fp) (hp : On p) (hq : On q) : 1 + kF p q ≠ 0 ∧ 1 - kF p q ≠ 0 := by
  have h := edw_whole p.1 p.2 q.1 q.2 dF iF i_sqF fp_two d_nsq hp hq
  constructor
  · intro e
    exact h (by show (1 + kF p q) * (1 - kF p q) = 0; rw [e]; grind)
  · intro e
    exact h (by show (1 + kF p q) * (1 - kF p q) = 0; rw [e]; grind)
/-- The sum's parts, over the divisors' inverses. -/
theorem add_parts (p q : Fp × Fp) (hp : On p) (hq : On q) : ∃ u v, (1 + kF p q) * u = 1 ∧ (1 - kF p q) * v = 1 ∧ addE p q = ((p.1 * q.2 + p.2 * q.1) * u, (p.2 * q.2 + p.1 * q.1) * v) :=
  ⟨_, _, inv_ok _ (whole p q hp hq).1, inv_ok _ (whole p q hp hq).2, rfl⟩
theorem on_add (p q : Fp × Fp) (hp : On p) (hq : On q) : On (addE p q) := by
  obtain ⟨u, v, hu, hv, e⟩ := add_parts p q hp hq
  rw [e]
  exact on_sum p.1 p.2 q.1 q.2 dF u v hp hq hu hv
theorem add_comm' (p q : Fp × Fp) : addE p q = addE q p := by
  have e : kF p q = kF q p := swap5 dF p.1 q.1 p.2 q.2
  unfold addE
  rw [e]
  exact Prod.ext (congrArg (· * _) (swap2 p.1 q.2 p.2 q.1)) (congrArg (· * _) (swap3 p.2 q.2 p.1 q.1))
/-- The order doesn't count. -/
theorem add_assoc' (p q r : Fp × Fp) (hp : On p) (hq : On q) (hr : On r) : addE (addE p q) r = addE p (addE q r) := by
  obtain ⟨u, v, hu, hv, e⟩ := add_parts p q hp hq
  obtain ⟨s, t, hs, ht, e2⟩ := add_parts q r hq hr
  obtain ⟨w1, w2, hw1, hw2, e3⟩ := add_parts (addE p q) r (on_add p q hp hq) hr
  obtain ⟨z1, z2, hz1, hz2, e4⟩ := add_parts p (addE q r) hp (on_add q r hq hr)
  rw [e3, e4]
  rw [e] at hw1 hw2 ⊢
  rw [e2] at hz1 hz2 ⊢
  exact Prod.ext (assoc_x p.1 p.2 q.1 q.2 r.1 r.2 dF u v s t w1 z1 hp hq hr hu hv hs ht hw1 hz1) (assoc_y p.1 p.2 q.1 q.2 r.1 r.2 dF u v s t w2 z2 hp hq hr hu hv hs ht hw2 hz2)
def zeroE : Fp × Fp := (0, 1)
def negE (p : Fp × Fp) : Fp × Fp := (-p.1, p.2)
theorem on_zero : On zeroE := by unfold On zeroE; simp only; grind
theorem on_neg (p : Fp × Fp) (h : On p) : On (negE p) := by unfold On negE at *; simp only; grind
section
variable {α : Type} [Lean.Grind.CommRing α]
theorem zero_parts (x y d u v : α) (hu : (1 + d * x * 0 * y * 1) * u = 1) (hv : (1 - d * x * 0 * y * 1) * v = 1) : (x * 1 + y * 0) * u = x ∧ (y * 1 + x * 0) * v = y := by
  constructor <;> grind
theorem neg_parts (x y d u v : α) (h : y * y - x * x = 1 + d * (x * x) * (y * y)) (hv : (1 - d * x * -x * y * y) * v = 1) : (x * y + y * -x) * u = 0 ∧ (y * y + x * -x) * v = 1 := by
  constructor <;> grind
end
theorem add_zero' (p : Fp × Fp) (hp : On p) : addE p zeroE = p := by
  obtain ⟨u, v, hu, hv, e⟩ := add_parts p zeroE hp on_zero
  rw [e]
  have h := zero_parts p.1 p.2 dF u v hu hv
  exact Prod.ext h.1 h.2
theorem add_neg' (p : Fp × Fp) (hp : On p) : addE p (negE p) = zeroE := by
  obtain ⟨u, v, hu, hv, e⟩ := add_parts p (negE p) hp (on_neg p hp)
  rw [e]
  have h := neg_parts p.1 p.2 dF u v hp hv
  exact Prod.ext h.1 h.2
/-- A point, so many times. -/
def timesE : Nat → Fp × Fp → Fp × Fp
  | 0, _ => zeroE
  | n + 1, p => addE (timesE n p) p
theorem on_times (p : Fp × Fp) (hp : On p) : ∀ n, On (timesE n p)
  | 0 => on_zero
  | n + 1 => on_add _ _ (on_times p hp n) hp
theorem times_add (p : Fp × Fp) (hp : On p) (m : Nat) : ∀ n, timesE (m + n) p = addE (timesE m p) (timesE n p)
  | 0 => (add_zero' _ (on_times p hp m)).symm
  | n + 1 => by
    show addE (timesE (m + n) p) p = addE (timesE m p) (addE (timesE n p) p)
    rw [times_add p hp m n, add_assoc' _ _ _ (on_times p hp m) (on_times p hp n) hp]
theorem times_zero : ∀ n, timesE n zeroE = zeroE
  | 0 => rfl
  | n + 1 => by
    show addE (timesE n zeroE) zeroE = zeroE
    rw [times_zero n, add_zero' _ on_zero]
theorem times_mul (p : Fp × Fp) (hp : On p) (m : Nat) : ∀ n, timesE (n * m) p = timesE n (timesE m p)
  | 0 => by rw [Nat.zero_mul]; rfl
  | n + 1 => by
    rw [Nat.add_mul, Nat.one_mul, times_add p hp, times_mul p hp m n]
    rfl
theorem add_left_cancel' (p q r : Fp × Fp) (hp : On p) (hq : On q) (hr : On r) (h : addE p q = addE p r) : q = r := by
  have e : ∀ t, On t → addE (negE p) (addE p t) = t := fun t ht => by
    rw [← add_assoc' _ _ _ (on_neg p hp) hp ht, add_comm' (negE p) p, add_neg' p hp, add_comm', add_zero' t ht]
  rw [← e q hq, h, e r hr]
/-- A point by numbers with a divisor. -/
def Rep (X Y Z : Fp) (p : Fp × Fp) : Prop := Z ≠ 0 ∧ p.1 * Z = X ∧ p.2 * Z = Y
theorem fp_ne_mul {a b : Fp} (ha : a ≠ 0) (hb : b ≠ 0) : a * b ≠ 0 := fun h => by
  rcases fp_dom _ _ h with h | h
  · exact ha h
  · exact hb h
section
variable {α : Type} [Lean.Grind.CommRing α]
theorem rep_parts (x1 y1 z1 x2 y2 z2 d u v : α) (hu : (1 + d*x1*x2*y1*y2) * u = 1) (hv : (1 - d*x1*x2*y1*y2) * v = 1) :
    let a := z1*z2; let b := a*a; let f := d*((x1*z1*(x2*z2))*(y1*z1*(y2*z2)))
    b - f = b*(1 - d*x1*x2*y1*y2) ∧ b + f = b*(1 + d*x1*x2*y1*y2) ∧
    (x1*y2+y1*x2)*u*((b-f)*(b+f)) = a*((x1*z1)*(y2*z2)+(y1*z1)*(x2*z2))*(b-f) ∧ (y1*y2+x1*x2)*v*((b-f)*(b+f)) = a*((y1*z1)*(y2*z2)+(x1*z1)*(x2*z2))*(b+f) := by
  intro a b f
  have e1 : b - f = b*(1 - d*x1*x2*y1*y2) := by clear hu hv; grind
  have e2 : b + f = b*(1 + d*x1*x2*y1*y2) := by clear hu hv; grind
  refine ⟨e1, e2, ?_, ?_⟩
  · rw [e1, e2]
    generalize d*x1*x2*y1*y2 = k at *
    have e3 : a*((x1*z1)*(y2*z2)+(y1*z1)*(x2*z2)) = (x1*y2+y1*x2)*b := by clear hu hv e1 e2; grind
    rw [e3]
    generalize x1*y2+y1*x2 = A at *
    generalize b = c at *
    clear e1 e2 e3
    grind
  · rw [e1, e2]
    generalize d*x1*x2*y1*y2 = k at *
    have e3 : a*((y1*z1)*(y2*z2)+(x1*z1)*(x2*z2)) = (y1*y2+x1*x2)*b := by clear hu hv e1 e2; grind
    rw [e3]
    generalize y1*y2+x1*x2 = A at *
    generalize b = c at *
    clear e1 e2 e3
    grind
end
/-- The sum by the document's definition, without dividing. -/
theorem rep_add (X1 Y1 Z1 X2 Y2 Z2 : Fp) (p q : Fp × Fp) (hp : On p) (hq : On q) (h1 : Rep X1 Y1 Z1 p) (h2 : Rep X2 Y2 Z2 q) :
    let a := Z1*Z2; let b := a*a; let f := dF*((X1*X2)*(Y1*Y2)); Rep (a*(X1*Y2+Y1*X2)*(b-f)) (a*(Y1*Y2+X1*X2)*(b+f)) ((b-f)*(b+f)) (addE p q) := by
  intro a b f
  obtain ⟨u, v, hu, hv, e⟩ := add_parts p q hp hq
  obtain ⟨n1, rfl, rfl⟩ := h1
  obtain ⟨n2, rfl, rfl⟩ := h2
  obtain ⟨w1, w2⟩ := whole p q hp hq
  obtain ⟨r1, r2, r3, r4⟩ := rep_parts p.1 p.2 Z1 q.1 q.2 Z2 dF u v hu hv
  have hb : b ≠ 0 := fp_ne_mul (fp_ne_mul n1 n2) (fp_ne_mul n1 n2)
  rw [e]
  refine ⟨?_, r3, r4⟩
  have m1 : b - f ≠ 0 := by
    show b - dF*((p.1*Z1*(q.1*Z2))*(p.2*Z1*(q.2*Z2))) ≠ 0
    rw [r1]
    exact fp_ne_mul hb w2
  have m2 : b + f ≠ 0 := by
    show b + dF*((p.1*Z1*(q.1*Z2))*(p.2*Z1*(q.2*Z2))) ≠ 0
    rw [r2]
    exact fp_ne_mul hb w1
  exact fp_ne_mul m1 m2
end Go.Proofs.Ytigfoophimjgdaa
namespace Go.Proofs.Ytigfoophimjgdaa
set_option maxRecDepth 20000
set_option linter.unusedSimpArgs false
set_option linter.unusedVariables false
open Go.RowKit
def cN : Nat := 20800338683988658368647408995589388737092878452977063003340006470870624536394
theorem d_num : 121665 * (121666 ^ (PN - 2) % PN) % PN = cN ∧ (0 + PN - cN) % PN = dN ∧ cN < PN := by
  rw [pow_of PN 256 (PN - 2) 121666 37095705934669439343138083508754565189542113879843219016388785533085940283556 (by decide +kernel) (by decide +kernel)]
  decide +kernel
set_option maxRecDepth 20000 in
theorem curD_any (w : World) : Calls Try.prog 75 #[] w fun e w' => e = .returned (numV dN) ∧ Below w.heap.size w w' := by
  have K1 := Lib.hid (fun w => psmall_any 121665 w (by decide))
  have K2 := Lib.hid (fun w => psmall_any 121666 w (by decide))
  have K3 := Lib.hid (fun w => div_any 121665 121666 w (by decide +kernel) (by decide +kernel))
  rw [d_num.1] at K3
  have K4 := Lib.hid (fun w => pneg_any cN w d_num.2.2)
  rw [d_num.2.1] at K4
  generalize cN = c at *
  generalize dN = R at *
  obtain ⟨xr, xz, xB⟩ := z1_at 27 w
  obtain ⟨m1, hm1⟩ : ∃ m : Nat, m = 121665 := ⟨_, rfl⟩
  obtain ⟨m2, hm2⟩ : ∃ m : Nat, m = 121666 := ⟨_, rfl⟩
  rw [← hm1] at K1 K3
  rw [← hm2] at K2 K3
  have e1 : ((m1 : Nat) : Int) = 121665 := by rw [hm1]; rfl
  have e2 : ((m2 : Nat) : Int) = 121666 := by rw [hm2]; rfl
  rw [e1] at K1
  rw [e2] at K2
  clear hm1 hm2 e1 e2
  simp only [numV_agg] at K1 K2 K3 K4 ⊢
  go_enter Try.func75, Try.ntmps75
  go_wp2_with fail
  change Calls _ _ _ (Z1 27 w) _
  generalize Z1 27 w = X at *
  refine (K1.out X).mono ?_
  rintro e w1 ⟨rfl, hb1⟩
  have B1 := Lib.hid (xB.trans (hb1.mono xB.size))
  have X1 := Lib.hid (xr.keep hb1)
  clear hb1 xr xB K1
  go_wp2_with fail
  refine (K2.out _).mono ?_
  rintro e w2 ⟨rfl, hb2⟩
  have B2 := Lib.hid (B1.out.trans (hb2.mono B1.out.size))
  have X2 := Lib.hid (X1.out.keep hb2)
  clear hb2 B1 X1 K2
  go_wp2_with fail
  refine (K3.out _).mono ?_
  rintro e w3 ⟨rfl, hb3⟩
  have B3 := Lib.hid (B2.out.trans (hb3.mono B2.out.size))
  have X3 := Lib.hid (X2.out.keep hb3)
  clear hb3 B2 X2 K3
  go_wp2_with fail
  refine (K4.out _).mono ?_
  rintro e w4 ⟨rfl, hb4⟩
  have xr := isA_zero' (X3.out.keep hb4)
  obtain ⟨⟨d0, d1, d2, d3⟩, e0, e1, e2, e3⟩ := fourV xr
  have KL := Lib.hid (load_el (isA_set (n := R) xr))
  have BR := Lib.hid (set4_below (v0 := .int .u64 (wd R 0 : Int)) (v1 := .int .u64 (wd R 1 : Int)) (v2 := .int .u64 (wd R 2 : Int)) (v3 := .int .u64 (wd R 3 : Int)) (B3.out.trans (hb4.mono B3.out.size)) (b := w.heap.size) (Nat.le_refl _))
  clear hb4 B3 X3 K4 xr
  go_wp2_with fail
  exact bodyPost_ret (results_arr Try.results75 (by rfl) KL.out) rfl ⟨rfl, BR.out⟩
end Go.Proofs.Ytigfoophimjgdaa
namespace Go.Proofs.Ytigfoophimjgdaa
set_option maxRecDepth 20000
set_option linter.unusedSimpArgs false
set_option linter.unusedVariables false
open Go.RowKit Go.Sort
/-- A point's sixteen words. -/
def ptL (X Y Z T : Nat) : List Value := [.int .u64 (wd X 0 : Int), .int .u64 (wd X 1 : Int), .int .u64 (wd X 2 : Int), .int .u64 (wd X 3 : Int), .int .u64 (wd Y 0 : Int), .int .u64 (wd Y 1 : Int), .int .u64 (wd Y 2 : Int), .int .u64 (wd Y 3 : Int), .int .u64 (wd Z 0 : Int), .int .u64 (wd Z 1 : Int), .int .u64 (wd Z 2 : Int), .int .u64 (wd Z 3 : Int), .int .u64 (wd T 0 : Int), .int .u64 (wd T 1 : Int), .int .u64 (wd T 2 : Int), .int .u64 (wd T 3 : Int)]
def ptV (X Y Z T : Nat) : Value := .agg (ptL X Y Z T).toArray
def A5 (e f g h : Nat) (w : World) : World := ((((w.alloc (.cells #[.int .u64 (wd e 0 : Int), .int .u64 (wd e 1 : Int), .int .u64 (wd e 2 : Int), .int .u64 (wd e 3 : Int)] 27)).alloc (.cells #[.int .u64 (wd f 0 : Int), .int .u64 (wd f 1 : Int), .int .u64 (wd f 2 : Int), .int .u64 (wd f 3 : Int)] 27)).alloc (.cells #[.int .u64 (wd g 0 : Int), .int .u64 (wd g 1 : Int), .int .u64 (wd g 2 : Int), .int .u64 (wd g 3 : Int)] 27)).alloc (.cells #[.int .u64 (wd h 0 : Int), .int .u64 (wd h 1 : Int), .int .u64 (wd h 2 : Int), .int .u64 (wd h 3 : Int)] 27)).alloc (.cells #[.int .u64 0, .int .u64 0, .int .u64 0, .int .u64 0, .int .u64 0, .int .u64 0, .int .u64 0, .int .u64 0, .int .u64 0, .int .u64 0, .int .u64 0, .int .u64 0, .int .u64 0, .int .u64 0, .int .u64 0, .int .u64 0] 30)
theorem a5_at (e f g h : Nat) (w : World) : IsA (A5 e f g h w) w.heap.size e 27 ∧ IsA (A5 e f g h w) (w.heap.size + 1) f 27 ∧ IsA (A5 e f g h w) (w.heap.size + 1 + 1) g 27 ∧ IsA (A5 e f g h w) (w.heap.size + 1 + 1 + 1) h 27 ∧
    (A5 e f g h w).heap[w.heap.size + 1 + 1 + 1 + 1]? = some (.cells #[.int .u64 0, .int .u64 0, .int .u64 0, .int .u64 0, .int .u64 0, .int .u64 0, .int .u64 0, .int .u64 0, .int .u64 0, .int .u64 0, .int .u64 0, .int .u64 0, .int .u64 0, .int .u64 0, .int .u64 0, .int .u64 0] 30 (0, 0)) ∧ Below w.heap.size w (A5 e f g h w) := by
  have s : ∀ (W : World) (o : Obj), (W.alloc o).heap.size = W.heap.size + 1 := fun W o => by simp
  unfold A5
  refine ⟨((((isA_new w e _).alloc _).alloc _).alloc _).alloc _, ?_, ?_, ?_, ?_, gr_alloc (gr_alloc (gr_alloc (gr_alloc (gr_alloc (Below.refl _ _) _) _) _) _) _⟩
  · have x := (((isA_new (w.alloc (.cells #[.int .u64 (wd e 0 : Int), .int .u64 (wd e 1 : Int), .int .u64 (wd e 2 : Int), .int .u64 (wd e 3 : Int)] 27)) f 27).alloc (.cells #[.int .u64 (wd g 0 : Int), .int .u64 (wd g 1 : Int), .int .u64 (wd g 2 : Int), .int .u64 (wd g 3 : Int)] 27)).alloc (.cells #[.int .u64 (wd h 0 : Int), .int .u64 (wd h 1 : Int), .int .u64 (wd h 2 : Int), .int .u64 (wd h 3 : Int)] 27)).alloc (.cells #[.int .u64 0, .int .u64 0, .int .u64 0, .int .u64 0, .int .u64 0, .int .u64 0, .int .u64 0, .int .u64 0, .int .u64 0, .int .u64 0, .int .u64 0, .int .u64 0, .int .u64 0, .int .u64 0, .int .u64 0, .int .u64 0] 30)
    rwa [s] at x
  · have x := ((isA_new ((w.alloc (.cells #[.int .u64 (wd e 0 : Int), .int .u64 (wd e 1 : Int), .int .u64 (wd e 2 : Int), .int .u64 (wd e 3 : Int)] 27)).alloc (.cells #[.int .u64 (wd f 0 : Int), .int .u64 (wd f 1 : Int), .int .u64 (wd f 2 : Int), .int .u64 (wd f 3 : Int)] 27)) g 27).alloc (.cells #[.int .u64 (wd h 0 : Int), .int .u64 (wd h 1 : Int), .int .u64 (wd h 2 : Int), .int .u64 (wd h 3 : Int)] 27)).alloc (.cells #[.int .u64 0, .int .u64 0, .int .u64 0, .int .u64 0, .int .u64 0, .int .u64 0, .int .u64 0, .int .u64 0, .int .u64 0, .int .u64 0, .int .u64 0, .int .u64 0, .int .u64 0, .int .u64 0, .int .u64 0, .int .u64 0] 30)
    rwa [s, s] at x
  · have x := (isA_new (((w.alloc (.cells #[.int .u64 (wd e 0 : Int), .int .u64 (wd e 1 : Int), .int .u64 (wd e 2 : Int), .int .u64 (wd e 3 : Int)] 27)).alloc (.cells #[.int .u64 (wd f 0 : Int), .int .u64 (wd f 1 : Int), .int .u64 (wd f 2 : Int), .int .u64 (wd f 3 : Int)] 27)).alloc (.cells #[.int .u64 (wd g 0 : Int), .int .u64 (wd g 1 : Int), .int .u64 (wd g 2 : Int), .int .u64 (wd g 3 : Int)] 27)) h 27).alloc (.cells #[.int .u64 0, .int .u64 0, .int .u64 0, .int .u64 0, .int .u64 0, .int .u64 0, .int .u64 0, .int .u64 0, .int .u64 0, .int .u64 0, .int .u64 0, .int .u64 0, .int .u64 0, .int .u64 0, .int .u64 0, .int .u64 0] 30)
    rwa [s, s, s] at x
  · have x := alloc_new ((((w.alloc (.cells #[.int .u64 (wd e 0 : Int), .int .u64 (wd e 1 : Int), .int .u64 (wd e 2 : Int), .int .u64 (wd e 3 : Int)] 27)).alloc (.cells #[.int .u64 (wd f 0 : Int), .int .u64 (wd f 1 : Int), .int .u64 (wd f 2 : Int), .int .u64 (wd f 3 : Int)] 27)).alloc (.cells #[.int .u64 (wd g 0 : Int), .int .u64 (wd g 1 : Int), .int .u64 (wd g 2 : Int), .int .u64 (wd g 3 : Int)] 27)).alloc (.cells #[.int .u64 (wd h 0 : Int), .int .u64 (wd h 1 : Int), .int .u64 (wd h 2 : Int), .int .u64 (wd h 3 : Int)] 27)) (.cells #[.int .u64 0, .int .u64 0, .int .u64 0, .int .u64 0, .int .u64 0, .int .u64 0, .int .u64 0, .int .u64 0, .int .u64 0, .int .u64 0, .int .u64 0, .int .u64 0, .int .u64 0, .int .u64 0, .int .u64 0, .int .u64 0] 30)
    rwa [s, s, s, s] at x
set_option maxRecDepth 20000 in
set_option maxHeartbeats 8000000 in
theorem quot_any (e f g h : Nat) (w : World) (he : e < PN) (hf : f < PN) (hg : g < PN) (hh : h < PN) : Calls Try.prog 87 #[numV e, numV f, numV g, numV h] w fun E w' => E = .returned (ptV (e * f % PN) (g * h % PN) (f * g % PN) (e * h % PN)) ∧ Below w.heap.size w w' := by
  have HMIX := Lib.hid (show Try.prog.follows .mixedOrders = true by kernel_rfl)
  have K1 := Lib.hid (mul_two e f he hf)
  have K2 := Lib.hid (mul_two g h hg hh)
  have K3 := Lib.hid (mul_two f g hf hg)
  have K4 := Lib.hid (mul_two e h he hh)
  generalize e * f % PN = X at *
  generalize g * h % PN = Y at *
  generalize f * g % PN = Z at *
  generalize e * h % PN = T at *
  simp only [numV_agg] at K1 K2 K3 K4 ⊢
  clear he hf hg hh
  go_enter Try.func87, Try.ntmps87
  go_wp2_with fail
  change Code.wp _ _ _ _ (A5 e f g h w)
  obtain ⟨xe, xf, xg, xh, xr, xB⟩ := a5_at e f g h w
  generalize A5 e f g h w = V0 at *
  obtain ⟨⟨q0, q1, q2, q3⟩, _⟩ := fourV xe
  obtain ⟨⟨q4, q5, q6, q7⟩, _⟩ := fourV xf
  obtain ⟨⟨q8, q9, q10, q11⟩, _⟩ := fourV xg
  obtain ⟨⟨q12, q13, q14, q15⟩, _⟩ := fourV xh
  have d0 := fun d os => cell_regrown q0 d os
  have d1 := fun d os => cell_regrown q1 d os
  have d2 := fun d os => cell_regrown q2 d os
  have d3 := fun d os => cell_regrown q3 d os
  have d4 := fun d os => cell_regrown q4 d os
  have d5 := fun d os => cell_regrown q5 d os
  have d6 := fun d os => cell_regrown q6 d os
  have d7 := fun d os => cell_regrown q7 d os
  have d8 := fun d os => cell_regrown q8 d os
  have d9 := fun d os => cell_regrown q9 d os
  have d10 := fun d os => cell_regrown q10 d os
  have d11 := fun d os => cell_regrown q11 d os
  have d12 := fun d os => cell_regrown q12 d os
  have d13 := fun d os => cell_regrown q13 d os
  have d14 := fun d os => cell_regrown q14 d os
  have d15 := fun d os => cell_regrown q15 d os
  have XR := Lib.hid xr
  have XB := Lib.hid xB
  clear xe xf xg xh xr xB q0 q1 q2 q3 q4 q5 q6 q7 q8 q9 q10 q11 q12 q13 q14 q15
  refine wp_region_inw 18 HMIX.out (by decide) (by kernel_rfl) (by kernel_rfl) ?_
  repeat (first
    | (refine inw_skip (by rfl) (by rfl) ?_; simp only [Act.put, List.setIfInBounds_toArray, List.set_cons_zero, List.set_cons_succ])
    | (refine inw_val (v := ?_) (by rfl) (by rfl) (fun d os => ?_) ?_; rotate_left; (focus (go_simp; (try with_reducible rfl); done)); simp only [Act.put, List.setIfInBounds_toArray, List.set_cons_zero, List.set_cons_succ]))
  refine inw_mk (fun b => .slice (some ⟨b, 0, none⟩) 2 2) (.cells #[.int .u64 (wd e 0 : Int), .int .u64 (wd e 1 : Int), .int .u64 (wd e 2 : Int), .int .u64 (wd e 3 : Int), .int .u64 (wd f 0 : Int), .int .u64 (wd f 1 : Int), .int .u64 (wd f 2 : Int), .int .u64 (wd f 3 : Int)] 27 (0, 0)) (by rfl) (by rfl) (fun d os => ?_) ?_; (focus (go_simp; done)); simp only [List.nil_append, List.cons_append]
  repeat (first
    | (refine inw_skip (by rfl) (by rfl) ?_; simp only [Act.put, List.setIfInBounds_toArray, List.set_cons_zero, List.set_cons_succ])
    | (refine inw_val (v := ?_) (by rfl) (by rfl) (fun d os => ?_) ?_; rotate_left; (focus (go_simp; (try with_reducible rfl); done)); simp only [Act.put, List.setIfInBounds_toArray, List.set_cons_zero, List.set_cons_succ]))
  refine inw_callp (v := _) (f := 60) (args := fun b => #[.slice (some ⟨b, 0, none⟩) 2 2]) (by rfl) (by rfl) (fun b => by rfl) (fun b d os => by (simp only [Act.put, List.setIfInBounds_toArray, List.set_cons_zero, List.set_cons_succ]; go_simp; done)) K1.out ?_; simp only [Act.put, List.setIfInBounds_toArray, List.set_cons_zero, List.set_cons_succ]
  repeat (first
    | (refine inw_skip (by rfl) (by rfl) ?_; simp only [Act.put, List.setIfInBounds_toArray, List.set_cons_zero, List.set_cons_succ])
    | (refine inw_val (v := ?_) (by rfl) (by rfl) (fun d os => ?_) ?_; rotate_left; (focus (go_simp; (try with_reducible rfl); done)); simp only [Act.put, List.setIfInBounds_toArray, List.set_cons_zero, List.set_cons_succ]))
  refine inw_mk (fun b => .slice (some ⟨b, 0, none⟩) 2 2) (.cells #[.int .u64 (wd g 0 : Int), .int .u64 (wd g 1 : Int), .int .u64 (wd g 2 : Int), .int .u64 (wd g 3 : Int), .int .u64 (wd h 0 : Int), .int .u64 (wd h 1 : Int), .int .u64 (wd h 2 : Int), .int .u64 (wd h 3 : Int)] 27 (0, 0)) (by rfl) (by rfl) (fun d os => ?_) ?_; (focus (go_simp; done)); simp only [List.nil_append, List.cons_append]
  repeat (first
    | (refine inw_skip (by rfl) (by rfl) ?_; simp only [Act.put, List.setIfInBounds_toArray, List.set_cons_zero, List.set_cons_succ])
    | (refine inw_val (v := ?_) (by rfl) (by rfl) (fun d os => ?_) ?_; rotate_left; (focus (go_simp; (try with_reducible rfl); done)); simp only [Act.put, List.setIfInBounds_toArray, List.set_cons_zero, List.set_cons_succ]))
  refine inw_callp (v := _) (f := 60) (args := fun b => #[.slice (some ⟨b, 0, none⟩) 2 2]) (by rfl) (by rfl) (fun b => by rfl) (fun b d os => by (simp only [Act.put, List.setIfInBounds_toArray, List.set_cons_zero, List.set_cons_succ]; go_simp; done)) K2.out ?_; simp only [Act.put, List.setIfInBounds_toArray, List.set_cons_zero, List.set_cons_succ]
  repeat (first
    | (refine inw_skip (by rfl) (by rfl) ?_; simp only [Act.put, List.setIfInBounds_toArray, List.set_cons_zero, List.set_cons_succ])
    | (refine inw_val (v := ?_) (by rfl) (by rfl) (fun d os => ?_) ?_; rotate_left; (focus (go_simp; (try with_reducible rfl); done)); simp only [Act.put, List.setIfInBounds_toArray, List.set_cons_zero, List.set_cons_succ]))
  refine inw_mk (fun b => .slice (some ⟨b, 0, none⟩) 2 2) (.cells #[.int .u64 (wd f 0 : Int), .int .u64 (wd f 1 : Int), .int .u64 (wd f 2 : Int), .int .u64 (wd f 3 : Int), .int .u64 (wd g 0 : Int), .int .u64 (wd g 1 : Int), .int .u64 (wd g 2 : Int), .int .u64 (wd g 3 : Int)] 27 (0, 0)) (by rfl) (by rfl) (fun d os => ?_) ?_; (focus (go_simp; done)); simp only [List.nil_append, List.cons_append]
  repeat (first
    | (refine inw_skip (by rfl) (by rfl) ?_; simp only [Act.put, List.setIfInBounds_toArray, List.set_cons_zero, List.set_cons_succ])
    | (refine inw_val (v := ?_) (by rfl) (by rfl) (fun d os => ?_) ?_; rotate_left; (focus (go_simp; (try with_reducible rfl); done)); simp only [Act.put, List.setIfInBounds_toArray, List.set_cons_zero, List.set_cons_succ]))
  refine inw_callp (v := _) (f := 60) (args := fun b => #[.slice (some ⟨b, 0, none⟩) 2 2]) (by rfl) (by rfl) (fun b => by rfl) (fun b d os => by (simp only [Act.put, List.setIfInBounds_toArray, List.set_cons_zero, List.set_cons_succ]; go_simp; done)) K3.out ?_; simp only [Act.put, List.setIfInBounds_toArray, List.set_cons_zero, List.set_cons_succ]
  repeat (first
    | (refine inw_skip (by rfl) (by rfl) ?_; simp only [Act.put, List.setIfInBounds_toArray, List.set_cons_zero, List.set_cons_succ])
    | (refine inw_val (v := ?_) (by rfl) (by rfl) (fun d os => ?_) ?_; rotate_left; (focus (go_simp; (try with_reducible rfl); done)); simp only [Act.put, List.setIfInBounds_toArray, List.set_cons_zero, List.set_cons_succ]))
  refine inw_mk (fun b => .slice (some ⟨b, 0, none⟩) 2 2) (.cells #[.int .u64 (wd e 0 : Int), .int .u64 (wd e 1 : Int), .int .u64 (wd e 2 : Int), .int .u64 (wd e 3 : Int), .int .u64 (wd h 0 : Int), .int .u64 (wd h 1 : Int), .int .u64 (wd h 2 : Int), .int .u64 (wd h 3 : Int)] 27 (0, 0)) (by rfl) (by rfl) (fun d os => ?_) ?_; (focus (go_simp; done)); simp only [List.nil_append, List.cons_append]
  repeat (first
    | (refine inw_skip (by rfl) (by rfl) ?_; simp only [Act.put, List.setIfInBounds_toArray, List.set_cons_zero, List.set_cons_succ])
    | (refine inw_val (v := ?_) (by rfl) (by rfl) (fun d os => ?_) ?_; rotate_left; (focus (go_simp; (try with_reducible rfl); done)); simp only [Act.put, List.setIfInBounds_toArray, List.set_cons_zero, List.set_cons_succ]))
  refine inw_callp (v := _) (f := 60) (args := fun b => #[.slice (some ⟨b, 0, none⟩) 2 2]) (by rfl) (by rfl) (fun b => by rfl) (fun b d os => by (simp only [Act.put, List.setIfInBounds_toArray, List.set_cons_zero, List.set_cons_succ]; go_simp; done)) K4.out ?_; simp only [Act.put, List.setIfInBounds_toArray, List.set_cons_zero, List.set_cons_succ]
  repeat (first
    | (refine inw_skip (by rfl) (by rfl) ?_; simp only [Act.put, List.setIfInBounds_toArray, List.set_cons_zero, List.set_cons_succ])
    | (refine inw_val (v := ?_) (by rfl) (by rfl) (fun d os => ?_) ?_; rotate_left; (focus (go_simp; (try with_reducible rfl); done)); simp only [Act.put, List.setIfInBounds_toArray, List.set_cons_zero, List.set_cons_succ]))

  refine inw_end4 (t1 := 11) (t2 := 15) (t3 := 19) (t4 := 23) (by rfl) (by rfl) (by rfl) (by rfl) (fun n1 n2 n3 n4 d os => ?_)
  have BW := below_regrown V0 d os
  have xr := (BW.block _ (Array.getElem?_eq_some_iff.1 XR.out).1).trans XR.out
  have xB := XB.out.trans (BW.mono XB.out.size)
  generalize grow (redrawn V0 d) os = V at xr xB ⊢
  clear BW XR XB d0 d1 d2 d3 d4 d5 d6 d7 d8 d9 d10 d11 d12 d13 d14 d15 K1 K2 K3 K4
  simp only [Act.put, List.setIfInBounds_toArray, List.set_cons_zero, List.set_cons_succ]
  have G := Lib.hid (setRow_heap V (w.heap.size + 1 + 1 + 1 + 1) _ (ptL X Y Z T).toArray _ _ xr)
  have GB := Lib.hid (below_setRow xB (by omega : w.heap.size ≤ w.heap.size + 1 + 1 + 1 + 1) (ptL X Y Z T).toArray)
  change wpAny _ _ _ _ 1 _ _ _
  refine any_one (i := 18) (by kernel_rfl) rfl (fun K hK => ?_)
  rw [if_pos (by rfl)]
  refine wp_store_row 30 (.tmp 8) (.tmp 26) rfl (w.heap.size + 1 + 1 + 1 + 1) (ptL X Y Z T).toArray (by simp [Act.eval]) (by simp [Act.eval, ptL]) 30 _ xr (by kernel_rfl) (by rfl) (by simp [ptL, Value.oneCell']) ?_
  simp only [Act.put, List.setIfInBounds_toArray, List.set_cons_zero, List.set_cons_succ]
  refine hK _ _ ?_
  clear hK K xr xB
  generalize V.setRow (w.heap.size + 1 + 1 + 1 + 1) (ptL X Y Z T).toArray = Y9 at *
  refine wpAny_done (by kernel_rfl) ?_ _
  iterate 4 go_step
  have kl := run_loadVar_row (P := Try.prog) Y9 (w.heap.size + 1 + 1 + 1 + 1) 30 30 _ (0, 0) _ G.out Try.underlying30 rfl (by kernel_rfl)
  exact bodyPost_ret (v := ptV X Y Z T) (results_arr Try.results87 (by rfl) kl) rfl ⟨rfl, GB.out⟩
end Go.Proofs.Ytigfoophimjgdaa
namespace Go.Proofs.Ytigfoophimjgdaa
set_option maxRecDepth 20000
set_option linter.unusedSimpArgs false
set_option linter.unusedVariables false
open Go.RowKit Go.Sort
/-- What it comes to doesn't hang on the world. -/
def Steady (P : Program) (o : Oper) : Prop := ∀ (B : Act) (W : World), (∃ v, ∀ W', (execOp B.eval o).run P W' = .ok (.value v) W') ∨ ∃ x, (execOp B.eval o).run P W = .halt x W
theorem steady_extract {P : Program} {o : Oper} {x : Operand} {i : Nat} (ho : o.op = .extract x i) : Steady P o := fun B W => by
  unfold execOp
  simp only [ho, Instr.extract]
  cases B.eval x with
  | tuple vs =>
    cases h : vs[i]? with
    | some v => exact .inl ⟨v, fun W' => by simp [h, Sem.run_bind, Sem.run_pure]⟩
    | none => exact .inr ⟨_, by simp [h, Sem.run_bind, stuck]; rfl⟩
  | _ => exact .inr ⟨_, by simp [Sem.run_bind, stuck]; rfl⟩
/-- What stands behind the first n waits for all of them but one. -/
def tailE (ops : Array Oper) (n e : Nat) : Bool := (List.range ops.size).all fun i => decide (i < n) || match ops[i]? with
  | none => true
  | some o => (List.range n).all fun j => j == e || (upto ops 5 (depsOf o)).contains j
theorem wpAny_of_inz {P : Program} {ops : Array Oper} {Q0 : Exit → Act → World → Prop} {e : Nat} {oe : Oper} (hoe : ops[e]? = some oe) (hge : oe.guard = none) (hse : Steady P oe) {n : Nat} (hfe : Region.free .any ops (headUp ops n) e = true) {a : Act} {w0 : World} {Ts : List TkW} (hen : e < n) (hB : invB ops a.tmps.size = true) (hn : n ≤ ops.size) (htl : tailE ops n e = true) (hst : ∀ T ∈ Ts, T.Stable)
    (hob : ∀ i o, i < n → ops[i]? = some o → ∃ T A Ps ns, Ts[i]? = some T ∧ AccW ops a Ts i A Ps ns ∧ (∀ p, T = .pr p true → Fresh P o) ∧ ∀ d os, Given ops (grow (redrawn w0 d) os) (Ps.filter (waits ops o)) A (opOK P ops o T.tk (grow (redrawn w0 d) os)))
    (hend : ∃ A Ps ns, AccW ops a Ts n A Ps ns ∧ ∀ d os, Given ops (grow (redrawn w0 d) os) Ps A (fun A => Apart ops ns A → wpAny P .any ops (NoPanic Q0) (ops.size - n) (headUp ops n) A (grow (redrawn w0 d) os))) :
    ∀ (fuel : Nat) (listed : Array Bool) (B : Act) (w : World), InwAt ops Ts n a w0 listed B w → listed.toList.count false = fuel → wpAny P .any ops (NoPanic Q0) fuel listed B w := by
  have hB' := hB
  simp only [invB, Bool.and_eq_true, List.all_eq_true, List.mem_range] at hB'
  obtain ⟨hsel, hops⟩ := hB'
  have hform : ∀ i o, ops[i]? = some o → (∀ j ∈ depsOf o, j < i) ∧ (∀ d, o.dst = some d → d < a.tmps.size) ∧
      (∀ t ∈ o.looksAt ops, (∃ j ∈ depsOf o, dstOf ops j = some t) ∨ ∀ j < ops.size, dstOf ops j ≠ some t) := fun i o ho => by
    have h := hops i (Array.getElem?_eq_some_iff.1 ho).1
    simp only [ho, Bool.and_eq_true, List.all_eq_true, decide_eq_true_eq] at h
    refine ⟨h.1.1, fun d hd => ?_, fun t ht => ?_⟩
    · have h2 := h.1.2
      rw [hd] at h2
      simp only [Bool.and_eq_true, decide_eq_true_eq] at h2
      exact h2.1
    · have h3 := h.2 t ht
      simp only [Bool.or_eq_true, List.any_eq_true, List.all_eq_true, List.mem_range, beq_iff_eq, bne_iff_ne, ne_eq] at h3
      exact h3
  have htail : ∀ i o, n ≤ i → ops[i]? = some o → ∀ j < n, j ≠ e → j ∈ upto ops 5 (depsOf o) := fun i o hi ho j hj hje => by
    simp only [tailE, List.all_eq_true, List.mem_range, Bool.or_eq_true, decide_eq_true_eq] at htl
    rcases htl i (Array.getElem?_eq_some_iff.1 ho).1 with h | h
    · omega
    · simp only [ho, List.all_eq_true, List.mem_range, Bool.or_eq_true, beq_iff_eq] at h
      rcases h j hj with h | h
      · exact absurd h hje
      · simpa using h
  -- all of the first n have come up
  have hfin : ∀ listed B w, InwAt ops Ts n a w0 listed B w → (∀ i < n, listed[i]? = some true) → wpAny P .any ops (NoPanic Q0) (listed.toList.count false) listed B w := fun listed B w hI hall => by
    have hlist : listed = headUp ops n := by
      apply Array.ext_getElem?
      intro k
      unfold headUp
      show listed[k]? = (List.replicate n true ++ List.replicate (ops.size - n) false).toArray[k]?
      rw [show (List.replicate n true ++ List.replicate (ops.size - n) false).toArray[k]? = (List.replicate n true ++ List.replicate (ops.size - n) false)[k]? by simp only [List.getElem?_toArray]]
      by_cases hk : k < n
      · rw [hall k hk, List.getElem?_append_left (by simpa using hk), List.getElem?_replicate, if_pos hk]
      · rw [List.getElem?_append_right (by simpa using (by omega : n ≤ k)), List.length_replicate, List.getElem?_replicate]
        by_cases hk2 : k < ops.size
        · rw [if_pos (by omega)]
          have hkl : k < listed.size := by rw [hI.len]; exact hk2
          rw [Array.getElem?_eq_getElem hkl]
          cases hb : listed[k] with
          | false => rfl
          | true =>
            have := hI.head k (by rw [Array.getElem?_eq_getElem hkl, hb])
            omega
        · rw [if_neg (by omega), Array.getElem?_eq_none (by rw [hI.len]; omega)]
    have hcnt : (headUp ops n).toList.count false = ops.size - n := by
      unfold headUp
      simp [List.count_append, List.count_replicate]
    obtain ⟨⟨d, os⟩, rfl⟩ := regrown_of_below hI.below
    obtain ⟨A, Ps, ns, hA, hE⟩ := hend
    have hs : SameAt (fun t => B.tmps[t]? = A.tmps[t]?) A B := fun t ht => ht
    obtain ⟨A', hk, hS, hD, hZ⟩ := given_use _ A _ _ hs (by rw [hA.size, hI.size]) (hE d os) (fun q hq => by
      obtain ⟨hlt, f, hT⟩ := hA.back q hq
      obtain ⟨T, u, hT', hu, hd⟩ := hI.known q.1 (hall q.1 hlt)
      rw [hT] at hT'
      obtain rfl := Option.some.inj hT'
      exact ⟨u, hu, hd⟩)
    have hAB : A' = B := by
      obtain ⟨t1, d1⟩ := A'
      obtain ⟨t2, d2⟩ := B
      have e1 : d1 = d2 := by rw [show d1 = A.defers from hD, hA.defers, show d2 = a.defers from hI.defers]
      have e2 : t1 = t2 := Array.ext_getElem? fun t => by
        refine (hS t ?_).symm
        by_cases h : ∃ j, j < n ∧ dstOf ops j = some t
        · obtain ⟨j, hj, hd⟩ := h
          obtain ⟨T, u, hT, hu, hdu⟩ := hI.known j (hall j hj)
          cases T with
          | val v =>
            refine .inl ?_
            rw [hdu t hd, hA.vals j hj v t hT hd, show u = v from hu]
          | pr p f => exact .inr ⟨(j, p), hA.prs j hj p f hT, hd⟩
        · refine .inl ?_
          rw [hI.out t (fun j hj hd => h ⟨j, hI.head j hj, hd⟩), hA.out t (fun j hj hd => h ⟨j, hj, hd⟩)]
      rw [e1, e2]
    rw [hAB] at hk
    have h2 := hk (fun i hi j hj hij d d' b b' hd hd' hb hb' => by
      obtain ⟨hi1, p, hp⟩ := hA.news i hi
      obtain ⟨hj1, p', hp'⟩ := hA.news j hj
      exact hI.apart i j hij (hall i hi1) (hall j hj1) p p' hp hp' d d' b b' hd hd' hb hb')
    rw [hlist, hcnt]
    exact h2
  have hstuck : ∀ listed B w, InwAt ops Ts n a w0 listed B w → Region.ready .any ops listed = [] → ∀ i < n, listed[i]? = some true := fun listed B w hI hr => by
    intro i
    induction i using Nat.strongRecOn with
    | ind i ih =>
      intro hi
      have hio : i < ops.size := by omega
      have hli : i < listed.size := by rw [hI.len]; exact hio
      cases hb : listed[i]? with
      | none => rw [Array.getElem?_eq_none_iff] at hb; omega
      | some b =>
        cases b with
        | true => rfl
        | false =>
          exfalso
          have ho : ops[i]? = some ops[i] := Array.getElem?_eq_getElem hio
          have : i ∈ Region.ready .any ops listed := mem_ready.2 ⟨by rw [Array.getD_eq_getD_getElem?, hb]; rfl, ops[i], ho, fun e he hbi => by
            have hd : e.on ∈ depsOf ops[i] := by
              unfold depsOf
              exact List.mem_map.2 ⟨e, List.mem_filter.2 ⟨Array.mem_toList_iff.2 he, hbi⟩, rfl⟩
            have hlt := (hform i _ ho).1 _ hd
            exact getD_false_true.2 (ih e.on hlt (by omega))⟩
          rw [hr] at this
          cases this
  intro fuel
  induction fuel with
  | zero =>
    intro listed B w hI hc
    have hall : ∀ i < n, listed[i]? = some true := fun i hi => by
      have h0 := count_zero listed.toList (by omega) i
      rw [Array.getElem?_toList] at h0
      have hli : i < listed.size := by rw [hI.len]; omega
      rw [Array.getElem?_eq_getElem hli] at h0 ⊢
      cases hb : listed[i] with
      | true => rfl
      | false => rw [hb] at h0; exact absurd rfl h0
    have := hfin listed B w hI hall
    rwa [hc] at this
  | succ fuel ih =>
    intro listed B w hI hc
    by_cases hall : ∀ i < n, listed[i]? = some true
    · have := hfin listed B w hI hall
      rwa [hc] at this
    have hmain : ∀ i o, i ∈ Region.ready .any ops listed → ops[i]? = some o → i < n → ∃ T A', opOK P ops o T w A' ∧ SameAt (fun t => t ∈ o.looksAt ops) A' B ∧ (∀ v w', T.holds v w' → Below w.heap.size w w' → (Fresh P o → ∀ b, v = .pointer (some ⟨b, 0, none⟩) → b = w.heap.size) → wpAny P .any ops (NoPanic Q0) fuel (listed.setIfInBounds i true) (B.put o.dst v) w') := by
      intro i o hi ho hin
      obtain ⟨h0, o', ho', hup⟩ := mem_ready.1 hi
      obtain rfl : o' = o := by rw [ho] at ho'; exact (Option.some.inj ho').symm
      have hdone : ∀ j ∈ depsOf o', listed[j]? = some true := fun j hj => by
        unfold depsOf at hj
        obtain ⟨e, he, rfl⟩ := List.mem_map.1 hj
        obtain ⟨he1, he2⟩ := List.mem_filter.1 he
        exact getD_false_true.1 (hup e (Array.mem_toList_iff.1 he1) he2)
      obtain ⟨hdep, hdst, hlook⟩ := hform i o' ho
      obtain ⟨T, A, Ps, ns, hT, hA, hFr, hOb⟩ := hob i o' hin ho
      have h0' := getD_true_false.1 h0
      have hifree : listed[i]? = some false := by rw [Array.getElem?_toList] at h0'; exact h0'
      have hli : i < listed.size := (Array.getElem?_eq_some_iff.1 hifree).1
      obtain ⟨⟨d, os⟩, rfl⟩ := regrown_of_below hI.below
      have hs : SameAt (fun t => B.tmps[t]? = A.tmps[t]?) A B := fun t ht => ht
      obtain ⟨A', hk, hS, hD, hZ⟩ := given_use _ A _ _ hs (by rw [hA.size, hI.size]) (hOb d os) (fun q hq => by
        obtain ⟨hq1, hq2⟩ := List.mem_filter.1 hq
        obtain ⟨T', u, hT', hu, hd'⟩ := hI.known q.1 (hdone q.1 (by simp only [waits, Bool.and_eq_true, List.contains_iff_mem] at hq2; exact hq2.1))
        obtain ⟨_, f, hT2⟩ := hA.back q hq1
        rw [hT2] at hT'
        obtain rfl := Option.some.inj hT'
        exact ⟨u, hu, hd'⟩)
      have hNS : ∀ t ∈ o'.looksAt ops, (B.tmps[t]? = A.tmps[t]?) ∨ ∃ q ∈ Ps.filter (waits ops o'), dstOf ops q.1 = some t := fun t ht => by
        rcases hlook t ht with ⟨j, hj, hd⟩ | hno
        · obtain ⟨T', u, hT', hu, hd'⟩ := hI.known j (hdone j hj)
          cases T' with
          | val v =>
            refine .inl ?_
            rw [hd' t hd, hA.vals j (hdep j hj) v t hT' hd, show u = v from hu]
          | pr p f => exact .inr ⟨(j, p), List.mem_filter.2 ⟨hA.prs j (hdep j hj) p f hT', by simp only [waits, Bool.and_eq_true, List.contains_iff_mem, List.any_eq_true, beq_iff_eq]; exact ⟨hj, t, ht, hd⟩⟩, hd⟩
        · refine .inl ?_
          rw [hA.out t fun j hj => hno j (Nat.lt_trans hj (Array.getElem?_eq_some_iff.1 ho).1)]
          refine hI.out t fun j hj => hno j ?_
          rw [← hI.len]
          exact (Array.getElem?_eq_some_iff.1 hj).1
      refine ⟨T.tk, A', hk, fun t ht => hS t (hNS t ht), fun v w' hv hb hfv => ih _ _ _ ?_ ?_⟩
      · have hdo : dstOf ops i = o'.dst := by unfold dstOf; rw [ho]; rfl
        have hold : ∀ j, (listed.setIfInBounds i true)[j]? = some true → i ≠ j → listed[j]? = some true := fun j hj hij => by
          rw [Array.getElem?_setIfInBounds_ne hij] at hj; exact hj
        have hput : ∀ j d, dstOf ops j = some d → i ≠ j → (B.put o'.dst v).tmps[d]? = B.tmps[d]? := fun j d hd hij =>
          put_at (fun e => hij (dst_apart hB (by rw [hdo]; exact e) hd))
        refine ⟨hI.below.trans ⟨hb.os, hb.tape, hb.output, hb.size, fun k hk => hb.block k (Nat.lt_of_lt_of_le hk hI.below.size)⟩, by rw [put_defers]; exact hI.defers, by rw [put_size]; exact hI.size, by rw [Array.size_setIfInBounds]; exact hI.len, fun j hj => ?_, fun j o' hj ho' e he => ?_, fun t ht => ?_, fun j hj => ?_, ?_⟩
        · by_cases hij : i = j
          · omega
          · exact hI.head j (hold j hj hij)
        · have hup2 : ∀ e, listed[e]? = some true → (listed.setIfInBounds i true)[e]? = some true := fun e he => by
            by_cases hie : i = e
            · subst hie; rw [Array.getElem?_setIfInBounds_self_of_lt hli]
            · rw [Array.getElem?_setIfInBounds_ne hie]; exact he
          by_cases hij : i = j
          · subst hij
            rw [ho] at ho'
            obtain rfl := Option.some.inj ho'
            exact hup2 e (hdone e he)
          · exact hup2 e (hI.down j o' (hold j hj hij) ho' e he)
        · rw [put_at (fun e => ht i (by rw [Array.getElem?_setIfInBounds_self_of_lt hli]) (by rw [hdo]; exact e))]
          refine hI.out t fun j hj => ht j ?_
          by_cases hij : i = j
          · subst hij; rw [Array.getElem?_setIfInBounds_self_of_lt hli]
          · rw [Array.getElem?_setIfInBounds_ne hij]; exact hj
        · by_cases hij : i = j
          · subst hij
            refine ⟨T, v, hT, hv, fun d' hd' => ?_⟩
            rw [hdo] at hd'
            rw [hd']
            exact put_here (by rw [hI.size]; exact hdst d' hd')
          · obtain ⟨T', u, hT', hu, hd'⟩ := hI.known j (hold j hj hij)
            refine ⟨T', u, hT', (hst T' (List.mem_of_getElem? hT')).tk.keep hu hb, fun d'' hd'' => ?_⟩
            rw [hput j d'' hd'' hij]
            exact hd' d'' hd''
        · -- a block that is made now is another than those that were made
          have one : ∀ j, i ≠ j → listed[j]? = some true → ∀ p p', Ts[i]? = some (.pr p true) → Ts[j]? = some (.pr p' true) → ∀ d d' b b', dstOf ops i = some d → dstOf ops j = some d' → (B.put o'.dst v).tmps[d]? = some (.pointer (some ⟨b, 0, none⟩)) → (B.put o'.dst v).tmps[d']? = some (.pointer (some ⟨b', 0, none⟩)) → b' < b := fun j hij hj p p' hp hp' d d' b b' hd hd' hb1 hb2 => by
            rw [hdo] at hd
            rw [hd, put_here (by rw [hI.size]; exact hdst d hd)] at hb1
            rw [hput j d' hd' hij] at hb2
            have hTp : T = .pr p true := Option.some.inj (hT.symm.trans hp)
            have hbw := hfv (hFr p hTp) b (Option.some.inj hb1)
            obtain ⟨T', u, hT', hu, hdu⟩ := hI.known j hj
            rw [hp'] at hT'
            obtain rfl := Option.some.inj hT'
            rw [hdu d' hd'] at hb2
            rw [Option.some.inj hb2] at hu
            have := (hst _ (List.mem_of_getElem? hp')).2 rfl _ _ hu
            omega
          intro i' j' hne hi' hj' p p' hp hp' d d' b b' hd hd' hb1 hb2
          by_cases hii : i = i'
          · subst hii
            have := one j' hne (hold j' hj' hne) p p' hp hp' d d' b b' hd hd' hb1 hb2
            omega
          · by_cases hjj : i = j'
            · subst hjj
              have := one i' hii (hold i' hi' hii) p' p hp' hp d' d b' b hd' hd hb2 hb1
              omega
            · rw [hput i' d hd hii] at hb1
              rw [hput j' d' hd' hjj] at hb2
              exact hI.apart i' j' hne (hold i' hi' hii) (hold j' hj' hjj) p p' hp hp' d d' b b' hd hd' hb1 hb2
      · have := count_set listed.toList i h0'
        rw [Array.toList_setIfInBounds]
        omega
    by_cases hE : ∀ i < n, i ≠ e → listed[i]? = some true
    · have hne : listed[e]? ≠ some true := fun h => hall fun i hi => by
        by_cases hie : i = e
        · rw [hie]; exact h
        · exact hE i hi hie
      have heo : e < ops.size := (Array.getElem?_eq_some_iff.1 hoe).1
      have hle : e < listed.size := by rw [hI.len]; exact heo
      have hfl : listed[e]? = some false := by
        rw [Array.getElem?_eq_getElem hle] at hne ⊢
        cases hb : listed[e] with
        | false => rfl
        | true => rw [hb] at hne; exact absurd rfl hne
      have hre : e ∈ Region.ready .any ops listed := mem_ready.2 ⟨by rw [Array.getD_eq_getD_getElem?, hfl]; rfl, oe, hoe, fun x hx hbi => by
        have hd : x.on ∈ depsOf oe := by
          unfold depsOf
          exact List.mem_map.2 ⟨x, List.mem_filter.2 ⟨Array.mem_toList_iff.2 hx, hbi⟩, rfl⟩
        have hlt := (hform e _ hoe).1 _ hd
        exact getD_false_true.2 (hE x.on (by omega) (by omega))⟩
      obtain ⟨T, A', hOK, hSm, hgo⟩ := hmain e oe hre hoe hen
      have hex : execOp A'.eval oe = execOp B.eval oe := execOp_congr oe (Region.noSelect_spec hsel e oe · · hoe) fun x hx => eval_same hSm x fun t ht => by
        subst ht
        exact List.mem_append_left _ (List.mem_filterMap.2 ⟨.tmp t, by simpa using hx, rfl⟩)
      unfold opOK at hOK
      have hwA : Region.wanted oe (yielded ops A'.tmps) = true := by simp [Region.wanted, hge]
      rw [if_pos hwA, hex] at hOK
      rcases hse B w with ⟨v, hv⟩ | ⟨x, hx⟩
      · rw [hv w] at hOK
        have hK := hgo v w hOK.1 hOK.2 (fun hf b hb => by
          obtain ⟨w2, e2⟩ := hf B w
          rw [hv w] at e2
          rw [hb] at e2
          cases e2
          rfl)
        refine wpAny_first hoe (Region.noSelect_spec hsel) (fun _ _ _ h => h) fuel listed B w (fun j oj hj hjne hun hno => ?_) hre (.inl ⟨by simp [Region.wanted, hge], hv⟩) hK
        exact Region.free_spec hoe hfe j oj hj hjne (by
          have hjs : j < ops.size := (Array.getElem?_eq_some_iff.1 hj).1
          have hjn : n ≤ j := by
            rcases Nat.lt_or_ge j n with h | h
            · have h2 := hE j h hjne
              rw [Array.getD_eq_getD_getElem?, h2] at hun
              cases hun
            · exact h
          unfold headUp
          rw [Array.getD_eq_getD_getElem?, List.getElem?_toArray, List.getElem?_append_right (by simpa using hjn), List.length_replicate, List.getElem?_replicate, if_pos (by omega)]
          rfl) hno
      · rw [hx] at hOK
        exact absurd hOK (by simp [upOK])
    refine ⟨fun hr => absurd (hstuck listed B w hI hr) hall, fun i hi => ?_⟩
    obtain ⟨h0, o, ho, hup⟩ := mem_ready.1 hi
    have hdone : ∀ j ∈ depsOf o, listed[j]? = some true := fun j hj => by
      unfold depsOf at hj
      obtain ⟨x, he, rfl⟩ := List.mem_map.1 hj
      obtain ⟨he1, he2⟩ := List.mem_filter.1 he
      exact getD_false_true.1 (hup x (Array.mem_toList_iff.1 he1) he2)
    have hin : i < n := by
      rcases Nat.lt_or_ge i n with h | h
      · exact h
      · exact absurd (fun j hj hje => upto_all (p := fun j => listed[j]? = some true) hI.down 5 _ hdone j (htail i o h ho j hj hje)) hE
    obtain ⟨T, A', hOK, hSm, hgo⟩ := hmain i o hi ho hin
    exact wpOp_of_OKW ho (Region.noSelect_spec hsel i o · · ho) hSm (fun t ht => ht) hOK hgo
/-- The rule: the first operations each once; what waits for all of them, behind it, in whatever order. -/
theorem wp_region_inz {P : Program} {id : Nat} {Q : Exit → Act → World → Prop} {a : Act} {w : World} {l : List Oper} (n e : Nat) {oe : Oper} (hoe : l.toArray[e]? = some oe) (hge : oe.guard = none) (hse : Steady P oe) (hfe : Region.free .any l.toArray (headUp l.toArray n) e = true) (hen : e < n) (hm : P.follows .mixedOrders = true) (hn : n ≤ l.length) (hB : invB l.toArray a.tmps.size = true) (htl : tailE l.toArray n e = true)
    (h : wpInw P l.toArray w (fun A w' => wpAny P .any l.toArray (NoPanic Q) (l.length - n) (headUp l.toArray n) A w') (l.take n) 0 a [] []) : (Code.region id l.toArray true).wp P Q a w := by
  obtain ⟨Us, hl, hS, hO, hE⟩ := wpInw_all hB (l.take n) [] a [] [] ⟨rfl, rfl, fun _ _ => rfl, fun j hj => by simp at hj, fun j hj => by simp at hj, fun q hq => by simp at hq, fun q hq => by simp at hq⟩ (fun j hj => by
    have hj' : j < n := by rw [List.length_take] at hj; omega
    rw [List.getElem?_take_of_lt hj']
    simp) h
  simp only [List.nil_append, List.length_nil, Nat.zero_add] at hO hE
  · have hln : (l.take n).length = n := by rw [List.length_take]; omega
    rw [hln] at hE
    refine wp_region_noPanic (wp_region_any hm (wpAny_of_inz hoe hge hse hfe hen (Ts := Us) (w0 := w) (n := n) hB (by simpa using hn) htl hS (fun i o hi ho => hO i o (by rw [List.getElem?_take_of_lt hi]; simpa using ho)) (by simpa using hE) _ _ _ _ ⟨?_, rfl, rfl, by simp, fun j hj => ?_, fun j _ hj => ?_, fun t _ => rfl, fun j hj => ?_, fun i j _ hi => ?_⟩ ?_))
    · exact ⟨rfl, rfl, rfl, Nat.le_refl _, fun _ _ => rfl⟩
    · exfalso
      have := Array.mem_of_getElem? hj
      simp at this
    · exfalso
      have := Array.mem_of_getElem? hj
      simp at this
    · exfalso
      have := Array.mem_of_getElem? hj
      simp at this
    · exfalso
      have := Array.mem_of_getElem? hi
      simp at this
    · simp
end Go.Proofs.Ytigfoophimjgdaa
