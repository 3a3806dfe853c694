/- The curve -x x + y y = 1 + d x x y y over any ring: its sum stays on it, its divisors are never 0, its order doesn't count; the field modulo 2^255 - 19, and d. No program in it. The curve's points modulo 2^255 - 19 as a commutative group. No program in it. The curve's points by four numbers (x, y, z, x y / z): sums, twice one, which are the same. No program in it. -/
import Derived.Test.YthdbadomppohbaaPrq
namespace Go.Proofs.Ythdbadomppohbaa
set_option maxRecDepth 20000
set_option linter.unusedSimpArgs false
set_option linter.unusedVariables false
theorem edw_sq {α : Type} [Lean.Grind.CommRing α] (x1 y1 x2 y2 d i : α) (hi : i * i = -1) (h1 : y1*y1 - x1*x1 = 1 + d*(x1*x1)*(y1*y1)) (h2 : y2*y2 - x2*x2 = 1 + d*(x2*x2)*(y2*y2)) (hk : (d*x1*x2*y1*y2)*(d*x1*x2*y1*y2) = 1) :
    (i*x1 + (d*x1*x2*y1*y2)*y1)*(i*x1 + (d*x1*x2*y1*y2)*y1) = d*((x1*y1*(i*x2+y2))*(x1*y1*(i*x2+y2))) := by grind
theorem edw_sq' {α : Type} [Lean.Grind.CommRing α] (x1 y1 x2 y2 d i : α) (hi : i * i = -1) (h1 : y1*y1 - x1*x1 = 1 + d*(x1*x1)*(y1*y1)) (h2 : y2*y2 - x2*x2 = 1 + d*(x2*x2)*(y2*y2)) (hk : (d*x1*x2*y1*y2)*(d*x1*x2*y1*y2) = 1) :
    (i*x1 - (d*x1*x2*y1*y2)*y1)*(i*x1 - (d*x1*x2*y1*y2)*y1) = d*((x1*y1*(i*x2-y2))*(x1*y1*(i*x2-y2))) := by grind
theorem edw_two {α : Type} [Lean.Grind.CommRing α] (x1 y1 x2 y2 d i : α) (hi : i * i = -1) (hk : (d*x1*x2*y1*y2)*(d*x1*x2*y1*y2) = 1) (a : x1*y1*(i*x2+y2) = 0) (b : x1*y1*(i*x2-y2) = 0) : (2 : α) = 0 := by grind
/-- The sum's divisors are never 0. -/
theorem edw_whole {α : Type} [Lean.Grind.CommRing α] (x1 y1 x2 y2 d i : α) (hi : i * i = -1) (two : (2 : α) ≠ 0) (nsq : ∀ s t : α, s*s = d*(t*t) → t = 0)
    (h1 : y1*y1 - x1*x1 = 1 + d*(x1*x1)*(y1*y1)) (h2 : y2*y2 - x2*x2 = 1 + d*(x2*x2)*(y2*y2)) : (1 + d*x1*x2*y1*y2) * (1 - d*x1*x2*y1*y2) ≠ 0 := fun h => by
  have hk : (d*x1*x2*y1*y2)*(d*x1*x2*y1*y2) = 1 := by grind
  exact two (edw_two x1 y1 x2 y2 d i hi hk (nsq _ _ (edw_sq x1 y1 x2 y2 d i hi h1 h2 hk)) (nsq _ _ (edw_sq' x1 y1 x2 y2 d i hi h1 h2 hk)))
/-- The sum of points with divisors is of the curve, too. -/
theorem edw_closed {α : Type} [Lean.Grind.CommRing α] (x1 y1 z1 x2 y2 z2 d : α) (h1 : (y1*y1 - x1*x1)*(z1*z1) = z1*z1*(z1*z1) + d*(x1*x1)*(y1*y1)) (h2 : (y2*y2 - x2*x2)*(z2*z2) = z2*z2*(z2*z2) + d*(x2*x2)*(y2*y2)) :
    let a := z1*z2; let b := a*a; let f := d*((x1*x2)*(y1*y2)); let X := a*(x1*y2+y1*x2)*(b-f); let Y := a*(y1*y2+x1*x2)*(b+f); let Z := (b-f)*(b+f)
    (Y*Y-X*X)*(Z*Z) = Z*Z*(Z*Z) + d*(X*X)*(Y*Y) := by grind
set_option maxHeartbeats 4000000 in
set_option maxRecDepth 100000 in
/-- The order doesn't count: x, over both divisors. -/
theorem edw_assoc_x {α : Type} [Lean.Grind.CommRing α] (x1 y1 x2 y2 x3 y3 d : α) (h1 : d*x1*x1*y1*y1 = y1*y1 - x1*x1 - 1) (h2 : d*x2*x2*y2*y2 = y2*y2 - x2*x2 - 1) (h3 : d*x3*x3*y3*y3 = y3*y3 - x3*x3 - 1) :
    (((x1*y2+y1*x2)*(1-d*x1*x2*y1*y2))*y3 + ((y1*y2+x1*x2)*(1+d*x1*x2*y1*y2))*x3) * ((1+d*x2*x3*y2*y3)*(1-d*x2*x3*y2*y3) + d*x1*y1*(x2*y3+y2*x3)*(y2*y3+x2*x3))
     = (x1*((y2*y3+x2*x3)*(1+d*x2*x3*y2*y3)) + y1*((x2*y3+y2*x3)*(1-d*x2*x3*y2*y3))) * ((1+d*x1*x2*y1*y2)*(1-d*x1*x2*y1*y2) + d*x3*y3*(x1*y2+y1*x2)*(y1*y2+x1*x2)) := by grind (ringSteps := 100000000)
set_option maxHeartbeats 4000000 in
set_option maxRecDepth 100000 in
/-- .. y. -/
theorem edw_assoc_y {α : Type} [Lean.Grind.CommRing α] (x1 y1 x2 y2 x3 y3 d : α) (h1 : d*x1*x1*y1*y1 = y1*y1 - x1*x1 - 1) (h2 : d*x2*x2*y2*y2 = y2*y2 - x2*x2 - 1) (h3 : d*x3*x3*y3*y3 = y3*y3 - x3*x3 - 1) :
    (((y1*y2+x1*x2)*(1+d*x1*x2*y1*y2))*y3 + ((x1*y2+y1*x2)*(1-d*x1*x2*y1*y2))*x3) * ((1+d*x2*x3*y2*y3)*(1-d*x2*x3*y2*y3) - d*x1*y1*(x2*y3+y2*x3)*(y2*y3+x2*x3))
     = (y1*((y2*y3+x2*x3)*(1+d*x2*x3*y2*y3)) + x1*((x2*y3+y2*x3)*(1-d*x2*x3*y2*y3))) * ((1+d*x1*x2*y1*y2)*(1-d*x1*x2*y1*y2) - d*x3*y3*(x1*y2+y1*x2)*(y1*y2+x1*x2)) := by grind (ringSteps := 100000000)
section
variable {α : Type} [Lean.Grind.CommRing α]
theorem scale (A B k u v d : α) (c : (B*(1+k)*(B*(1+k)) - A*(1-k)*(A*(1-k))) * (((1-k)*(1+k))*((1-k)*(1+k))) = ((1-k)*(1+k))*((1-k)*(1+k))*(((1-k)*(1+k))*((1-k)*(1+k))) + d*(A*(1-k)*(A*(1-k)))*(B*(1+k)*(B*(1+k))))
   (hu : (1 + k) * u = 1) (hv : (1 - k) * v = 1) : B*v*(B*v) - A*u*(A*u) = 1 + d*(A*u*(A*u))*(B*v*(B*v)) := by
  have hs : ((1-k)*(1+k)) * (u*v) = 1 := by grind
  have e1 : B*v = B*(1+k)*(u*v) := by grind
  have e2 : A*u = A*(1-k)*(u*v) := by grind
  have c2 := congrArg (fun t => t * ((u*v)*(u*v)*((u*v)*(u*v)))) c
  rw [e1, e2]
  generalize B*(1+k) = Y at *
  generalize A*(1-k) = X at *
  generalize (1-k)*(1+k) = Z at *
  generalize u*v = w at *
  clear e1 e2 hu hv c
  have hz : Z*Z*(w*w) = 1 := by grind
  have l : (Y*Y - X*X)*(Z*Z)*(w*w*(w*w)) = (Y*w*(Y*w) - X*w*(X*w))*(Z*Z*(w*w)) := by grind
  have r : (Z*Z*(Z*Z) + d*(X*X)*(Y*Y))*(w*w*(w*w)) = Z*Z*(w*w)*(Z*Z*(w*w)) + d*(X*w*(X*w))*(Y*w*(Y*w)) := by grind
  rw [l, r, hz] at c2
  grind
/-- a = b, of a / b told crosswise -/
theorem cross (a b N1 M1 N2 M2 : α) (h1 : a * M1 = N1) (h2 : b * M2 = N2) (h : N1 * M2 = N2 * M1) : (a - b) * (M1 * M2) = 0 := by grind
/-- the sum of a sum: its part over one divisor. -/
theorem sum_part (A B k u v x3 y3 d w : α) (hu : (1 + k) * u = 1) (hv : (1 - k) * v = 1) (hw : (1 + d*(A*u)*x3*(B*v)*y3) * w = 1) : ((A*u*y3 + B*v*x3) * w) * ((1+k)*(1-k) + d*x3*y3*A*B) = A*(1-k)*y3 + B*(1+k)*x3 := by
  have hs : ((1+k)*(1-k)) * (u*v) = 1 := by grind
  have e : (1 + d*(A*u)*x3*(B*v)*y3) * ((1+k)*(1-k)) = (1+k)*(1-k) + d*x3*y3*A*B := by grind
  have e2 : (A*u*y3 + B*v*x3) * ((1+k)*(1-k)) = A*(1-k)*y3 + B*(1+k)*x3 := by grind
  rw [← e, ← e2]
  generalize 1 + d*(A*u)*x3*(B*v)*y3 = g at *
  generalize A*u*y3 + B*v*x3 = n at *
  generalize (1+k)*(1-k) = z at *
  clear hu hv hs e e2
  grind
theorem sum_party (A B k u v x3 y3 d w : α) (hu : (1 + k) * u = 1) (hv : (1 - k) * v = 1) (hw : (1 - d*(A*u)*x3*(B*v)*y3) * w = 1) : ((B*v*y3 + A*u*x3) * w) * ((1+k)*(1-k) - d*x3*y3*A*B) = B*(1+k)*y3 + A*(1-k)*x3 := by
  have hs : ((1+k)*(1-k)) * (u*v) = 1 := by grind
  have e : (1 - d*(A*u)*x3*(B*v)*y3) * ((1+k)*(1-k)) = (1+k)*(1-k) - d*x3*y3*A*B := by grind
  have e2 : (B*v*y3 + A*u*x3) * ((1+k)*(1-k)) = B*(1+k)*y3 + A*(1-k)*x3 := by grind
  rw [← e, ← e2]
  generalize 1 - d*(A*u)*x3*(B*v)*y3 = g at *
  generalize B*v*y3 + A*u*x3 = n at *
  generalize (1+k)*(1-k) = z at *
  clear hu hv hs e e2
  grind
theorem edw_aff (x1 y1 x2 y2 d : α) (h1 : y1*y1 - x1*x1 = 1 + d*(x1*x1)*(y1*y1)) (h2 : y2*y2 - x2*x2 = 1 + d*(x2*x2)*(y2*y2)) :
    let k := d*x1*x2*y1*y2; let A := x1*y2+y1*x2; let B := y1*y2+x1*x2
    (B*(1+k)*(B*(1+k)) - A*(1-k)*(A*(1-k))) * (((1-k)*(1+k))*((1-k)*(1+k))) = ((1-k)*(1+k))*((1-k)*(1+k))*(((1-k)*(1+k))*((1-k)*(1+k))) + d*(A*(1-k)*(A*(1-k)))*(B*(1+k)*(B*(1+k))) := by
  intro k A B
  have c := edw_closed x1 y1 1 x2 y2 1 d (by simpa only [Lean.Grind.Semiring.one_mul, Lean.Grind.Semiring.mul_one] using h1) (by simpa only [Lean.Grind.Semiring.one_mul, Lean.Grind.Semiring.mul_one] using h2)
  have hk : d*((x1*x2)*(y1*y2)) = k := by clear c h1 h2; grind
  simp only [Lean.Grind.Semiring.one_mul, Lean.Grind.Semiring.mul_one, hk] at c
  exact c
theorem on_sum (x1 y1 x2 y2 d u v : α) (h1 : y1*y1 - x1*x1 = 1 + d*(x1*x1)*(y1*y1)) (h2 : y2*y2 - x2*x2 = 1 + d*(x2*x2)*(y2*y2)) (hu : (1 + d*x1*x2*y1*y2) * u = 1) (hv : (1 - d*x1*x2*y1*y2) * v = 1) :
    ((y1*y2+x1*x2)*v)*((y1*y2+x1*x2)*v) - ((x1*y2+y1*x2)*u)*((x1*y2+y1*x2)*u) = 1 + d*(((x1*y2+y1*x2)*u)*((x1*y2+y1*x2)*u))*(((y1*y2+x1*x2)*v)*((y1*y2+x1*x2)*v)) :=
  scale _ _ _ u v d (edw_aff x1 y1 x2 y2 d h1 h2) hu hv
theorem unit_part (A B k u v x3 y3 d w : α) (hu : (1 + k) * u = 1) (hv : (1 - k) * v = 1) (hw : (1 + d*(A*u)*x3*(B*v)*y3) * w = 1) : ((1+k)*(1-k) + d*x3*y3*A*B) * (w * (u * v)) = 1 := by
  have hs : ((1+k)*(1-k)) * (u*v) = 1 := by grind
  have e : (1 + d*(A*u)*x3*(B*v)*y3) * ((1+k)*(1-k)) = (1+k)*(1-k) + d*x3*y3*A*B := by grind
  rw [← e]
  generalize 1 + d*(A*u)*x3*(B*v)*y3 = g at *
  generalize (1+k)*(1-k) = z at *
  generalize u * v = uv at *
  clear hu hv e
  grind
theorem unit_party (A B k u v x3 y3 d w : α) (hu : (1 + k) * u = 1) (hv : (1 - k) * v = 1) (hw : (1 - d*(A*u)*x3*(B*v)*y3) * w = 1) : ((1+k)*(1-k) - d*x3*y3*A*B) * (w * (u * v)) = 1 := by
  have hs : ((1+k)*(1-k)) * (u*v) = 1 := by grind
  have e : (1 - d*(A*u)*x3*(B*v)*y3) * ((1+k)*(1-k)) = (1+k)*(1-k) - d*x3*y3*A*B := by grind
  rw [← e]
  generalize 1 - d*(A*u)*x3*(B*v)*y3 = g at *
  generalize (1+k)*(1-k) = z at *
  generalize u * v = uv at *
  clear hu hv e
  grind
theorem same_of (L R M1 M2 N1 N2 i1 i2 : α) (h1 : L * M1 = N1) (h2 : R * M2 = N2) (h : N1 * M2 = N2 * M1) (e1 : M1 * i1 = 1) (e2 : M2 * i2 = 1) : L = R := by
  have c := cross L R N1 M1 N2 M2 h1 h2 h
  have c2 := congrArg (· * (i1 * i2)) c
  have c3 : (L - R) * (M1 * M2) * (i1 * i2) = (L - R) * ((M1 * i1) * (M2 * i2)) := by grind
  have c4 : (L - R) * (M1 * M2) * (i1 * i2) = 0 * (i1 * i2) := c2
  rw [c3, e1, e2] at c4
  grind
theorem curve_form (x y d : α) (h : y*y - x*x = 1 + d*(x*x)*(y*y)) : d*x*x*y*y = y*y - x*x - 1 := by grind
theorem assoc_x (x1 y1 x2 y2 x3 y3 d u v s t w z : α) (h1 : y1*y1 - x1*x1 = 1 + d*(x1*x1)*(y1*y1)) (h2 : y2*y2 - x2*x2 = 1 + d*(x2*x2)*(y2*y2)) (h3 : y3*y3 - x3*x3 = 1 + d*(x3*x3)*(y3*y3))
    (hu : (1 + d*x1*x2*y1*y2) * u = 1) (hv : (1 - d*x1*x2*y1*y2) * v = 1) (hs : (1 + d*x2*x3*y2*y3) * s = 1) (ht : (1 - d*x2*x3*y2*y3) * t = 1)
    (hw : (1 + d*((x1*y2+y1*x2)*u)*x3*((y1*y2+x1*x2)*v)*y3) * w = 1) (hz : (1 + d*x1*((x2*y3+y2*x3)*s)*y1*((y2*y3+x2*x3)*t)) * z = 1) :
    ((x1*y2+y1*x2)*u*y3 + (y1*y2+x1*x2)*v*x3) * w = (x1*((y2*y3+x2*x3)*t) + y1*((x2*y3+y2*x3)*s)) * z := by
  have a := edw_assoc_x x1 y1 x2 y2 x3 y3 d (curve_form x1 y1 d h1) (curve_form x2 y2 d h2) (curve_form x3 y3 d h3)
  clear h1 h2 h3
  generalize d*x1*x2*y1*y2 = k at *
  generalize d*x2*x3*y2*y3 = l at *
  generalize x1*y2+y1*x2 = A at *
  generalize y1*y2+x1*x2 = B at *
  generalize x2*y3+y2*x3 = C at *
  generalize y2*y3+x2*x3 = D at *
  have hz' : (1 + d*(C*s)*x1*(D*t)*y1) * z = 1 := by
    have : d*(C*s)*x1*(D*t)*y1 = d*x1*(C*s)*y1*(D*t) := by clear hz hw a hu hv hs ht; grind
    rw [this]
    exact hz
  have p1 := sum_part A B k u v x3 y3 d w hu hv hw
  have q1 := unit_part A B k u v x3 y3 d w hu hv hw
  have p2 := sum_part C D l s t x1 y1 d z hs ht hz'
  have q2 := unit_part C D l s t x1 y1 d z hs ht hz'
  have e2 : (C*s*y1 + D*t*x1) * z = (x1*(D*t) + y1*(C*s)) * z := by clear p1 q1 p2 q2 hz' hz hw a hu hv hs ht; grind
  rw [e2] at p2
  refine same_of _ _ _ _ _ _ _ _ p1 p2 ?_ q1 q2
  rw [a]
  have : x1 * (D * (1 + l)) + y1 * (C * (1 - l)) = C * (1 - l) * y1 + D * (1 + l) * x1 := by clear p1 q1 p2 q2 hz' hz hw a hu hv hs ht e2; grind
  rw [this]
theorem assoc_y (x1 y1 x2 y2 x3 y3 d u v s t w z : α) (h1 : y1*y1 - x1*x1 = 1 + d*(x1*x1)*(y1*y1)) (h2 : y2*y2 - x2*x2 = 1 + d*(x2*x2)*(y2*y2)) (h3 : y3*y3 - x3*x3 = 1 + d*(x3*x3)*(y3*y3))
    (hu : (1 + d*x1*x2*y1*y2) * u = 1) (hv : (1 - d*x1*x2*y1*y2) * v = 1) (hs : (1 + d*x2*x3*y2*y3) * s = 1) (ht : (1 - d*x2*x3*y2*y3) * t = 1)
    (hw : (1 - d*((x1*y2+y1*x2)*u)*x3*((y1*y2+x1*x2)*v)*y3) * w = 1) (hz : (1 - d*x1*((x2*y3+y2*x3)*s)*y1*((y2*y3+x2*x3)*t)) * z = 1) :
    ((y1*y2+x1*x2)*v*y3 + (x1*y2+y1*x2)*u*x3) * w = (y1*((y2*y3+x2*x3)*t) + x1*((x2*y3+y2*x3)*s)) * z := by
  have a := edw_assoc_y x1 y1 x2 y2 x3 y3 d (curve_form x1 y1 d h1) (curve_form x2 y2 d h2) (curve_form x3 y3 d h3)
  clear h1 h2 h3
  generalize d*x1*x2*y1*y2 = k at *
  generalize d*x2*x3*y2*y3 = l at *
  generalize x1*y2+y1*x2 = A at *
  generalize y1*y2+x1*x2 = B at *
  generalize x2*y3+y2*x3 = C at *
  generalize y2*y3+x2*x3 = D at *
  have hz' : (1 - d*(C*s)*x1*(D*t)*y1) * z = 1 := by
    have : d*(C*s)*x1*(D*t)*y1 = d*x1*(C*s)*y1*(D*t) := by clear hz hw a hu hv hs ht; grind
    rw [this]
    exact hz
  have p1 := sum_party A B k u v x3 y3 d w hu hv hw
  have q1 := unit_party A B k u v x3 y3 d w hu hv hw
  have p2 := sum_party C D l s t x1 y1 d z hs ht hz'
  have q2 := unit_party C D l s t x1 y1 d z hs ht hz'
  have e2 : (D*t*y1 + C*s*x1) * z = (y1*(D*t) + x1*(C*s)) * z := by clear p1 q1 p2 q2 hz' hz hw a hu hv hs ht; grind
  rw [e2] at p2
  refine same_of _ _ _ _ _ _ _ _ p1 p2 ?_ q1 q2
  rw [a]
  have : y1 * (D * (1 + l)) + x1 * (C * (1 - l)) = D * (1 + l) * y1 + C * (1 - l) * x1 := by clear p1 q1 p2 q2 hz' hz hw a hu hv hs ht e2; grind
  rw [this]
theorem swap5 (d a b c e : α) : d * a * b * c * e = d * b * a * e * c := by grind
theorem swap2 (a b c e : α) : a * b + c * e = e * c + b * a := by grind
theorem swap3 (a b c e : α) : a * b + c * e = b * a + e * c := by grind
end
-- the field
instance pnz : NeZero PN := ⟨Nat.ne_of_gt PN_pos⟩
abbrev Fp := Fin PN
def fz (n : Nat) : Fp := Fin.ofNat PN n
theorem fz_val (n : Nat) : (fz n).val = n % PN := rfl
theorem fz_mod (n : Nat) : fz (n % PN) = fz n := Fin.ext (by rw [fz_val, fz_val, Nat.mod_mod])
theorem fz_add (a b : Nat) : fz (a + b) = fz a + fz b := Fin.ext (by rw [Fin.val_add, fz_val, fz_val, fz_val, ← Nat.add_mod])
theorem fz_mul (a b : Nat) : fz (a * b) = fz a * fz b := Fin.ext (by rw [Fin.val_mul, fz_val, fz_val, fz_val, ← Nat.mul_mod])
theorem fz_zero : fz 0 = 0 := rfl
theorem fz_one : fz 1 = 1 := rfl
theorem fz_P : fz PN = 0 := Fin.ext (by rw [fz_val, Nat.mod_self]; rfl)
theorem fz_of (a : Fp) : fz a.val = a := Fin.ext (by rw [fz_val, Nat.mod_eq_of_lt a.isLt])
theorem fz_inj {a b : Nat} (ha : a < PN) (hb : b < PN) (h : fz a = fz b) : a = b := by
  have e := congrArg Fin.val h
  rwa [fz_val, fz_val, Nat.mod_eq_of_lt ha, Nat.mod_eq_of_lt hb] at e
theorem fz_sub (a b : Nat) (hb : b ≤ PN) : fz (a + PN - b) = fz a - fz b := by
  have h : fz (a + PN - b) + fz b = fz a := by
    rw [← fz_add, show a + PN - b + b = a + PN by omega, fz_add, fz_P]
    grind
  grind
theorem fz_null (a : Nat) : fz a = 0 ↔ a % PN = 0 := by
  constructor
  · intro h
    exact congrArg Fin.val h
  · intro h
    exact Fin.ext h
theorem fp_dom (a b : Fp) (h : a * b = 0) : a = 0 ∨ b = 0 := by
  rw [← fz_of a, ← fz_of b, ← fz_mul, fz_null] at h
  rcases primeP.2 _ _ (Nat.dvd_of_mod_eq_zero h) with h | h
  · exact .inl (by rw [← fz_of a, fz_null]; exact Nat.mod_eq_zero_of_dvd h)
  · exact .inr (by rw [← fz_of b, fz_null]; exact Nat.mod_eq_zero_of_dvd h)
theorem fp_two : (2 : Fp) ≠ 0 := fun h => by
  have h1 : fz 2 = 0 := h
  rw [fz_null] at h1
  revert h1
  decide +kernel
def dN : Nat := 37095705934669439343138083508754565189542113879843219016388785533085940283555
def iN : Nat := 19681161376707505956807079304988542015446066515923890162744021073123829784752
def hN : Nat := 28948022309329048855892746252171976963317496166410141009864396001978282409974
theorem d_is : dN * 121666 % PN = (PN - 121665) % PN ∧ dN < PN := by decide +kernel
theorem iN_sq : iN * iN % PN = PN - 1 := by decide +kernel
theorem h_is : 2 * hN = PN - 1 := by decide +kernel
theorem pow_of (n f e b r : Nat) (he : e < 2 ^ f) (h : pm n f e b 1 % n = r) : b ^ e % n = r := by
  have x := pm_eq n f e b 1 he
  rw [Nat.one_mul] at x
  rw [← x]
  exact h
theorem d_euler : dN ^ hN % PN = PN - 1 := pow_of PN 256 hN dN (PN - 1) (by decide +kernel) (by decide +kernel)
theorem PN_big : PN - 1 ≠ 0 ∧ PN - 1 ≠ 1 := by decide +kernel
abbrev dF : Fp := fz dN
abbrev iF : Fp := fz iN
theorem i_sqF : iF * iF = -1 := by
  have h : fz (iN * iN) = fz (PN - 1) := by rw [← fz_mod, iN_sq]
  have h2 : fz (PN - 1) + 1 = 0 := by
    rw [← fz_one, ← fz_add, Nat.sub_add_cancel (Nat.le_of_lt (Nat.lt_of_lt_of_le (by decide) PN_ge)), fz_P]
  rw [fz_mul] at h
  show iF * iF = -1
  grind
/-- d is no square. -/
theorem d_nsq (s t : Fp) (h : s * s = dF * (t * t)) : t = 0 := by
  have h1 : s.val * s.val % PN = dN * (t.val * t.val) % PN := by
    have e : fz (s.val * s.val) = fz (dN * (t.val * t.val)) := by
      rw [fz_mul, fz_mul, fz_mul, fz_of, fz_of]
      exact h
    exact congrArg Fin.val e
  by_cases ht : t.val % PN = 0
  · rw [← fz_of t, fz_null]
    exact ht
  · exfalso
    have hp : ∀ a : Nat, (a * a) ^ hN = a ^ (PN - 1) := fun a => by rw [← h_is, Nat.pow_mul, Nat.pow_two]
    have h2 : (s.val * s.val) ^ hN % PN = (dN * (t.val * t.val)) ^ hN % PN := by rw [Nat.pow_mod, h1, ← Nat.pow_mod]
    rw [hp, Nat.mul_pow, hp, Nat.mul_mod, d_euler, fermatP t.val ht, Nat.mul_one] at h2
    have h3 : (PN - 1) % PN = PN - 1 := Nat.mod_eq_of_lt (Nat.sub_lt PN_pos (by decide))
    rw [h3] at h2
    rcases pow01 s.val (PN - 1) rfl (by have := PN_ge; omega) with h4 | h4
    · exact PN_big.1 (h2.symm.trans h4)
    · exact PN_big.2 (h2.symm.trans h4)
def inv (a : Fp) : Fp := fz (a.val ^ (PN - 2))
theorem inv_ok (a : Fp) (h : a ≠ 0) : a * inv a = 1 := by
  have ha : a.val % PN ≠ 0 := fun e => h (by rw [← fz_of a, fz_null]; exact e)
  have h1 : fz (a.val * a.val ^ (PN - 2)) = 1 := by
    rw [← Nat.pow_succ', show (PN - 2).succ = PN - 1 by have := PN_ge; omega, ← fz_mod, fermatP a.val ha]
    rfl
  rw [fz_mul, fz_of] at h1
  exact h1
theorem fp_cancel (a b c : Fp) (hc : c ≠ 0) (h : a * c = b * c) : a = b := by
  have h1 : (a - b) * c = 0 := by grind
  rcases fp_dom _ _ h1 with h2 | h2
  · grind
  · exact absurd h2 hc
/-- On the curve. -/
def On (p : Fp × Fp) : Prop := p.2 * p.2 - p.1 * p.1 = 1 + dF * (p.1 * p.1) * (p.2 * p.2)
def kF (p q : Fp × Fp) : Fp := dF * p.1 * q.1 * p.2 * q.2
def addE (p q : Fp × Fp) : Fp × Fp := ((p.1 * q.2 + p.2 * q.1) * inv (1 + kF p q), (p.2 * q.2 + p.1 * q.1) * inv (1 - kF p q))
theorem whole (p q : Fp × Fp) (hp : On p) (hq : On q) : 1 + kF p q ≠ 0 ∧ 1 - kF p q ≠ 0 := by
  have h := edw_whole p.1 p.2 q.1 q.2 dF iF i_sqF fp_two d_nsq hp hq
  constructor
  · intro e
    exact h (by show (1 + kF p q) * (1 - kF p q) = 0; rw [e]; grind)
  · intro e
    exact h (by show (1 + kF p q) * (1 - kF p q) = 0; rw [e]; grind)
/-- The sum's parts, over the divisors' inverses. -/
theorem add_parts (p q : Fp × Fp) (hp : On p) (hq : On q) : ∃ u v, (1 + kF p q) * u = 1 ∧ (1 - kF p q) * v = 1 ∧ addE p q = ((p.1 * q.2 + p.2 * q.1) * u, (p.2 * q.2 + p.1 * q.1) * v) :=
  ⟨_, _, inv_ok _ (whole p q hp hq).1, inv_ok _ (whole p q hp hq).2, rfl⟩
theorem on_add (p q : Fp × Fp) (hp : On p) (hq : On q) : On (addE p q) := by
  obtain ⟨u, v, hu, hv, e⟩ := add_parts p q hp hq
  rw [e]
  exact on_sum p.1 p.2 q.1 q.2 dF u v hp hq hu hv
theorem add_comm' (p q : Fp × Fp) : addE p q = addE q p := by
  have e : kF p q = kF q p := swap5 dF p.1 q.1 p.2 q.2
  unfold addE
  rw [e]
  exact Prod.ext (congrArg (· * _) (swap2 p.1 q.2 p.2 q.1)) (congrArg (· * _) (swap3 p.2 q.2 p.1 q.1))
/-- The order doesn't count. -/
theorem add_assoc' (p q r : Fp × Fp) (hp : On p) (hq : On q) (hr : On r) : addE (addE p q) r = addE p (addE q r) := by
  obtain ⟨u, v, hu, hv, e⟩ := add_parts p q hp hq
  obtain ⟨s, t, hs, ht, e2⟩ := add_parts q r hq hr
  obtain ⟨w1, w2, hw1, hw2, e3⟩ := add_parts (addE p q) r (on_add p q hp hq) hr
  obtain ⟨z1, z2, hz1, hz2, e4⟩ := add_parts p (addE q r) hp (on_add q r hq hr)
  rw [e3, e4]
  rw [e] at hw1 hw2 ⊢
  rw [e2] at hz1 hz2 ⊢
  exact Prod.ext (assoc_x p.1 p.2 q.1 q.2 r.1 r.2 dF u v s t w1 z1 hp hq hr hu hv hs ht hw1 hz1) (assoc_y p.1 p.2 q.1 q.2 r.1 r.2 dF u v s t w2 z2 hp hq hr hu hv hs ht hw2 hz2)
def zeroE : Fp × Fp := (0, 1)
def negE (p : Fp × Fp) : Fp × Fp := (-p.1, p.2)
theorem on_zero : On zeroE := by unfold On zeroE; simp only; grind
theorem on_neg (p : Fp × Fp) (h : On p) : On (negE p) := by unfold On negE at *; simp only; grind
section
variable {α : Type} [Lean.Grind.CommRing α]
theorem zero_parts (x y d u v : α) (hu : (1 + d * x * 0 * y * 1) * u = 1) (hv : (1 - d * x * 0 * y * 1) * v = 1) : (x * 1 + y * 0) * u = x ∧ (y * 1 + x * 0) * v = y := by
  constructor <;> grind
theorem neg_parts (x y d u v : α) (h : y * y - x * x = 1 + d * (x * x) * (y * y)) (hv : (1 - d * x * -x * y * y) * v = 1) : (x * y + y * -x) * u = 0 ∧ (y * y + x * -x) * v = 1 := by
  constructor <;> grind
end
theorem add_zero' (p : Fp × Fp) (hp : On p) : addE p zeroE = p := by
  obtain ⟨u, v, hu, hv, e⟩ := add_parts p zeroE hp on_zero
  rw [e]
  have h := zero_parts p.1 p.2 dF u v hu hv
  exact Prod.ext h.1 h.2
theorem add_neg' (p : Fp × Fp) (hp : On p) : addE p (negE p) = zeroE := by
  obtain ⟨u, v, hu, hv, e⟩ := add_parts p (negE p) hp (on_neg p hp)
  rw [e]
  have h := neg_parts p.1 p.2 dF u v hp hv
  exact Prod.ext h.1 h.2
/-- A point, so many times. -/
def timesE : Nat → Fp × Fp → Fp × Fp
  | 0, _ => zeroE
  | n + 1, p => addE (timesE n p) p
theorem on_times (p : Fp × Fp) (hp : On p) : ∀ n, On (timesE n p)
  | 0 => on_zero
  | n + 1 => on_add _ _ (on_times p hp n) hp
theorem times_add (p : Fp × Fp) (hp : On p) (m : Nat) : ∀ n, timesE (m + n) p = addE (timesE m p) (timesE n p)
  | 0 => (add_zero' _ (on_times p hp m)).symm
  | n + 1 => by
    show addE (timesE (m + n) p) p = addE (timesE m p) (addE (timesE n p) p)
    rw [times_add p hp m n, add_assoc' _ _ _ (on_times p hp m) (on_times p hp n) hp]
theorem times_zero : ∀ n, timesE n zeroE = zeroE
  | 0 => rfl
  | n + 1 => by
    show addE (timesE n zeroE) zeroE = zeroE
    rw [times_zero n, add_zero' _ on_zero]
theorem times_mul (p : Fp × Fp) (hp : On p) (m : Nat) : ∀ n, timesE (n * m) p = timesE n (timesE m p)
  | 0 => by rw [Nat.zero_mul]; rfl
  | n + 1 => by
    rw [Nat.add_mul, Nat.one_mul, times_add p hp, times_mul p hp m n]
    rfl
theorem add_left_cancel' (p q r : Fp × Fp) (hp : On p) (hq : On q) (hr : On r) (h : addE p q = addE p r) : q = r := by
  have e : ∀ t, On t → addE (negE p) (addE p t) = t := fun t ht => by
    rw [← add_assoc' _ _ _ (on_neg p hp) hp ht, add_comm' (negE p) p, add_neg' p hp, add_comm', add_zero' t ht]
  rw [← e q hq, h, e r hr]
/-- A point by numbers with a divisor. -/
def Rep (X Y Z : Fp) (p : Fp × Fp) : Prop := Z ≠ 0 ∧ p.1 * Z = X ∧ p.2 * Z = Y
theorem fp_ne_mul {a b : Fp} (ha : a ≠ 0) (hb : b ≠ 0) : a * b ≠ 0 := fun h => by
  rcases fp_dom _ _ h with h | h
  · exact ha h
  · exact hb h
section
variable {α : Type} [Lean.Grind.CommRing α]
theorem rep_parts (x1 y1 z1 x2 y2 z2 d u v : α) (hu : (1 + d*x1*x2*y1*y2) * u = 1) (hv : (1 - d*x1*x2*y1*y2) * v = 1) :
    let a := z1*z2; let b := a*a; let f := d*((x1*z1*(x2*z2))*(y1*z1*(y2*z2)))
    b - f = b*(1 - d*x1*x2*y1*y2) ∧ b + f = b*(1 + d*x1*x2*y1*y2) ∧
    (x1*y2+y1*x2)*u*((b-f)*(b+f)) = a*((x1*z1)*(y2*z2)+(y1*z1)*(x2*z2))*(b-f) ∧ (y1*y2+x1*x2)*v*((b-f)*(b+f)) = a*((y1*z1)*(y2*z2)+(x1*z1)*(x2*z2))*(b+f) := by
  intro a b f
  have e1 : b - f = b*(1 - d*x1*x2*y1*y2) := by clear hu hv; grind
  have e2 : b + f = b*(1 + d*x1*x2*y1*y2) := by clear hu hv; grind
  refine ⟨e1, e2, ?_, ?_⟩
  · rw [e1, e2]
    generalize d*x1*x2*y1*y2 = k at *
    have e3 : a*((x1*z1)*(y2*z2)+(y1*z1)*(x2*z2)) = (x1*y2+y1*x2)*b := by clear hu hv e1 e2; grind
    rw [e3]
    generalize x1*y2+y1*x2 = A at *
    generalize b = c at *
    clear e1 e2 e3
    grind
  · rw [e1, e2]
    generalize d*x1*x2*y1*y2 = k at *
    have e3 : a*((y1*z1)*(y2*z2)+(x1*z1)*(x2*z2)) = (y1*y2+x1*x2)*b := by clear hu hv e1 e2; grind
    rw [e3]
    generalize y1*y2+x1*x2 = A at *
    generalize b = c at *
    clear e1 e2 e3
    grind
end
/-- The sum by the document's definition, without dividing. -/
theorem rep_add (X1 Y1 Z1 X2 Y2 Z2 : Fp) (p q : Fp × Fp) (hp : On p) (hq : On q) (h1 : Rep X1 Y1 Z1 p) (h2 : Rep X2 Y2 Z2 q) :
    let a := Z1*Z2; let b := a*a; let f := dF*((X1*X2)*(Y1*Y2)); Rep (a*(X1*Y2+Y1*X2)*(b-f)) (a*(Y1*Y2+X1*X2)*(b+f)) ((b-f)*(b+f)) (addE p q) := by
  intro a b f
  obtain ⟨u, v, hu, hv, e⟩ := add_parts p q hp hq
  obtain ⟨n1, rfl, rfl⟩ := h1
  obtain ⟨n2, rfl, rfl⟩ := h2
  obtain ⟨w1, w2⟩ := whole p q hp hq
  obtain ⟨r1, r2, r3, r4⟩ := rep_parts p.1 p.2 Z1 q.1 q.2 Z2 dF u v hu hv
  have hb : b ≠ 0 := fp_ne_mul (fp_ne_mul n1 n2) (fp_ne_mul n1 n2)
  rw [e]
  refine ⟨?_, r3, r4⟩
  have m1 : b - f ≠ 0 := by
    show b - dF*((p.1*Z1*(q.1*Z2))*(p.2*Z1*(q.2*Z2))) ≠ 0
    rw [r1]
    exact fp_ne_mul hb w2
  have m2 : b + f ≠ 0 := by
    show b + dF*((p.1*Z1*(q.1*Z2))*(p.2*Z1*(q.2*Z2))) ≠ 0
    rw [r2]
    exact fp_ne_mul hb w1
  exact fp_ne_mul m1 m2
/-- A point by four numbers. -/
def Ext (X Y Z T : Fp) (p : Fp × Fp) : Prop := Z ≠ 0 ∧ p.1 * Z = X ∧ p.2 * Z = Y ∧ p.1 * p.2 * Z = T
theorem Ext.rep {X Y Z T : Fp} {p : Fp × Fp} (h : Ext X Y Z T p) : Rep X Y Z p := ⟨h.1, h.2.1, h.2.2.1⟩
section
variable {α : Type} [Lean.Grind.CommRing α]
theorem ext_parts (x1 y1 z1 x2 y2 z2 d u v : α) (hu : (1 + d*x1*x2*y1*y2) * u = 1) (hv : (1 - d*x1*x2*y1*y2) * v = 1) :
    let e := (x1*z1+y1*z1)*(x2*z2+y2*z2) - (x1*z1*(x2*z2) + y1*z1*(y2*z2)); let dts := d*(x1*y1*z1)*(x2*y2*z2); let f := z1*z2 - dts; let g := z1*z2 + dts; let h := y1*z1*(y2*z2) + x1*z1*(x2*z2)
    f = z1*z2*(1 - d*x1*x2*y1*y2) ∧ g = z1*z2*(1 + d*x1*x2*y1*y2) ∧ (x1*y2+y1*x2)*u*(f*g) = e*f ∧ (y1*y2+x1*x2)*v*(f*g) = g*h ∧ (x1*y2+y1*x2)*u*((y1*y2+x1*x2)*v)*(f*g) = e*h := by
  intro e dts f g h
  have e1 : f = z1*z2*(1 - d*x1*x2*y1*y2) := by clear hu hv; grind
  have e2 : g = z1*z2*(1 + d*x1*x2*y1*y2) := by clear hu hv; grind
  have e3 : e = z1*z2*(x1*y2+y1*x2) := by clear hu hv e1 e2; grind
  have e4 : h = z1*z2*(y1*y2+x1*x2) := by clear hu hv e1 e2 e3; grind
  refine ⟨e1, e2, ?_, ?_, ?_⟩
  all_goals
    rw [e1, e2]
    first | rw [e3] | skip
    first | rw [e4] | skip
    clear e1 e2 e3 e4
    generalize d*x1*x2*y1*y2 = k at *
    generalize x1*y2+y1*x2 = A at *
    generalize y1*y2+x1*x2 = B at *
    generalize z1*z2 = c at *
    grind
theorem twice_parts (x y z d u v : α) (hp : y*y - x*x = 1 + d*(x*x)*(y*y)) (hu : (1 + d*x*x*y*y) * u = 1) (hv : (1 - d*x*x*y*y) * v = 1) :
    let g := y*z*(y*z) - x*z*(x*z); let f := (z*z + z*z) - g; let e := x*z*(y*z) + x*z*(y*z); let h := y*z*(y*z) + x*z*(x*z)
    f = z*z*(1 - d*x*x*y*y) ∧ g = z*z*(1 + d*x*x*y*y) ∧ (x*y+y*x)*u*(f*g) = e*f ∧ (y*y+x*x)*v*(f*g) = g*h ∧ (x*y+y*x)*u*((y*y+x*x)*v)*(f*g) = e*h := by
  intro g f e h
  have e1 : f = z*z*(1 - d*x*x*y*y) := by clear hu hv; grind
  have e2 : g = z*z*(1 + d*x*x*y*y) := by clear hu hv e1; grind
  have e3 : e = z*z*(x*y+y*x) := by clear hu hv e1 e2 hp; grind
  have e4 : h = z*z*(y*y+x*x) := by clear hu hv e1 e2 e3 hp; grind
  refine ⟨e1, e2, ?_, ?_, ?_⟩
  all_goals
    rw [e1, e2]
    first | rw [e3] | skip
    first | rw [e4] | skip
    clear e1 e2 e3 e4 hp
    generalize d*x*x*y*y = k at *
    generalize x*y+y*x = A at *
    generalize y*y+x*x = B at *
    generalize z*z = c at *
    grind
end
/-- The sum, of four numbers each. -/
theorem ext_add (X Y Z T U V W S : Fp) (p q : Fp × Fp) (hp : On p) (hq : On q) (h1 : Ext X Y Z T p) (h2 : Ext U V W S q) :
    let e := (X+Y)*(U+V) - (X*U + Y*V); let f := Z*W - dF*T*S; let g := Z*W + dF*T*S; let h := Y*V + X*U; Ext (e*f) (g*h) (f*g) (e*h) (addE p q) := by
  intro e f g h
  obtain ⟨u, v, hu, hv, ep⟩ := add_parts p q hp hq
  obtain ⟨n1, rfl, rfl, rfl⟩ := h1
  obtain ⟨n2, rfl, rfl, rfl⟩ := h2
  obtain ⟨w1, w2⟩ := whole p q hp hq
  obtain ⟨r1, r2, r3, r4, r5⟩ := ext_parts p.1 p.2 Z q.1 q.2 W dF u v hu hv
  rw [ep]
  refine ⟨?_, r3, r4, r5⟩
  have m1 : f ≠ 0 := by
    show Z*W - dF*(p.1*p.2*Z)*(q.1*q.2*W) ≠ 0
    rw [r1]
    exact fp_ne_mul (fp_ne_mul n1 n2) w2
  have m2 : g ≠ 0 := by
    show Z*W + dF*(p.1*p.2*Z)*(q.1*q.2*W) ≠ 0
    rw [r2]
    exact fp_ne_mul (fp_ne_mul n1 n2) w1
  exact fp_ne_mul m1 m2
/-- Twice a point. -/
theorem ext_twice (X Y Z T : Fp) (p : Fp × Fp) (hp : On p) (h1 : Ext X Y Z T p) :
    let g := Y*Y - X*X; let f := (Z*Z + Z*Z) - g; let e := X*Y + X*Y; let h := Y*Y + X*X; Ext (e*f) (g*h) (f*g) (e*h) (addE p p) := by
  intro g f e h
  obtain ⟨u, v, hu, hv, ep⟩ := add_parts p p hp hp
  obtain ⟨n1, rfl, rfl, rfl⟩ := h1
  obtain ⟨w1, w2⟩ := whole p p hp hp
  obtain ⟨r1, r2, r3, r4, r5⟩ := twice_parts p.1 p.2 Z dF u v hp hu hv
  rw [ep]
  refine ⟨?_, r3, r4, r5⟩
  have m2 : g ≠ 0 := by
    show p.2*Z*(p.2*Z) - p.1*Z*(p.1*Z) ≠ 0
    rw [r2]
    exact fp_ne_mul (fp_ne_mul n1 n1) w1
  have m1 : f ≠ 0 := by
    show (Z*Z + Z*Z) - (p.2*Z*(p.2*Z) - p.1*Z*(p.1*Z)) ≠ 0
    rw [r1]
    exact fp_ne_mul (fp_ne_mul n1 n1) w2
  exact fp_ne_mul m1 m2
theorem ext_neg (X Y Z T : Fp) (p : Fp × Fp) (h : Ext X Y Z T p) : Ext (-X) Y Z (-T) (negE p) := by
  obtain ⟨n, rfl, rfl, rfl⟩ := h
  refine ⟨n, ?_, rfl, ?_⟩
  · exact Lean.Grind.Ring.neg_mul _ _
  · show -p.1 * p.2 * Z = -(p.1 * p.2 * Z)
    rw [Lean.Grind.Ring.neg_mul, Lean.Grind.Ring.neg_mul]
/-- Which are the same. -/
theorem ext_same (X Y Z T U V W S : Fp) (p q : Fp × Fp) (h1 : Ext X Y Z T p) (h2 : Ext U V W S q) : (X * W = U * Z ∧ Y * W = V * Z) ↔ p = q := by
  obtain ⟨n1, rfl, rfl, rfl⟩ := h1
  obtain ⟨n2, rfl, rfl, rfl⟩ := h2
  have hn := fp_ne_mul n1 n2
  constructor
  · rintro ⟨a, b⟩
    refine Prod.ext (fp_cancel _ _ (Z * W) hn ?_) (fp_cancel _ _ (Z * W) hn ?_)
    · rw [← Lean.Grind.Semiring.mul_assoc, a, Lean.Grind.CommSemiring.mul_comm Z W, ← Lean.Grind.Semiring.mul_assoc]
    · rw [← Lean.Grind.Semiring.mul_assoc, b, Lean.Grind.CommSemiring.mul_comm Z W, ← Lean.Grind.Semiring.mul_assoc]
  · rintro rfl
    constructor
    · rw [Lean.Grind.Semiring.mul_assoc, Lean.Grind.CommSemiring.mul_comm Z W, ← Lean.Grind.Semiring.mul_assoc]
    · rw [Lean.Grind.Semiring.mul_assoc, Lean.Grind.CommSemiring.mul_comm Z W, ← Lean.Grind.Semiring.mul_assoc]
/-- The point itself, by the divisor's inverse. -/
theorem rep_xy (X Y Z : Fp) (p : Fp × Fp) (h : Rep X Y Z p) : X * inv Z = p.1 ∧ Y * inv Z = p.2 := by
  obtain ⟨n, rfl, rfl⟩ := h
  have i := inv_ok Z n
  constructor
  · rw [Lean.Grind.Semiring.mul_assoc, i, Lean.Grind.Semiring.mul_one]
  · rw [Lean.Grind.Semiring.mul_assoc, i, Lean.Grind.Semiring.mul_one]
end Go.Proofs.Ythdbadomppohbaa
