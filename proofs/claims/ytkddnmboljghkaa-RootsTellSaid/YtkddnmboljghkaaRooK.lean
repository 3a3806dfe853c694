/- The law RootsTell: it returns true. -/
import Derived.Test.YtkddnmboljghkaaRooGl
import Derived.Test.YtkddnmboljghkaaRooJ
namespace Go.Proofs.Ytkddnmboljghkaa
open Go.RowKit
theorem root_out (n k : Int) (w : World) (h : n < 1 ∨ 65535 < n) :
    Calls Try.prog 28 #[.int .i64 n, .int .i64 k] w fun e w' => e = .returned (.int .u64 0) ∧ w = w' := by
  by_cases h1 : n < 1
  · go_enter Try.func28, Try.ntmps28
    go_wp2_with fail
    go_ret
    exact ⟨rfl, rfl⟩
  · have h2 : 65535 < n := by omega
    go_enter Try.func28, Try.ntmps28
    go_wp2_with fail
    go_ret
    exact ⟨rfl, rfl⟩
theorem uniq2 {n x c : Nat} (ht : top (fun y => y * y ≤ n * B64 ^ 2) x) (h1 : c < T72) (h2 : c ^ 2 ≤ n * 65536 ^ (4 * 2)) (h3 : n * 65536 ^ (4 * 2) < (c + 1) ^ 2) : c = x := by
  have e : 65536 ^ (4 * 2) = B64 ^ 2 := by decide
  rw [e, Nat.pow_two c] at h2
  rw [e, Nat.pow_two (c + 1)] at h3
  exact (top_one ht (sq_mono _) h2 (Nat.not_le.2 h3) h1).symm
theorem uniq3 {n x c : Nat} (ht : top (fun y => y * y * y ≤ n * B64 ^ 3) x) (h1 : c < T72) (h2 : c ^ 3 ≤ n * 65536 ^ (4 * 3)) (h3 : n * 65536 ^ (4 * 3) < (c + 1) ^ 3) : c = x := by
  have e : 65536 ^ (4 * 3) = B64 ^ 3 := by decide
  have p3 : ∀ y : Nat, y ^ 3 = y * y * y := fun y => by rw [Nat.pow_succ, Nat.pow_two]
  rw [e, p3 c] at h2
  rw [e, p3 (c + 1)] at h3
  exact (top_one ht (cu_mono _) h2 (Nat.not_le.2 h3) h1).symm
theorem tell_out (n : Int) (w : World) (h : n < 1 ∨ 65535 < n) :
    Calls Try.prog 6 #[.int .i64 n] w fun e w' => e = .returned (.bool true) ∧ Below w.heap.size w w' := by
  go_enter Try.func6, Try.ntmps6
  go_wp2_with (first
    | (go_at_call 27; refine (square_out n _ h).mono ?_; rintro e w' ⟨rfl, rfl⟩)
    | (go_at_call 29; refine (cube_out n _ h).mono ?_; rintro e w' ⟨rfl, rfl⟩)
    | (go_at_call 28; refine (root_out n _ _ h).mono ?_; rintro e w' ⟨rfl, rfl⟩)
    | (go_at_call 30; refine (lives_any _).mono ?_; rintro e w' ⟨rfl, hb⟩))
  go_ret
  exact ⟨rfl, by assumption⟩
theorem tell_in (n : Nat) (w : World) (h1 : 1 ≤ n) (h2 : n < 65536) :
    Calls Try.prog 6 #[.int .i64 (n : Int)] w fun e w' => e = .returned (.bool true) ∧ Below w.heap.size w w' := by
  go_enter Try.func6, Try.ntmps6
  go_wp2_with fail
  refine (square_in n _ h1 h2).mono ?_
  rintro e w1 ⟨x, hx, rfl, hb1⟩
  have R2 : Calls Try.prog 28 #[.int .i64 (n : Int), .int .i64 2] w1 fun e w' => e = .returned (.int .u64 (wd x 0 : Int)) ∧ Below w1.heap.size w1 w' :=
    (root_any n 2 w1 h1 h2 (.inl rfl)).mono fun e w' ⟨c, c1, c2, c3, he, hb⟩ => by
      have hc := uniq2 hx c1 c2 c3
      subst hc
      exact ⟨he, hb⟩
  generalize (wd x 0 : Int) = v at *
  clear hx
  go_wp2_with fail
  refine R2.mono ?_
  rintro e w2 ⟨rfl, hb2⟩
  clear R2
  go_wp2_with fail
  refine (cube_in n _ h1 h2).mono ?_
  rintro e w3 ⟨x, hx, rfl, hb3⟩
  have R3 : Calls Try.prog 28 #[.int .i64 (n : Int), .int .i64 3] w3 fun e w' => e = .returned (.int .u64 (wd x 0 : Int)) ∧ Below w3.heap.size w3 w' :=
    (root_any n 3 w3 h1 h2 (.inr rfl)).mono fun e w' ⟨c, c1, c2, c3, he, hb⟩ => by
      have hc := uniq3 hx c1 c2 c3
      subst hc
      exact ⟨he, hb⟩
  generalize (wd x 0 : Int) = v3 at *
  clear hx
  go_wp2_with fail
  refine R3.mono ?_
  rintro e w4 ⟨rfl, hb4⟩
  clear R3
  go_wp2_with (go_at_call 30; refine (lives_any _).mono ?_; rintro e w' ⟨rfl, hb⟩)
  go_ret
  refine ⟨rfl, ?_⟩
  repeat (first | exact Below.refl _ _ | refine gr_step ?_ (by assumption))
theorem rootsTell_walk (n : Int) (w : World) (_ : (Lit.int .i64 n).wf = true) :
    Calls Try.prog 6 #[.int .i64 n] w fun e w' => e = .returned (.bool true) ∧ Below w.heap.size w w' := by
  by_cases h : n < 1 ∨ 65535 < n
  · exact tell_out n w h
  · obtain ⟨m, rfl⟩ := Int.eq_ofNat_of_zero_le (show 0 ≤ n by omega)
    exact tell_in m w (by omega) (by omega)
end Go.Proofs.Ytkddnmboljghkaa
