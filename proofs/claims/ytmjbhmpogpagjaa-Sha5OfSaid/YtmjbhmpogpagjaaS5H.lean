/- mix, of words of 32 bits as plain numbers, of blocks that a caller has made (layer 15 in layer 17); sha2.first. -/
import Derived.Test.YtmjbhmpogpagjaaS5C
import Derived.Test.YtmjbhmpogpagjaaInw
namespace Go.Proofs.Ytmjbhmpogpagjaa
set_option maxRecDepth 20000
set_option linter.unusedSimpArgs false
set_option linter.unusedVariables false
open Go.RowKit
theorem rotI_nat (x r : Nat) (hr : r < 64) : rotI 64 (x : Int) (r : Int) = (rotN 64 x r : Int) := by
  unfold rotI
  rw [Int.toNat_natCast, show ((r : Int) % 64).toNat = r by omega]
  rfl
theorem b_drewN {w w' : World} (h : ∃ nq, w.drewN nq = w') : Below w.heap.size w w' := by
  obtain ⟨nq, rfl⟩ := h
  exact ⟨rfl, rfl, rfl, Nat.le_refl _, fun _ _ => rfl⟩
theorem cell_blk {W : World} {b i : Nat} {vs : List Value} {t : TypeId} (h : W.heap[b]? = some (.cells vs.toArray t (0, 0))) : W.cell? ⟨b, i, none⟩ = vs[i]? := by
  simp [World.cell?, h]
theorem turns_two (x n1 n2 : Nat) (hx : x < M64) (h1 : n1 < 64) (h2 : n2 < 64) (b : Nat) (W : World) (h : W.heap[b]? = some (.cells #[.int .i64 (n1 : Int), .int .i64 (n2 : Int)] 3 (0, 0))) :
    Calls Try.prog 38 #[.int .u64 (x : Int), .slice (some ⟨b, 0, none⟩) 2 2] W fun e w' => e = .returned (.int .u64 ((rotN 64 x n1 ^^^ rotN 64 x n2 : Nat) : Int)) ∧ Below W.heap.size W w' := by
  have hb : ∀ i, W.cell? ⟨b, i, none⟩ = [Value.int .i64 (n1 : Int), .int .i64 (n2 : Int)][i]? := fun i => cell_blk h
  refine (turns64 (x : Int) b 0 2 2 [(n1 : Int), (n2 : Int)] W (by omega) (by unfold M64 at hx; omega) (by omega) (by decide) rfl (fun i hi => ?_) (by omega)).mono fun e w' he => ⟨?_, b_drewN he.2⟩
  · have hi2 : i = 0 ∨ i = 1 := by simp at hi; omega
    rcases hi2 with rfl | rfl
    · exact hb 0
    · exact hb 1
  · rw [he.1]
    have e0 : turnsL64 (x : Int) (List.take 2 [(n1 : Int), (n2 : Int)]) = bits .xor .u64 (bits .xor .u64 0 (rotI 64 x n1)) (rotI 64 x n2) := rfl
    rw [e0, rotI_nat x n1 h1, rotI_nat x n2 h2, show (0 : Int) = ((0 : Nat) : Int) from rfl, xor_u64 0 _ (by decide) (rot_lt x n1 hx), Nat.zero_xor, xor_u64 _ _ (rot_lt x n1 hx) (rot_lt x n2 hx)]
theorem turns_three (x n1 n2 n3 : Nat) (hx : x < M64) (h1 : n1 < 64) (h2 : n2 < 64) (h3 : n3 < 64) (b : Nat) (W : World) (h : W.heap[b]? = some (.cells #[.int .i64 (n1 : Int), .int .i64 (n2 : Int), .int .i64 (n3 : Int)] 3 (0, 0))) :
    Calls Try.prog 38 #[.int .u64 (x : Int), .slice (some ⟨b, 0, none⟩) 3 3] W fun e w' => e = .returned (.int .u64 ((rotN 64 x n1 ^^^ rotN 64 x n2 ^^^ rotN 64 x n3 : Nat) : Int)) ∧ Below W.heap.size W w' := by
  have hb : ∀ i, W.cell? ⟨b, i, none⟩ = [Value.int .i64 (n1 : Int), .int .i64 (n2 : Int), .int .i64 (n3 : Int)][i]? := fun i => cell_blk h
  refine (turns64 (x : Int) b 0 3 3 [(n1 : Int), (n2 : Int), (n3 : Int)] W (by omega) (by unfold M64 at hx; omega) (by omega) (by decide) rfl (fun i hi => ?_) (by omega)).mono fun e w' he => ⟨?_, b_drewN he.2⟩
  · have hi2 : i = 0 ∨ i = 1 ∨ i = 2 := by simp at hi; omega
    rcases hi2 with rfl | rfl | rfl
    · exact hb 0
    · exact hb 1
    · exact hb 2
  · rw [he.1]
    have e0 : turnsL64 (x : Int) (List.take 3 [(n1 : Int), (n2 : Int), (n3 : Int)]) = bits .xor .u64 (bits .xor .u64 (bits .xor .u64 0 (rotI 64 x n1)) (rotI 64 x n2)) (rotI 64 x n3) := rfl
    rw [e0, rotI_nat x n1 h1, rotI_nat x n2 h2, rotI_nat x n3 h3, show (0 : Int) = ((0 : Nat) : Int) from rfl, xor_u64 0 _ (by decide) (rot_lt x n1 hx), Nat.zero_xor, xor_u64 _ _ (rot_lt x n1 hx) (rot_lt x n2 hx), xor_u64 _ _ (xor_lt (rot_lt x n1 hx) (rot_lt x n2 hx)) (rot_lt x n3 hx)]
theorem choose_at (x y z : Nat) (hx : x < M64) (hy : y < M64) (hz : z < M64) (w : World) :
    Calls Try.prog 39 #[.int .u64 (x : Int), .int .u64 (y : Int), .int .u64 (z : Int)] w fun e w' => e = .returned (.int .u64 (chooseN64 x y z : Int)) ∧ Below w.heap.size w w' := by
  refine (choose64_any (x : Int) (y : Int) (z : Int) w).mono ?_
  rintro e w' ⟨rfl, rfl⟩
  exact ⟨by rw [choose64_nat x y z hx hy hz], Below.refl _ _⟩
theorem most_at (x y z : Nat) (hx : x < M64) (hy : y < M64) (hz : z < M64) (w : World) :
    Calls Try.prog 40 #[.int .u64 (x : Int), .int .u64 (y : Int), .int .u64 (z : Int)] w fun e w' => e = .returned (.int .u64 (mostN64 x y z : Int)) ∧ Below w.heap.size w w' := by
  refine (most64_any (x : Int) (y : Int) (z : Int) w).mono ?_
  rintro e w' ⟨rfl, rfl⟩
  exact ⟨by rw [most64_nat x y z hx hy hz], Below.refl _ _⟩
set_option maxHeartbeats 1000000 in
theorem sum_two (a0 a1 : Nat) (h0 : a0 < M64) (b : Nat) (W : World) (h : W.heap[b]? = some (.cells #[.int .u64 (a0 : Int), .int .u64 (a1 : Int)] 36 (0, 0))) :
    Calls Try.prog 37 #[.slice (some ⟨b, 0, none⟩) 2 2] W fun e w' => e = .returned (.int .u64 (((a0 + a1) % M64 : Nat) : Int)) ∧ Below W.heap.size W w' := by
  have hb : ∀ i, W.cell? ⟨b, i, none⟩ = [Value.int .u64 (a0 : Int), .int .u64 (a1 : Int)][i]? := fun i => cell_blk h
  have c0 : W.cell? ⟨b, 0, none⟩ = some (.int .u64 (a0 : Int)) := hb 0
  have c1 : W.cell? ⟨b, 1, none⟩ = some (.int .u64 (a1 : Int)) := hb 1
  have e0 : IntKind.u64.wrap (a0 : Int) = (a0 : Int) := by rw [wrap_nat, Nat.mod_eq_of_lt h0]
  have e1 : IntKind.u64.wrap ((a0 : Int) + (a1 : Int)) = (((a0 + a1) % M64 : Nat) : Int) := by rw [← wrap_nat]; push_cast; rfl
  clear hb h e1
  go_enter Try.func37, Try.ntmps37
  go_wp2_with fail
  refine wp_loop_rounds 3 ?_
  rw [rounds_succ]; go_wp2
  rw [rounds_succ]; go_wp2
  rw [rounds_succ]; go_wp2
  go_ret
  exact ⟨ret_int (by simp only [IntKind.wrap_u64]; unfold M64; omega), Below.refl _ _⟩
set_option maxHeartbeats 1000000 in
theorem sum_four (a0 a1 a2 a3 : Nat) (h0 : a0 < M64) (b : Nat) (W : World) (h : W.heap[b]? = some (.cells #[.int .u64 (a0 : Int), .int .u64 (a1 : Int), .int .u64 (a2 : Int), .int .u64 (a3 : Int)] 36 (0, 0))) :
    Calls Try.prog 37 #[.slice (some ⟨b, 0, none⟩) 4 4] W fun e w' => e = .returned (.int .u64 (((a0 + a1 + a2 + a3) % M64 : Nat) : Int)) ∧ Below W.heap.size W w' := by
  have hb : ∀ i, W.cell? ⟨b, i, none⟩ = [Value.int .u64 (a0 : Int), .int .u64 (a1 : Int), .int .u64 (a2 : Int), .int .u64 (a3 : Int)][i]? := fun i => cell_blk h
  have c0 : W.cell? ⟨b, 0, none⟩ = some (.int .u64 (a0 : Int)) := hb 0
  have c1 : W.cell? ⟨b, 1, none⟩ = some (.int .u64 (a1 : Int)) := hb 1
  have c2 : W.cell? ⟨b, 2, none⟩ = some (.int .u64 (a2 : Int)) := hb 2
  have c3 : W.cell? ⟨b, 3, none⟩ = some (.int .u64 (a3 : Int)) := hb 3
  have e0 : IntKind.u64.wrap (a0 : Int) = (a0 : Int) := by rw [wrap_nat, Nat.mod_eq_of_lt h0]
  have e1 : IntKind.u64.wrap (IntKind.u64.wrap (IntKind.u64.wrap ((a0 : Int) + (a1 : Int)) + (a2 : Int)) + (a3 : Int)) = (((a0 + a1 + a2 + a3) % M64 : Nat) : Int) := by
    rw [IntKind.wrap_u64, IntKind.wrap_u64, IntKind.wrap_u64]
    unfold M64
    omega
  clear hb h e1
  go_enter Try.func37, Try.ntmps37
  go_wp2_with fail
  refine wp_loop_rounds 5 ?_
  rw [rounds_succ]; go_wp2
  rw [rounds_succ]; go_wp2
  rw [rounds_succ]; go_wp2
  rw [rounds_succ]; go_wp2
  rw [rounds_succ]; go_wp2
  go_ret
  exact ⟨ret_int (by simp only [IntKind.wrap_u64]; unfold M64; omega), Below.refl _ _⟩
set_option maxHeartbeats 1000000 in
theorem sum_five (a0 a1 a2 a3 a4 : Nat) (h0 : a0 < M64) (b : Nat) (W : World) (h : W.heap[b]? = some (.cells #[.int .u64 (a0 : Int), .int .u64 (a1 : Int), .int .u64 (a2 : Int), .int .u64 (a3 : Int), .int .u64 (a4 : Int)] 36 (0, 0))) :
    Calls Try.prog 37 #[.slice (some ⟨b, 0, none⟩) 5 5] W fun e w' => e = .returned (.int .u64 (((a0 + a1 + a2 + a3 + a4) % M64 : Nat) : Int)) ∧ Below W.heap.size W w' := by
  have hb : ∀ i, W.cell? ⟨b, i, none⟩ = [Value.int .u64 (a0 : Int), .int .u64 (a1 : Int), .int .u64 (a2 : Int), .int .u64 (a3 : Int), .int .u64 (a4 : Int)][i]? := fun i => cell_blk h
  have c0 : W.cell? ⟨b, 0, none⟩ = some (.int .u64 (a0 : Int)) := hb 0
  have c1 : W.cell? ⟨b, 1, none⟩ = some (.int .u64 (a1 : Int)) := hb 1
  have c2 : W.cell? ⟨b, 2, none⟩ = some (.int .u64 (a2 : Int)) := hb 2
  have c3 : W.cell? ⟨b, 3, none⟩ = some (.int .u64 (a3 : Int)) := hb 3
  have c4 : W.cell? ⟨b, 4, none⟩ = some (.int .u64 (a4 : Int)) := hb 4
  have e0 : IntKind.u64.wrap (a0 : Int) = (a0 : Int) := by rw [wrap_nat, Nat.mod_eq_of_lt h0]
  have e1 : IntKind.u64.wrap (IntKind.u64.wrap (IntKind.u64.wrap (IntKind.u64.wrap ((a0 : Int) + (a1 : Int)) + (a2 : Int)) + (a3 : Int)) + (a4 : Int)) = (((a0 + a1 + a2 + a3 + a4) % M64 : Nat) : Int) := by
    rw [IntKind.wrap_u64, IntKind.wrap_u64, IntKind.wrap_u64, IntKind.wrap_u64]
    unfold M64
    omega
  clear hb h e1
  go_enter Try.func37, Try.ntmps37
  go_wp2_with fail
  refine wp_loop_rounds 6 ?_
  rw [rounds_succ]; go_wp2
  rw [rounds_succ]; go_wp2
  rw [rounds_succ]; go_wp2
  rw [rounds_succ]; go_wp2
  rw [rounds_succ]; go_wp2
  rw [rounds_succ]; go_wp2
  go_ret
  exact ⟨ret_int (by simp only [IntKind.wrap_u64]; unfold M64; omega), Below.refl _ _⟩
end Go.Proofs.Ytmjbhmpogpagjaa
