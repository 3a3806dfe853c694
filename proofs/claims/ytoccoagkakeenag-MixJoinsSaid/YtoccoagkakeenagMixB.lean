/- Several turns together, and the law MixTurns: it returns true. -/
import Derived.Test.YtoccoagkakeenagMixA
namespace Go.Proofs.Ytoccoagkakeenag
open Go.RowKit
/-- Several turns of a word of 64 bits together. -/
def turnsL64 (x : Int) (l : List Int) : Int := l.foldl (fun a n => bits .xor .u64 a (rotI 64 x n)) 0
theorem turnsL64_succ (x : Int) (zs : List Int) (k : Nat) (hk : k < zs.length) : turnsL64 x (zs.take (k + 1)) = bits .xor .u64 (turnsL64 x (zs.take k)) (rotI 64 x (zs.getD k 0)) := by
  unfold turnsL64
  rw [List.take_succ_eq_append_getElem hk, List.foldl_append, getD_at zs k hk]; rfl
theorem turns64 (x : Int) (b off len cap : Nat) (zs : List Int) (w : World) (x0 : 0 ≤ x) (x1 : x < 18446744073709551616) (hl : len ≤ cap) (hm : cap ≤ maxLen) (hz : zs.length = cap)
    (hcell : ∀ i, i < zs.length → w.cell? ⟨b, off + i, none⟩ = some (.int .i64 (zs.getD i 0))) (h0 : 0 < len) :
    Calls Try.prog 11 #[.int .u64 x, .slice (some ⟨b, off, none⟩) len cap] w fun e w' => e = .returned (.int .u64 (turnsL64 x (zs.take len))) ∧ ∃ nq, w.drewN nq = w' := by
  unfold maxLen at hm
  have HZ := Lib.hid hz
  have HC := Lib.hid hcell
  have hc0 := hcell 0 (by omega)
  clear hz hcell
  go_enter Try.func11, Try.ntmps11
  go_wp2_with fail
  go_loopw [5, 10] (fun out i wr => ∃ k : Nat, k ≤ len ∧ i = .int .i64 k ∧ out = .int .u64 (turnsL64 x (zs.take k)) ∧ ∃ nq, w.drewN nq = wr) (fun _ i _ => len - (intOf i).toNat)
  case atStart => exact ⟨0, by omega, rfl, rfl, 0, rfl⟩
  case round =>
    obtain ⟨k, hk, rfl, rfl, nq, rfl⟩ := hrel
    by_cases hlt : k < len
    · have hck := HC.out k (by have := HZ.out; omega)
      obtain ⟨v, hv⟩ : ∃ v, v = zs.getD k 0 := ⟨_, rfl⟩
      have HS := Lib.hid (turnsL64_succ x zs k (by have := HZ.out; omega))
      rw [← hv] at hck
      have Hv := Lib.hid hv
      generalize turnsL64 x (zs.take k) = t at *
      clear hv hc0
      go_wp2_with (go_at_call 9; refine (right64 _ _ _ x0 x1).mono ?_; rintro e w' ⟨rfl, n2, rfl⟩)
      go_roundw
      case rel => exact ⟨k + 1, by omega, by go_num, congrArg (Value.int .u64) (by rw [HS.out, ← Hv.out]), nq + n2, by simp [World.drewN]⟩
      case measure => simp [intOf]; omega
    · obtain rfl : k = len := by omega
      go_wp2
      go_ret
      exact ⟨rfl, _, rfl⟩
/-- Several turns of a word of 32 bits together. -/
def turnsL32 (x : Int) (l : List Int) : Int := l.foldl (fun a n => bits .xor .u32 a (rotI 32 x n)) 0
theorem turnsL32_succ (x : Int) (zs : List Int) (k : Nat) (hk : k < zs.length) : turnsL32 x (zs.take (k + 1)) = bits .xor .u32 (turnsL32 x (zs.take k)) (rotI 32 x (zs.getD k 0)) := by
  unfold turnsL32
  rw [List.take_succ_eq_append_getElem hk, List.foldl_append, getD_at zs k hk]; rfl
theorem turns32 (x : Int) (b off len cap : Nat) (zs : List Int) (w : World) (x0 : 0 ≤ x) (x1 : x < 4294967296) (hl : len ≤ cap) (hm : cap ≤ maxLen) (hz : zs.length = cap)
    (hcell : ∀ i, i < zs.length → w.cell? ⟨b, off + i, none⟩ = some (.int .i64 (zs.getD i 0))) (h0 : 0 < len) :
    Calls Try.prog 10 #[.int .u32 x, .slice (some ⟨b, off, none⟩) len cap] w fun e w' => e = .returned (.int .u32 (turnsL32 x (zs.take len))) ∧ ∃ nq, w.drewN nq = w' := by
  unfold maxLen at hm
  have HZ := Lib.hid hz
  have HC := Lib.hid hcell
  have hc0 := hcell 0 (by omega)
  clear hz hcell
  go_enter Try.func10, Try.ntmps10
  go_wp2_with fail
  go_loopw [5, 10] (fun out i wr => ∃ k : Nat, k ≤ len ∧ i = .int .i64 k ∧ out = .int .u32 (turnsL32 x (zs.take k)) ∧ ∃ nq, w.drewN nq = wr) (fun _ i _ => len - (intOf i).toNat)
  case atStart => exact ⟨0, by omega, rfl, rfl, 0, rfl⟩
  case round =>
    obtain ⟨k, hk, rfl, rfl, nq, rfl⟩ := hrel
    by_cases hlt : k < len
    · have hck := HC.out k (by have := HZ.out; omega)
      obtain ⟨v, hv⟩ : ∃ v, v = zs.getD k 0 := ⟨_, rfl⟩
      have HS := Lib.hid (turnsL32_succ x zs k (by have := HZ.out; omega))
      rw [← hv] at hck
      have Hv := Lib.hid hv
      generalize turnsL32 x (zs.take k) = t at *
      clear hv hc0
      go_wp2_with (go_at_call 8; refine (right32 _ _ _ x0 x1).mono ?_; rintro e w' ⟨rfl, n2, rfl⟩)
      go_roundw
      case rel => exact ⟨k + 1, by omega, by go_num, congrArg (Value.int .u32) (by rw [HS.out, ← Hv.out]), nq + n2, by simp [World.drewN]⟩
      case measure => simp [intOf]; omega
    · obtain rfl : k = len := by omega
      go_wp2
      go_ret
      exact ⟨rfl, _, rfl⟩
theorem turns32_zero (x : Int) (a : Option Addr) (cap : Nat) (w : World) :
    Calls Try.prog 10 #[.int .u32 x, .slice a 0 cap] w fun e w' => e = .returned (.int .u32 0) ∧ w = w' := by
  go_enter Try.func10, Try.ntmps10
  go_wp2_with fail
  refine wp_loop_rounds 1 ?_
  rw [rounds_succ]
  go_wp2
  go_ret
  exact ⟨rfl, rfl⟩
theorem turns64_zero (x : Int) (a : Option Addr) (cap : Nat) (w : World) :
    Calls Try.prog 11 #[.int .u64 x, .slice a 0 cap] w fun e w' => e = .returned (.int .u64 0) ∧ w = w' := by
  go_enter Try.func11, Try.ntmps11
  go_wp2_with fail
  refine wp_loop_rounds 1 ?_
  rw [rounds_succ]
  go_wp2
  go_ret
  exact ⟨rfl, rfl⟩
theorem rot_a : rotI 32 1 1 = 2147483648 := by decide +kernel
/-- What is chosen, and what most have, of words of 32 bits. -/
def choose32 (x y z : Int) : Int := bits .or .u32 (bits .and .u32 x y) (bits .and .u32 (bits .xor .u32 IntKind.u32.max x) z)
def most32 (x y z : Int) : Int := bits .or .u32 (bits .or .u32 (bits .and .u32 x y) (bits .and .u32 x z)) (bits .and .u32 y z)
theorem choose32_any (x y z : Int) (w : World) :
    Calls Try.prog 15 #[.int .u32 x, .int .u32 y, .int .u32 z] w fun e w' => e = .returned (.int .u32 (choose32 x y z)) ∧ w = w' := by
  have hs := s32
  go_enter Try.func15, Try.ntmps15
  go_wp2
  go_ret
  exact ⟨rfl, rfl⟩
theorem most32_any (x y z : Int) (w : World) :
    Calls Try.prog 16 #[.int .u32 x, .int .u32 y, .int .u32 z] w fun e w' => e = .returned (.int .u32 (most32 x y z)) ∧ w = w' := by
  go_enter Try.func16, Try.ntmps16
  go_wp2
  go_ret
  exact ⟨rfl, rfl⟩
/-- What is chosen, and what most have, of words of 64 bits. -/
def choose64 (x y z : Int) : Int := bits .or .u64 (bits .and .u64 x y) (bits .and .u64 (bits .xor .u64 IntKind.u64.max x) z)
def most64 (x y z : Int) : Int := bits .or .u64 (bits .or .u64 (bits .and .u64 x y) (bits .and .u64 x z)) (bits .and .u64 y z)
theorem choose64_any (x y z : Int) (w : World) :
    Calls Try.prog 13 #[.int .u64 x, .int .u64 y, .int .u64 z] w fun e w' => e = .returned (.int .u64 (choose64 x y z)) ∧ w = w' := by
  have hs := s64
  go_enter Try.func13, Try.ntmps13
  go_wp2
  go_ret
  exact ⟨rfl, rfl⟩
theorem most64_any (x y z : Int) (w : World) :
    Calls Try.prog 14 #[.int .u64 x, .int .u64 y, .int .u64 z] w fun e w' => e = .returned (.int .u64 (most64 x y z)) ∧ w = w' := by
  go_enter Try.func14, Try.ntmps14
  go_wp2
  go_ret
  exact ⟨rfl, rfl⟩
theorem lives15 (w : World) :
    Calls Try.prog 6 #[] w fun e w' => e = .returned (.bool true) ∧ Below w.heap.size w w' := by
  have e1 := rot_a
  have e2 : choose32 12 10 5 = 9 := by decide +kernel
  have e3 : most32 1 3 6 = 3 := by decide +kernel
  go_enter Try.func6, Try.ntmps6
  go_wp2_with (first
    | (go_at_call 8; refine (right32 _ _ _ (by omega) (by omega)).mono ?_; rintro e w' ⟨rfl, n2, rfl⟩)
    | (go_at_call 15; refine (choose32_any _ _ _ _).mono ?_; rintro e w' ⟨rfl, rfl⟩)
    | (go_at_call 16; refine (most32_any _ _ _ _).mono ?_; rintro e w' ⟨rfl, rfl⟩))
  go_ret
  exact ⟨rfl, below_drewN (Below.refl _ _) _⟩
theorem rotI_32 (s : Int) (s0 : 0 ≤ s) : rotI 32 s 32 = s := by
  unfold rotI
  rw [show ((32 : Int) % 32).toNat = 0 from rfl, rotN_zero]; omega
theorem rotI_64 (x : Int) (x0 : 0 ≤ x) : rotI 64 x 64 = x := by
  unfold rotI
  rw [show ((64 : Int) % 64).toNat = 0 from rfl, rotN_zero]; omega
theorem rotI_m64 (x : Int) (x0 : 0 ≤ x) : rotI 64 x (-64) = x := by
  unfold rotI
  rw [show ((-64 : Int) % 64).toNat = 0 from rfl, rotN_zero]; omega
theorem law15_row (x : Int) (b off len cap : Nat) (zs : List Int) (w : World) (x0 : 0 ≤ x) (x1 : x < 18446744073709551616) (hl : len ≤ cap) (hm : cap ≤ maxLen) (hz : zs.length = cap) (hbl : b < w.heap.size)
    (hcell : ∀ i, i < zs.length → w.cell? ⟨b, off + i, none⟩ = some (.int .i64 (zs.getD i 0))) (h0 : 0 < len) (h20 : len ≤ 20) :
    Calls Try.prog 3 #[.int .u64 x, .slice (some ⟨b, off, none⟩) len cap] w fun e w' => e = .returned (.bool true) ∧ Below w.heap.size w w' := by
  have HZ := Lib.hid hz
  have HC := Lib.hid hcell
  have HM := Lib.hid hm
  have hc0 := hcell 0 (by omega)
  have t20 : decide ((20 : Int) < (len : Int)) = false := by simp; omega
  clear hz hcell hm
  go_enter Try.func3, Try.ntmps3
  go_wp2_with fail
  have sm : (0 : Int) ≤ x % 4294967296 ∧ x % 4294967296 < 4294967296 := by omega
  obtain ⟨s0, s1⟩ := sm
  obtain ⟨s, hs⟩ : ∃ s, s = x % 4294967296 := ⟨_, rfl⟩
  rw [← hs] at s0 s1
  rw [← hs]
  have HS := Lib.hid hs
  clear hs
  go_loopw [6, 7, 20] (fun a c i wr => ∃ k : Nat, k ≤ len ∧ i = .int .i64 k ∧ a = .int .u32 (turnsL32 s (zs.take k)) ∧ c = .int .u64 (turnsL64 x (zs.take k)) ∧ Below w.heap.size w wr) (fun _ _ i _ => len - (intOf i).toNat)
  case atStart => exact ⟨0, by omega, rfl, rfl, rfl, Below.refl _ _⟩
  case round =>
    obtain ⟨k, hk, rfl, rfl, rfl, hb⟩ := hrel
    have hbr : b < wr.heap.size := Nat.lt_of_lt_of_le hbl hb.size
    by_cases hlt : k < len
    · have hck := (hb.cell (by exact hbl)).trans (HC.out k (by have := HZ.out; omega))
      obtain ⟨v, hv⟩ : ∃ v, v = zs.getD k 0 := ⟨_, rfl⟩
      have T32 := Lib.hid (turnsL32_succ s zs k (by have := HZ.out; omega))
      have T64 := Lib.hid (turnsL64_succ x zs k (by have := HZ.out; omega))
      rw [← hv] at hck
      have Hv := Lib.hid hv
      generalize turnsL32 s (zs.take k) = t at *
      generalize turnsL64 x (zs.take k) = u at *
      obtain ⟨r0, r1⟩ := rotI_bd32 s v s0 s1
      obtain ⟨q0, q1⟩ := rotI_bd64 x v x0 x1
      clear hv hc0
      go_wp2_with fail
      refine (rright s v 32 _ (.inl rfl) s0 (by simpa using s1) (by omega)).mono ?_
      rintro e w' ⟨rfl, rfl⟩
      go_wp2_with fail
      refine (rright x v 64 _ (.inr rfl) x0 (by simpa using x1) x1).mono ?_
      rintro e w' ⟨rfl, rfl⟩
      go_wp2_with (first | (go_at_call 8; refine (right32 _ _ _ s0 s1).mono ?_; rintro e w' ⟨rfl, n1, rfl⟩) | (go_at_call 9; refine (right64 _ _ _ x0 x1).mono ?_; rintro e w' ⟨rfl, n2, rfl⟩))
      go_roundw
      case rel => exact ⟨k + 1, by omega, by go_num, congrArg (Value.int .u32) (by rw [T32.out, ← Hv.out]), congrArg (Value.int .u64) (by rw [T64.out, ← Hv.out]), below_drewN hb _⟩
      case measure => simp [intOf]; omega
    · obtain rfl : k = len := by omega
      go_wp2_with fail
      refine (turns32 s b off k cap zs _ s0 s1 hl HM.out HZ.out (fun i hi => (hb.cell (by exact hbl)).trans (HC.out i hi)) h0).mono ?_
      rintro e w' ⟨rfl, m1, rfl⟩
      go_wp2_with fail
      refine (turns64 x b off k cap zs _ x0 x1 hl HM.out HZ.out (by exact (fun i hi => (hb.cell (by exact hbl)).trans (HC.out i hi))) h0).mono ?_
      rintro e w' ⟨rfl, m2, rfl⟩
      have e1 := rotI_32 s s0
      have e2 := rotI_64 x x0
      have e3 := rotI_m64 x x0
      go_wp2_with (first
        | (go_at_call 8; refine (right32 _ _ _ s0 s1).mono ?_; rintro e w' ⟨rfl, n1, rfl⟩)
        | (go_at_call 9; refine (right64 _ _ _ x0 x1).mono ?_; rintro e w' ⟨rfl, n2, rfl⟩)
        | (go_at_call 6; refine (lives15 _).mono ?_; rintro e w' ⟨rfl, hl2⟩))
      go_ret
      exact ⟨rfl, gr_step (below_drewN hb _) hl2⟩
/-- Nothing is turned where there is no number of places. -/
theorem law15_zero (x : Int) (a : Option Addr) (cap : Nat) (w : World) (x0 : 0 ≤ x) (x1 : x < 18446744073709551616) :
    Calls Try.prog 3 #[.int .u64 x, .slice a 0 cap] w fun e w' => e = .returned (.bool true) ∧ Below w.heap.size w w' := by
  have sm : (0 : Int) ≤ x % 4294967296 ∧ x % 4294967296 < 4294967296 := by omega
  obtain ⟨s0, s1⟩ := sm
  have e1 := rotI_32 _ s0
  have e2 := rotI_64 x x0
  have e3 := rotI_m64 x x0
  go_enter Try.func3, Try.ntmps3
  go_wp2_with fail
  refine wp_loop_rounds 1 ?_
  rw [rounds_succ]
  go_wp2_with (first
    | (go_at_call 8; refine (right32 _ _ _ s0 s1).mono ?_; rintro e w' ⟨rfl, n1, rfl⟩)
    | (go_at_call 9; refine (right64 _ _ _ x0 x1).mono ?_; rintro e w' ⟨rfl, n2, rfl⟩)
    | (go_at_call 10; refine (turns32_zero _ _ _ _).mono ?_; rintro e w' ⟨rfl, rfl⟩)
    | (go_at_call 11; refine (turns64_zero _ _ _ _).mono ?_; rintro e w' ⟨rfl, rfl⟩)
    | (go_at_call 6; refine (lives15 _).mono ?_; rintro e w' ⟨rfl, hl2⟩))
  go_ret
  exact ⟨rfl, gr_step (below_drewN (Below.refl _ _) _) hl2⟩
theorem law15_many (x : Int) (a : Option Addr) (len cap : Nat) (w : World) (h : 20 < len) :
    Calls Try.prog 3 #[.int .u64 x, .slice a len cap] w fun e w' => e = .returned (.bool true) ∧ Below w.heap.size w w' := by
  have t20 : decide ((20 : Int) < (len : Int)) = true := by simp; omega
  go_enter Try.func3, Try.ntmps3
  go_wp2_with (go_at_call 6; refine (lives15 _).mono ?_; rintro e w' ⟨rfl, hb2⟩)
  go_ret
  exact ⟨rfl, hb2⟩
theorem mixTurns_walk (x : Int) (a : Option Addr) (len cap : Nat) (zs : List Int) (w : World) (wx : (Lit.int .u64 x).wf = true) (h : IsRow .i64 w a len cap zs) :
    Calls Try.prog 3 #[.int .u64 x, .slice a len cap] w fun e w' => e = .returned (.bool true) ∧ Below w.heap.size w w' := by
  have hx : 0 ≤ x ∧ x ≤ 18446744073709551615 := by simpa [Lit.wf, IntKind.min, IntKind.max, IntKind.signed, IntKind.bits] using wx
  by_cases h0 : len = 0
  · subst h0; exact law15_zero x a cap w hx.1 (by omega)
  by_cases h20 : 20 < len
  · exact law15_many x a len cap w h20
  rcases h with ⟨rfl, rfl, rfl, rfl⟩ | ⟨y, rfl, hl, hm, hz, hcell, _⟩
  · exact absurd rfl h0
  · obtain ⟨b, off, rfl, hbl, hc⟩ := row_at hcell (by omega)
    exact law15_row x b off len cap zs w hx.1 (by omega) hl hm hz hbl hc (by omega) (by omega)
end Go.Proofs.Ytoccoagkakeenag
