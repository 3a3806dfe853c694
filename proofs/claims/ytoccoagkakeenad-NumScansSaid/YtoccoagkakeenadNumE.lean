/- num.Scan behind a sign where no digit stands; the reference's digits and small. -/
import Derived.Test.YtoccoagkakeenadNumB
namespace Go.Proofs.Ytoccoagkakeenad
open Go.RowKit
set_option maxHeartbeats 4000000 in
theorem scan_si6 (s : ByteArray) (a f : Nat) (w : World) (hf : f = a + 1) (hfs : f ≤ s.size) (hm : gb s a = 45) (hd : f < s.size → isD (gb s f) = false) (hs : s.size ≤ 140737488355328) :
    Calls Try.prog 5 #[.string s, .int .i64 (a : Int)] w fun e w' => e = ret3 (scanF s f 1) ∧ Below w.heap.size w w' := by
  have hp0 : ¬ (a : Int) < 0 := by omega
  have hp1 : ¬ (s.size : Int) < a := by omega
  have ha : a < s.size := by omega
  have ga := (gb_at s a ha).trans hm
  have nata : (a : Int).toNat = a := by omega
  have q3 : (a : Int) < (s.size : Int) := by omega
  have wf : IntKind.i64.wrap ((a : Int) + 1) = (f : Int) := by rw [IntWalk.i64_in _ (by omega)]; omega
  have sf : (a : Int) + 1 = (f : Int) := by omega
  clear hf
  rcases Nat.lt_or_ge f s.size with h | h
  · have g0 := gb_at s f h
    have nat0 : (f : Int).toNat = f := by omega
    have q1 : (f : Int) < (s.size : Int) := by omega
    have q2 : ¬ (f : Int) = (s.size : Int) := by omega
    have g1 := gb_lt s f
    have hd := hd h
    have E1 := Lib.hid (scanF_6 (sg := 1) h hd)
    have D1 : (decide (48 ≤ (gb s f : Int)) && decide ((gb s f : Int) ≤ 57)) = false := by have := isD_no hd; simp; omega
    clear hd
    go_enter Try.func5, Try.ntmps5
    go_wp2_with fail
    refine wp_scope_fwd 0 rfl ?_
    go_wp2_with (go_at_call 7; refine (digit_any _ _).mono ?_; rintro e w' ⟨rfl, rfl⟩)
    go_step3
    refine ⟨rfl, ?_⟩
    go_wp2_with fail
    try rw [Exit.noGoto_ret]
    go_ret3
    exact ⟨(congrArg ret3 E1.out).symm, Below.refl _ _⟩
  · have E1 := Lib.hid (scanF_5 (sg := 1) (show f = s.size by omega))
    have q2 : (f : Int) = (s.size : Int) := by omega
    have q1 : ¬ (f : Int) < (s.size : Int) := by omega
    clear hd
    go_enter Try.func5, Try.ntmps5
    go_wp2_with fail
    refine wp_scope_fwd 0 rfl ?_
    go_wp2_with fail
    go_step3
    refine ⟨rfl, ?_⟩
    go_wp2_with fail
    try rw [Exit.noGoto_ret]
    go_ret3
    exact ⟨(congrArg ret3 E1.out).symm, Below.refl _ _⟩
set_option maxHeartbeats 4000000 in
theorem digits_any (s : ByteArray) (f : Nat) (w : World) (hf : f ≤ s.size) (hs : s.size ≤ 140737488355328) :
    Calls Try.prog 8 #[.string s, .int .i64 (f : Int)] w fun e w' => e = .returned (.int .i64 (cnt s f : Int)) ∧ w = w' := by
  go_enter Try.func8, Try.ntmps8
  go_wp2_with fail
  go_loop [5] (fun i => ∃ k : Nat, k ≤ cnt s f ∧ i = .int .i64 (k : Int)) (fun i => s.size - (intOf i).toNat)
  case atStart => exact ⟨0, by omega, rfl⟩
  case round =>
    obtain ⟨k, hk, rfl⟩ := hrel
    obtain ⟨p, hp⟩ : ∃ p, p = f + k := ⟨_, rfl⟩
    have natp : (p : Int).toNat = p := by omega
    have hkl := cnt_le s f hf
    have sm : (f : Int) + (k : Int) = (p : Int) := by omega
    have w1 : IntKind.i64.wrap ((f : Int) + (k : Int)) = (p : Int) := by rw [IntWalk.i64_in _ (by omega)]; omega
    have w2 : IntKind.i64.wrap ((k : Int) + 1) = (k : Int) + 1 := IntWalk.i64_in _ (by omega)
    by_cases hlt : p < s.size
    · have gp := gb_at s p hlt
      have gpl := gb_lt s p
      have p1 : (p : Int) < (s.size : Int) := by omega
      have pb1 : decide ((p : Int) < (s.size : Int)) = true := by simpa using p1
      cases hD : isD (gb s p)
      · have hk2 := Lib.hid (cnt_same hk (by rw [← hp]; exact hD))
        rcases isD_no hD with hx | hx
        · have x1 : ¬ 48 ≤ (gb s p : Int) := by omega
          have xb1 : decide (48 ≤ (gb s p : Int)) = false := by simpa using x1
          clear hD hp
          go_wp2_with fail
          go_ret
          exact ⟨ret_int (by rw [hk2.out]), rfl⟩
        · have x1 : 48 ≤ (gb s p : Int) := by omega
          have xb1 : decide (48 ≤ (gb s p : Int)) = true := by simpa using x1
          have x2 : ¬ (gb s p : Int) ≤ 57 := by omega
          have xb2 : decide ((gb s p : Int) ≤ 57) = false := by simpa using x2
          clear hD hp
          go_wp2_with fail
          go_ret
          exact ⟨ret_int (by rw [hk2.out]), rfl⟩
      · have hk2 := cnt_more hk (by rw [← hp]; exact hD)
        obtain ⟨y1, y2⟩ := isD_yes hD
        have x1 : 48 ≤ (gb s p : Int) := by omega
        have xb1 : decide (48 ≤ (gb s p : Int)) = true := by simpa using x1
        have x2 : (gb s p : Int) ≤ 57 := by omega
        have xb2 : decide ((gb s p : Int) ≤ 57) = true := by simpa using x2
        have hks : k < s.size := by omega
        clear hD hp
        go_wp2_with fail
        go_round
        case rel => exact ⟨k + 1, hk2, congrArg (Value.int .i64) (by omega)⟩
        case measure => simp [intOf]; omega
    · have p1 : ¬ (p : Int) < (s.size : Int) := by omega
      have pb1 : decide ((p : Int) < (s.size : Int)) = false := by simpa using p1
      have hp2 := gb_out s p (by omega)
      have hk2 := Lib.hid (cnt_same hk (by rw [← hp, hp2]; rfl))
      clear hp hp2
      go_wp2_with fail
      go_ret
      exact ⟨ret_int (by rw [hk2.out]), rfl⟩
set_option maxHeartbeats 4000000 in
theorem small_any (t : ByteArray) (w : World) (ht : t.size ≤ 16) (hd : ∀ j, j < t.size → isD (gb t j) = true) :
    Calls Try.prog 9 #[.string t] w fun e w' => e = .returned (.tuple #[.int .i64 (valN t 0 t.size : Int), .bool (decide ((valN t 0 t.size : Int) ≤ 9007199254740991))]) ∧ w = w' := by
  have q : ¬ 16 < (t.size : Int) := by omega
  go_enter Try.func9, Try.ntmps9
  go_wp2_with fail
  go_loop [4, 5] (fun n i => ∃ k : Nat, k ≤ t.size ∧ i = .int .i64 (k : Int) ∧ n = .int .i64 (valN t 0 k : Int)) (fun _ i => t.size - (intOf i).toNat)
  case atStart => exact ⟨0, by omega, rfl, rfl⟩
  case round =>
    obtain ⟨k, hk, rfl, rfl⟩ := hrel
    have natp : (k : Int).toNat = k := by omega
    by_cases hlt : k < t.size
    · have gp := gb_at t k hlt
      have gpl := gb_lt t k
      have p1 : (k : Int) < (t.size : Int) := by omega
      obtain ⟨y1, y2⟩ := isD_yes (hd k hlt)
      have vl := val_16 t 0 k (by omega)
      have o1 : IntKind.u8.wrap ((gb t k : Int) - 48) = (gb t k : Int) - 48 := by rw [IntKind.wrap_u8']; omega
      have o2 : IntKind.i64.wrap ((gb t k : Int) - 48) = (gb t k : Int) - 48 := IntWalk.i64_in _ (by omega)
      have o5 : IntKind.i64.wrap ((k : Int) + 1) = (k : Int) + 1 := IntWalk.i64_in _ (by omega)
      have o3 : IntKind.i64.wrap (10 * (valN t 0 k : Int)) = 10 * (valN t 0 k : Int) := IntWalk.i64_in _ (by omega)
      have o4 : IntKind.i64.wrap (10 * (valN t 0 k : Int) + ((gb t k : Int) - 48)) = 10 * (valN t 0 k : Int) + ((gb t k : Int) - 48) := IntWalk.i64_in _ (by omega)
      have C1 := Lib.hid (show (valN t 0 (k + 1) : Int) = 10 * (valN t 0 k : Int) + ((gb t k : Int) - 48) by rw [valN, Nat.zero_add]; omega)
      clear hd
      go_wp2_with fail
      go_round
      case rel => exact ⟨k + 1, by omega, congrArg (Value.int .i64) (by omega), congrArg (Value.int .i64) C1.out.symm⟩
      case measure => simp [intOf]; omega
    · have p1 : ¬ (k : Int) < (t.size : Int) := by omega
      have hk2 := Lib.hid (show k = t.size by omega)
      clear hd
      go_wp2_with fail
      go_ret2
      exact ⟨by rw [← hk2.out]; rfl, rfl⟩
theorem small_long (t : ByteArray) (w : World) (ht : 16 < t.size) :
    Calls Try.prog 9 #[.string t] w fun e w' => e = .returned (.tuple #[.int .i64 0, .bool false]) ∧ w = w' := by
  have q : 16 < (t.size : Int) := by omega
  go_enter Try.func9, Try.ntmps9
  go_wp2_with fail
  go_ret2
  exact ⟨rfl, rfl⟩
end Go.Proofs.Ytoccoagkakeenad
