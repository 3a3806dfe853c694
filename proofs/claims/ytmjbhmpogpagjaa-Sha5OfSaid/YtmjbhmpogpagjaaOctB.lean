/- recast: what it makes of rows. -/
import Derived.Test.YtmjbhmpogpagjaaOctA
namespace Go.Proofs.Ytmjbhmpogpagjaa
set_option maxRecDepth 20000
set_option linter.unusedSimpArgs false
set_option linter.unusedVariables false
open Go.RowKit

theorem recast_hex (m : Nat) (G : Nat → List Value) (bl off n cap : Nat) (A0 : Option Addr) (X : Nat → Value) (w : World) (hA : 1 ≤ n → A0 = some ⟨bl, off, none⟩) (hbl : 1 ≤ n → bl < w.heap.size) (hcap : n ≤ cap) (hn : n ≤ 100000) (hm : m ≤ 8)
    (hcell : ∀ i, i < n → w.cell? ⟨bl, off + i, none⟩ = some (X i))
    (hstep : ∀ (W : World) (v : Value) (q : Nat) (xs : List Value) (k c : Nat), k + 1 ≤ n → w.heap.size ≤ W.heap.size → W.ownsRow w.heap.size 5 1 v q xs → (∀ j, j < 1 → W.cell? ⟨bl, off + k + j, none⟩ = some (X (k + j))) → q ≤ 1000000 →
      Calls Try.prog 28 #[v, .slice (some ⟨bl, off + k, none⟩) 1 c] W fun e w' => ∃ v', e = .returned v' ∧ w'.ownsRow w.heap.size 5 1 v' (q + m) (xs ++ G k) ∧ Below w.heap.size W w') :
    Calls Try.prog 27 #[.slice A0 n cap, .int .i64 1, .func (.func 28) #[] #[]] w fun e w' =>
      ∃ v', e = .returned v' ∧ w'.ownsRow w.heap.size 5 1 v' (n * m) ((List.range (n)).flatMap G) ∧ Below w.heap.size w w' := by
  obtain ⟨i0, hi, hz0, hz1, hz2⟩ := info_parts Try.info_u8
  have HS := Lib.hid hstep
  have HC := Lib.hid hcell
  have HA := Lib.hid hA
  have HB := Lib.hid hbl
  clear hstep hcell hA hbl
  go_enter Try.func27, Try.ntmps27
  go_wp2_with (at_make; refine wpList_make_own _ rfl (.const (.int .i64 0)) (.tmp 11) 51 rfl w.heap.size 5 i0 (.int .u8 0) 1 Try.underlying51 hi hz0 hz1 .i64 .i64 ((n : Nat) : Int) (n) rfl (by simp [Act.eval]) rfl (by rw [hz2]; omega) (by unfold maxLen; omega) (Nat.le_refl _) ?_; intro w1 hown1 hgrow1)
  go_loopw [0, 7] (fun l out wr => ∃ (k : Nat) (A : Option Addr), k ≤ n ∧ l = .slice A (n - k) (cap - k) ∧ (k + 1 ≤ n → A = some ⟨bl, off + k, none⟩) ∧ wr.ownsRow w.heap.size 5 1 out (k * m) ((List.range k).flatMap G) ∧ Below w.heap.size w wr) (fun l _ _ => match l with | .slice _ q _ => q | _ => 0)
  case atStart => exact ⟨0, A0, by omega, rfl, by simpa using HA.out, by simpa using hown1, (Below.refl _ _).grown hgrow1 (Nat.le_refl _) (by simp)⟩
  case round =>
    obtain ⟨k, A, hk, rfl, hAk, hown, hb⟩ := hrel
    by_cases hlt : k + 1 ≤ n
    · obtain rfl := hAk hlt
      have hq : k * m ≤ 1000000 := Nat.le_trans (Nat.mul_le_mul (by omega : k ≤ 100000) hm) (by omega)
      have cl : ∀ j, j < 1 → wr.cell? ⟨bl, off + k + j, none⟩ = some (X (k + j)) := fun j hj => by
        rw [Nat.add_assoc]; exact (hb.cell (by exact HB.out (by omega))).trans (HC.out (k + j) (by omega))
      have st := fun c => HS.out wr _ (k * m) _ k c hlt hb.size hown cl hq
      have ST := Lib.hid st
      clear st hAk cl
      go_wp2_with (go_at_call 28; refine (ST.out _).mono ?_; rintro e w' ⟨v', rfl, hown', hgrow'⟩)
      go_roundw
      case rel =>
        refine ⟨k + 1, (if cap - k = 1 then some ⟨bl, off + k, none⟩ else some ⟨bl, off + k + 1, none⟩), by omega, ?_, ?_, ?_, hb.trans hgrow'⟩
        rotate_left
        · intro h
          rw [if_neg (by omega)]
          congr 2
        · rw [Nat.succ_mul, List.range_succ, List.flatMap_append]
          simpa using hown'
        · congr 1 <;> omega
      case measure =>
        show n - k - 1 < n - k
        omega
    · obtain rfl : k = n := by omega
      go_wp2_with fail
      go_ret
      exact ⟨_, rfl, hown, hb⟩

theorem recast_put64 (m : Nat) (G : Nat → List Value) (bl off n cap : Nat) (A0 : Option Addr) (X : Nat → Value) (w : World) (hA : 1 ≤ n → A0 = some ⟨bl, off, none⟩) (hbl : 1 ≤ n → bl < w.heap.size) (hcap : n ≤ cap) (hn : n ≤ 100000) (hm : m ≤ 8)
    (hcell : ∀ i, i < n → w.cell? ⟨bl, off + i, none⟩ = some (X i))
    (hstep : ∀ (W : World) (v : Value) (q : Nat) (xs : List Value) (k c : Nat), k + 1 ≤ n → w.heap.size ≤ W.heap.size → W.ownsRow w.heap.size 5 1 v q xs → (∀ j, j < 1 → W.cell? ⟨bl, off + k + j, none⟩ = some (X (k + j))) → q ≤ 1000000 →
      Calls Try.prog 42 #[v, .slice (some ⟨bl, off + k, none⟩) 1 c] W fun e w' => ∃ v', e = .returned v' ∧ w'.ownsRow w.heap.size 5 1 v' (q + m) (xs ++ G k) ∧ Below w.heap.size W w') :
    Calls Try.prog 41 #[.slice A0 n cap, .int .i64 1, .func (.func 42) #[] #[]] w fun e w' =>
      ∃ v', e = .returned v' ∧ w'.ownsRow w.heap.size 5 1 v' (n * m) ((List.range (n)).flatMap G) ∧ Below w.heap.size w w' := by
  obtain ⟨i0, hi, hz0, hz1, hz2⟩ := info_parts Try.info_u8
  have HS := Lib.hid hstep
  have HC := Lib.hid hcell
  have HA := Lib.hid hA
  have HB := Lib.hid hbl
  clear hstep hcell hA hbl
  go_enter Try.func41, Try.ntmps41
  go_wp2_with (at_make; refine wpList_make_own _ rfl (.const (.int .i64 0)) (.tmp 11) 51 rfl w.heap.size 5 i0 (.int .u8 0) 1 Try.underlying51 hi hz0 hz1 .i64 .i64 ((n : Nat) : Int) (n) rfl (by simp [Act.eval]) rfl (by rw [hz2]; omega) (by unfold maxLen; omega) (Nat.le_refl _) ?_; intro w1 hown1 hgrow1)
  go_loopw [0, 7] (fun l out wr => ∃ (k : Nat) (A : Option Addr), k ≤ n ∧ l = .slice A (n - k) (cap - k) ∧ (k + 1 ≤ n → A = some ⟨bl, off + k, none⟩) ∧ wr.ownsRow w.heap.size 5 1 out (k * m) ((List.range k).flatMap G) ∧ Below w.heap.size w wr) (fun l _ _ => match l with | .slice _ q _ => q | _ => 0)
  case atStart => exact ⟨0, A0, by omega, rfl, by simpa using HA.out, by simpa using hown1, (Below.refl _ _).grown hgrow1 (Nat.le_refl _) (by simp)⟩
  case round =>
    obtain ⟨k, A, hk, rfl, hAk, hown, hb⟩ := hrel
    by_cases hlt : k + 1 ≤ n
    · obtain rfl := hAk hlt
      have hq : k * m ≤ 1000000 := Nat.le_trans (Nat.mul_le_mul (by omega : k ≤ 100000) hm) (by omega)
      have cl : ∀ j, j < 1 → wr.cell? ⟨bl, off + k + j, none⟩ = some (X (k + j)) := fun j hj => by
        rw [Nat.add_assoc]; exact (hb.cell (by exact HB.out (by omega))).trans (HC.out (k + j) (by omega))
      have st := fun c => HS.out wr _ (k * m) _ k c hlt hb.size hown cl hq
      have ST := Lib.hid st
      clear st hAk cl
      go_wp2_with (go_at_call 42; refine (ST.out _).mono ?_; rintro e w' ⟨v', rfl, hown', hgrow'⟩)
      go_roundw
      case rel =>
        refine ⟨k + 1, (if cap - k = 1 then some ⟨bl, off + k, none⟩ else some ⟨bl, off + k + 1, none⟩), by omega, ?_, ?_, ?_, hb.trans hgrow'⟩
        rotate_left
        · intro h
          rw [if_neg (by omega)]
          congr 2
        · rw [Nat.succ_mul, List.range_succ, List.flatMap_append]
          simpa using hown'
        · congr 1 <;> omega
      case measure =>
        show n - k - 1 < n - k
        omega
    · obtain rfl : k = n := by omega
      go_wp2_with fail
      go_ret
      exact ⟨_, rfl, hown, hb⟩

theorem recast_get64 (m : Nat) (G : Nat → List Value) (bl off n cap : Nat) (A0 : Option Addr) (X : Nat → Value) (w : World) (hA : 8 ≤ n → A0 = some ⟨bl, off, none⟩) (hbl : 8 ≤ n → bl < w.heap.size) (hcap : n ≤ cap) (hn : n ≤ 100000) (hm : m ≤ 8)
    (hcell : ∀ i, i < n → w.cell? ⟨bl, off + i, none⟩ = some (X i))
    (hstep : ∀ (W : World) (v : Value) (q : Nat) (xs : List Value) (k c : Nat), 8 * k + 8 ≤ n → w.heap.size ≤ W.heap.size → W.ownsRow w.heap.size 36 1 v q xs → (∀ j, j < 8 → W.cell? ⟨bl, off + 8 * k + j, none⟩ = some (X (8 * k + j))) → q ≤ 1000000 →
      Calls Try.prog 69 #[v, .slice (some ⟨bl, off + 8 * k, none⟩) 8 c] W fun e w' => ∃ v', e = .returned v' ∧ w'.ownsRow w.heap.size 36 1 v' (q + m) (xs ++ G k) ∧ Below w.heap.size W w') :
    Calls Try.prog 68 #[.slice A0 n cap, .int .i64 8, .func (.func 69) #[] #[]] w fun e w' =>
      ∃ v', e = .returned v' ∧ w'.ownsRow w.heap.size 36 1 v' (n / 8 * m) ((List.range (n / 8)).flatMap G) ∧ Below w.heap.size w w' := by
  obtain ⟨i0, hi, hz0, hz1, hz2⟩ := info_parts Try.info_u64
  have HS := Lib.hid hstep
  have HC := Lib.hid hcell
  have HA := Lib.hid hA
  have HB := Lib.hid hbl
  clear hstep hcell hA hbl
  go_enter Try.func68, Try.ntmps68
  go_wp2_with (at_make; refine wpList_make_own _ rfl (.const (.int .i64 0)) (.tmp 11) 33 rfl w.heap.size 36 i0 (.int .u64 0) 1 Try.underlying33 hi hz0 hz1 .i64 .i64 ((n / 8 : Nat) : Int) (n / 8) rfl (by simp [Act.eval]) rfl (by rw [hz2]; omega) (by unfold maxLen; omega) (Nat.le_refl _) ?_; intro w1 hown1 hgrow1)
  go_loopw [0, 7] (fun l out wr => ∃ (k : Nat) (A : Option Addr), 8 * k ≤ n ∧ l = .slice A (n - 8 * k) (cap - 8 * k) ∧ (8 * k + 8 ≤ n → A = some ⟨bl, off + 8 * k, none⟩) ∧ wr.ownsRow w.heap.size 36 1 out (k * m) ((List.range k).flatMap G) ∧ Below w.heap.size w wr) (fun l _ _ => match l with | .slice _ q _ => q | _ => 0)
  case atStart => exact ⟨0, A0, by omega, rfl, by simpa using HA.out, by simpa using hown1, (Below.refl _ _).grown hgrow1 (Nat.le_refl _) (by simp)⟩
  case round =>
    obtain ⟨k, A, hk, rfl, hAk, hown, hb⟩ := hrel
    by_cases hlt : 8 * k + 8 ≤ n
    · obtain rfl := hAk hlt
      have hq : k * m ≤ 1000000 := Nat.le_trans (Nat.mul_le_mul (by omega : k ≤ 100000) hm) (by omega)
      have cl : ∀ j, j < 8 → wr.cell? ⟨bl, off + 8 * k + j, none⟩ = some (X (8 * k + j)) := fun j hj => by
        rw [Nat.add_assoc]; exact (hb.cell (by exact HB.out (by omega))).trans (HC.out (8 * k + j) (by omega))
      have st := fun c => HS.out wr _ (k * m) _ k c hlt hb.size hown cl hq
      have ST := Lib.hid st
      clear st hAk cl
      go_wp2_with (go_at_call 69; refine (ST.out _).mono ?_; rintro e w' ⟨v', rfl, hown', hgrow'⟩)
      go_roundw
      case rel =>
        refine ⟨k + 1, (if cap - 8 * k = 8 then some ⟨bl, off + 8 * k, none⟩ else some ⟨bl, off + 8 * k + 8, none⟩), by omega, ?_, ?_, ?_, hb.trans hgrow'⟩
        rotate_left
        · intro h
          rw [if_neg (by omega)]
          congr 2
        · rw [Nat.succ_mul, List.range_succ, List.flatMap_append]
          simpa using hown'
        · congr 1 <;> omega
      case measure =>
        show n - 8 * k - 8 < n - 8 * k
        omega
    · obtain rfl : k = n / 8 := by omega
      go_wp2_with fail
      go_ret
      exact ⟨_, rfl, hown, hb⟩

end Go.Proofs.Ytmjbhmpogpagjaa
