/- pcode.Encode (layer 21): its contract. What the reference's Put and Turn answer. The reference's Bytes: what it answers. prime.Of (layer 19): its contract. Deferred calls in texts of whole rows. No program in it. pcode.Decode (layer 21): its contract. The closure of wide.Rem: one bit more. (wide.Num).IsZero: what it answers. -/
import Derived.ProofKit
import Derived.Laws.Rows
import Derived.Defers
import Derived.Test.YtigfoophimjgdaaK19
import Derived.Test.YtigfoophimjgdaaK01
import Derived.Test.YtigfoophimjgdaaK03
import Derived.Test.YtigfoophimjgdaaK14
namespace Go.Proofs.Ytigfoophimjgdaa
set_option maxRecDepth 20000
set_option linter.unusedSimpArgs false
set_option linter.unusedVariables false
open Go.RowKit Go.Sort
theorem rowWn : RowTy Try.prog 25 4 := ⟨.inr ⟨_, _, Try.underlying25⟩, by kernel_rfl⟩
theorem bx_Wn (a : Nat) (W : World) : (Instr.box 25 (numV a)).run Try.prog W = .ok (.pointer (some ⟨W.heap.size, 0, none⟩)) (W.alloc (.cells (elR a) 25 (0, 0))) := by
  unfold numV elR
  go_simp
theorem ix_Wn3 (b : Nat) (W : World) : (Instr.indexAt 25 (.pointer (some ⟨b, 0, none⟩)) (.int .i64 3)).run Try.prog W = .ok (.pointer (some ⟨b, 3, none⟩)) W := by
  go_simp
set_option maxRecDepth 20000 in
set_option maxHeartbeats 8000000 in
theorem enc1_any (x n g : Nat) (w : World) (hn : n < PN) (hg : w.heap[g]? = some (.cells (elR x) 27 (0, 0))) : Calls Try.prog 47 #[numV n, .pointer (some ⟨g, 0, none⟩)] w fun E w' => E = .returned (.string ⟨(byL (encN x n)).toArray⟩) ∧ Below w.heap.size w w' := by
  have HMIX := Lib.hid (show Try.prog.follows .mixedOrders = true by kernel_rfl)
  go_enter Try.func47, Try.ntmps47
  have hM0 := Mem.start w
  (go_step; go_step; refine wp_region_lit ?_)
  refine wl_new hM0 (f := fun b => .pointer (some ⟨b, 0, none⟩)) (ob := .cells (elR n) 25 (0, 0)) (fun W => run_box_of rfl rfl (bx_Wn n W)) rfl fun b1 W1 hM1 => ?_
  simp only [Act.put, List.setIfInBounds_toArray, List.set_cons_zero, List.set_cons_succ]
  refine wl_pure (v := .string ⟨#[]⟩) (fun _ => rfl) rfl ?_
  simp only [Act.put, List.setIfInBounds_toArray, List.set_cons_zero, List.set_cons_succ]
  refine wpList_nil ?_
  (go_step; go_step; go_step; go_step; refine wp_region_lit ?_)
  refine wl_far (hM1.old hg) (v := numV x) (sub := elR x) rfl rfl rfl rfl rowEl rfl ?_
  simp only [Act.put, List.setIfInBounds_toArray, List.set_cons_zero, List.set_cons_succ]
  obtain ⟨c1, hc1⟩ : ∃ y, y = decide (x % 2 = 1) := ⟨_, rfl⟩
  have KO := fun W => podd_any x W
  simp only [← hc1] at KO
  refine wl_call hM1 (args := #[numV x]) (v := .bool c1) (fun W => run_call_fn W (enters_of Try.func48 rfl rfl) rfl (by simp [Act.eval])) (KO W1) rfl fun W2 hM2 => ?_
  simp only [Act.put, List.setIfInBounds_toArray, List.set_cons_zero, List.set_cons_succ]
  refine wpList_nil ?_
  cases c1
  · skip
    (go_step; go_step; go_step; go_step; go_step; go_step; go_step; refine wp_region_lit ?_)
    refine wl_row hM2 0 (v := numV n) rfl rfl rfl rfl rowWn rfl ?_
    simp only [Act.put, List.setIfInBounds_toArray, List.set_cons_zero, List.set_cons_succ]
    refine wl_call hM2 (args := #[numV n]) (v := .string ⟨(byL n).toArray⟩) (fun W => run_call_fn W (enters_of Try.func49 rfl rfl) rfl (by simp [Act.eval])) (bytes_any n W2) rfl fun W3 hM3 => ?_
    simp only [Act.put, List.setIfInBounds_toArray, List.set_cons_zero, List.set_cons_succ]
    refine wl_pure (v := .string ⟨(byL n).toArray⟩) (fun _ => rfl) rfl ?_
    simp only [Act.put, List.setIfInBounds_toArray, List.set_cons_zero, List.set_cons_succ]
    refine wpList_nil ?_
    (go_step; go_step; go_step; refine bodyPost_ret (v := .string ⟨(byL n).toArray⟩) (results_slot Try.results47 rfl) rfl ⟨?_, hM3.below⟩)
    exact by
        have h1 := of_decide_eq_false hc1.symm
        unfold encN
        rw [if_neg h1]
  · skip
    (go_step; go_step; go_step; refine wp_region_lit ?_)
    refine wl_pure (v := .pointer (some ⟨b1, 3, none⟩)) (fun W => run_index_of rfl rfl rfl (ix_Wn3 b1 W)) rfl ?_
    simp only [Act.put, List.setIfInBounds_toArray, List.set_cons_zero, List.set_cons_succ]
    refine wl_cell hM2 0 (v := .int .u64 (wd n 3 : Int)) rfl rfl rfl rfl cellU rfl ?_
    simp only [Act.put, List.setIfInBounds_toArray, List.set_cons_zero, List.set_cons_succ]
    refine wl_pure (v := .int .u64 (((wd n 3) + 9223372036854775808 : Nat) : Int)) (fun W => run_bin_of rfl rfl rfl (or63 (wd n 3) (wd_low n hn) _ _ W)) rfl ?_
    simp only [Act.put, List.setIfInBounds_toArray, List.set_cons_zero, List.set_cons_succ]
    refine wl_pure (v := .pointer (some ⟨b1, 3, none⟩)) (fun W => run_index_of rfl rfl rfl (ix_Wn3 b1 W)) rfl ?_
    simp only [Act.put, List.setIfInBounds_toArray, List.set_cons_zero, List.set_cons_succ]
    refine wl_setat hM2 0 (cs' := (elR (n + 9223372036854775808 * B64 ^ 3))) rfl rfl rfl rfl (by show 3 < 4; decide) (el_high n hn) cellU rfl rfl rfl fun W3 hM3 => ?_
    simp only [List.set_cons_zero, List.set_cons_succ] at hM3
    refine wpList_nil ?_
    (go_step; go_step; go_step; refine wp_region_lit ?_)
    refine wl_row hM3 0 (v := numV (n + 9223372036854775808 * B64 ^ 3)) rfl rfl rfl rfl rowWn rfl ?_
    simp only [Act.put, List.setIfInBounds_toArray, List.set_cons_zero, List.set_cons_succ]
    refine wl_call hM3 (args := #[numV (n + 9223372036854775808 * B64 ^ 3)]) (v := .string ⟨(byL (n + 9223372036854775808 * B64 ^ 3)).toArray⟩) (fun W => run_call_fn W (enters_of Try.func49 rfl rfl) rfl (by simp [Act.eval])) (bytes_any (n + 9223372036854775808 * B64 ^ 3) W3) rfl fun W4 hM4 => ?_
    simp only [Act.put, List.setIfInBounds_toArray, List.set_cons_zero, List.set_cons_succ]
    refine wl_pure (v := .string ⟨(byL (n + 9223372036854775808 * B64 ^ 3)).toArray⟩) (fun _ => rfl) rfl ?_
    simp only [Act.put, List.setIfInBounds_toArray, List.set_cons_zero, List.set_cons_succ]
    refine wpList_nil ?_
    (go_step; go_step; go_step; refine bodyPost_ret (v := .string ⟨(byL (n + 9223372036854775808 * B64 ^ 3)).toArray⟩) (results_slot Try.results47 rfl) rfl ⟨?_, hM4.below⟩)
    exact by
        have h1 := of_decide_eq_true hc1.symm
        unfold encN
        rw [if_pos h1]
set_option maxRecDepth 20000 in
set_option maxHeartbeats 8000000 in
theorem encode_any {a : N4} {p : Pt} (ha : Ok4 a p) (w : World) : Calls Try.prog 12 #[pv4 a] w fun E w' => E = .returned (.string ⟨(byL (encN p.1.val p.2.val)).toArray⟩) ∧ Below w.heap.size w w' := by
  have HMIX := Lib.hid (show Try.prog.follows .mixedOrders = true by kernel_rfl)
  go_enter Try.func12, Try.ntmps12
  have hM0 := Mem.start w
  (go_step; go_step; refine wp_region_lit ?_)
  refine wl_new hM0 (f := fun b => .pointer (some ⟨b, 0, none⟩)) (ob := .cells ((pc4 a)) 30 (0, 0)) (fun W => run_box_of rfl rfl (bx_P4 _ W)) rfl fun b1 W1 hM1 => ?_
  simp only [Act.put, List.setIfInBounds_toArray, List.set_cons_zero, List.set_cons_succ]
  refine wl_pure (v := .string ⟨#[]⟩) (fun _ => rfl) rfl ?_
  simp only [Act.put, List.setIfInBounds_toArray, List.set_cons_zero, List.set_cons_succ]
  refine wpList_nil ?_
  (go_step; go_step; go_step; refine wp_region_lit ?_)
  refine wl_row hM1 0 (v := pv4 a) rfl rfl rfl rfl rowPt rfl ?_
  simp only [Act.put, List.setIfInBounds_toArray, List.set_cons_zero, List.set_cons_succ]
  obtain ⟨v1, ev1⟩ : ∃ x, x = p.1.val := ⟨_, rfl⟩
  have pv1 : v1 < PN := by rw [ev1]; exact Fin.isLt _
  obtain ⟨v2, ev2⟩ : ∃ x, x = p.2.val := ⟨_, rfl⟩
  have pv2 : v2 < PN := by rw [ev2]; exact Fin.isLt _
  have KX14 := Lib.hid (fun W => xyp4 ha W)
  simp only [← ev1, ← ev2] at KX14
  refine wl_call hM1 (args := #[pv4 a]) (v := .tuple #[numV v1, numV v2]) (fun W => run_call_fn W (enters_of Try.func46 rfl rfl) rfl (by simp [Act.eval])) (KX14.out W1) rfl fun W2 hM2 => ?_
  simp only [Act.put, List.setIfInBounds_toArray, List.set_cons_zero, List.set_cons_succ]
  refine wl_pure (v := .tuple #[numV v1, numV v2]) (fun _ => rfl) rfl ?_
  simp only [Act.put, List.setIfInBounds_toArray, List.set_cons_zero, List.set_cons_succ]
  refine wl_pure (v := numV v1) (fun _ => rfl) rfl ?_
  simp only [Act.put, List.setIfInBounds_toArray, List.set_cons_zero, List.set_cons_succ]
  refine wl_pure (v := numV v2) (fun _ => rfl) rfl ?_
  simp only [Act.put, List.setIfInBounds_toArray, List.set_cons_zero, List.set_cons_succ]
  refine wl_new hM2 (f := fun b => .pointer (some ⟨b, 0, none⟩)) (ob := .cells z4 27 (0, 0)) (fun W => run_alloc_of rfl (al_El W)) rfl fun b2 W3 hM3 => ?_
  simp only [Act.put, List.setIfInBounds_toArray, List.set_cons_zero, List.set_cons_succ]
  refine wl_new hM3 (f := fun b => .pointer (some ⟨b, 0, none⟩)) (ob := .cells z4 27 (0, 0)) (fun W => run_alloc_of rfl (al_El W)) rfl fun b3 W4 hM4 => ?_
  simp only [Act.put, List.setIfInBounds_toArray, List.set_cons_zero, List.set_cons_succ]
  refine wl_set hM4 1 (cs := (elR v1)) rfl rfl rfl rfl rowEl rfl (one_el v1) rfl rfl fun W5 hM5 => ?_
  simp only [List.set_cons_zero, List.set_cons_succ] at hM5
  refine wl_set hM5 0 (cs := (elR v2)) rfl rfl rfl rfl rowEl rfl (one_el v2) rfl rfl fun W6 hM6 => ?_
  simp only [List.set_cons_zero, List.set_cons_succ] at hM6
  refine wpList_nil ?_
  (go_step; go_step; go_step; refine wp_region_lit ?_)
  refine wl_pure (v := .func (.func 47) #[] #[.pointer (some ⟨b2, 0, none⟩)]) (fun W => run_makeFunc_of rfl (by simp [Instr.makeFunc, Act.eval])) rfl ?_
  simp only [Act.put, List.setIfInBounds_toArray, List.set_cons_zero, List.set_cons_succ]
  refine wl_pure (v := .func (.func 47) #[] #[.pointer (some ⟨b2, 0, none⟩)]) (fun _ => rfl) rfl ?_
  simp only [Act.put, List.setIfInBounds_toArray, List.set_cons_zero, List.set_cons_succ]
  refine wpList_nil ?_
  (go_step; go_step; go_step; refine wp_region_lit ?_)
  refine wl_pure (v := .func (.func 47) #[] #[.pointer (some ⟨b2, 0, none⟩)]) (fun _ => rfl) rfl ?_
  simp only [Act.put, List.setIfInBounds_toArray, List.set_cons_zero, List.set_cons_succ]
  refine wl_row hM6 0 (v := numV v2) rfl rfl rfl rfl rowEl rfl ?_
  simp only [Act.put, List.setIfInBounds_toArray, List.set_cons_zero, List.set_cons_succ]
  refine wl_call hM6 (args := #[numV v2]) (v := numV v2) (fun W => run_call_fn W (enters_of Try.func50 rfl rfl) rfl (by simp [Act.eval])) (pnum_any v2 W6) rfl fun W7 hM7 => ?_
  simp only [Act.put, List.setIfInBounds_toArray, List.set_cons_zero, List.set_cons_succ]
  refine wl_call hM7 (args := #[numV v2, .pointer (some ⟨b2, 0, none⟩)]) (v := .string ⟨(byL (encN v1 v2)).toArray⟩) (fun W => run_call_dyn W (enters_of Try.func47 rfl rfl) rfl rfl (by simp [Act.eval]; rfl) rfl) (enc1_any v1 v2 b2 W7 pv2 (hM7.get 1 rfl)) rfl fun W8 hM8 => ?_
  simp only [Act.put, List.setIfInBounds_toArray, List.set_cons_zero, List.set_cons_succ]
  refine wl_pure (v := .string ⟨(byL (encN v1 v2)).toArray⟩) (fun _ => rfl) rfl ?_
  simp only [Act.put, List.setIfInBounds_toArray, List.set_cons_zero, List.set_cons_succ]
  refine wpList_nil ?_
  (go_step; go_step; go_step; refine bodyPost_ret (v := .string ⟨(byL (encN v1 v2)).toArray⟩) (results_slot Try.results12 rfl) rfl ⟨?_, hM8.below⟩)
  exact by rw [ev1, ev2]
end Go.Proofs.Ytigfoophimjgdaa
namespace Go.Proofs.Ytigfoophimjgdaa
set_option maxRecDepth 20000
set_option linter.unusedSimpArgs false
set_option linter.unusedVariables false
open Go.RowKit
theorem Try.info_u8 : (Try.prog.info? 5).map (fun i => (i.zero, i.size, i.bytes)) = some (some (.int .u8 0), 1, 1) := by kernel_rfl
theorem bc_mod (z : Int) : bc (ofI (z % 256)) = .int .u8 (z % 256) := bc_ofI _ (by omega) (by omega)
def dk (x : Int) (k : Nat) : Int := x / ((256 ^ k : Nat) : Int)
theorem dk_zero (x : Int) : dk x 0 = x := by simp [dk]
theorem dk_succ (x : Int) (k : Nat) : dk x k / 256 = dk x (k + 1) := by
  unfold dk
  rw [Nat.pow_succ, Int.natCast_mul, ← Int.ediv_ediv_of_nonneg (Int.natCast_nonneg _)]; rfl
theorem dk_bd (x : Int) (k : Nat) (x0 : 0 ≤ x) (x1 : x < 18446744073709551616) : 0 ≤ dk x k ∧ dk x k < 18446744073709551616 := by
  induction k with
  | zero => rw [dk_zero]; exact ⟨x0, x1⟩
  | succ k ih => rw [← dk_succ x k]; omega
/-- A number's lowest bytes, the highest one first. -/
def putR (x : Int) : Nat → List UInt8
  | 0 => []
  | k + 1 => ofI (dk x k % 256) :: putR x k
theorem putR_length (x : Int) : ∀ k, (putR x k).length = k
  | 0 => rfl
  | k + 1 => by simp [putR, putR_length x k]
theorem rput_any (x : Int) (n : Nat) (w : World) (x0 : 0 ≤ x) (x1 : x < 18446744073709551616) (hn : n ≤ 1000) :
    Calls Try.prog 94 #[.int .u64 x, .int .i64 n] w fun e w' => e = .returned (.string ⟨(putR x n).toArray⟩) ∧ Below w.heap.size w w' := by
  obtain ⟨i0, hi, hz0, hz1, hz2⟩ := info_parts Try.info_u8
  go_enter Try.func94, Try.ntmps94
  go_wp2_with fail
  go_loopw [0, 5, 6] (fun y v i wr => ∃ k : Nat, k ≤ n ∧ i = .int .i64 k ∧ y = .int .u64 (dk x k) ∧ wr.ownsRow w.heap.size 5 1 v k ((putR x k).map bc) ∧ Below w.heap.size w wr) (fun _ _ i _ => n - (intOf i).toNat)
  case atStart => exact ⟨0, by omega, rfl, by rw [dk_zero], World.ownsRow_nil _ _ _ _, Below.refl _ _⟩
  case round =>
    obtain ⟨k, hk, rfl, rfl, hown, hb⟩ := hrel
    by_cases hlt : k < n
    · obtain ⟨d0, d1⟩ := dk_bd x k x0 x1
      have DS := Lib.hid (dk_succ x k)
      have hlit := World.ownsRow_lit (base := w.heap.size) (e := 5) (size := 1) wr #[.int .u8 (dk x k % 256)] 1 (by exact hb.size) (by decide) rfl
      have hsz := hb.size
      rcases hown with ⟨hl, ⟨rfl, hk0⟩ | ⟨g, cap, cur, rfl, hg, hh, r1, r2, r3, r4⟩⟩
      · subst hk0
        have HL := Lib.hid hlit
        clear hlit
        go_wp2_with fail
        go_roundw
        case rel =>
          refine ⟨1, by omega, rfl, congrArg (Value.int .u64) DS.out, ?_, hb.alloc hb.size _⟩
          have e : (putR x 1).map bc = [Value.int .u8 (dk x 0 % 256)] := by
            show [bc (ofI (dk x 0 % 256))] = _
            rw [bc_mod]
          rw [e]; exact HL.out
        case measure => simp [intOf]; omega
      · have hrow : wr.ownsRow w.heap.size 5 1 (.slice (some ⟨g, 0, none⟩) k cap) k ((putR x k).map bc) := ⟨hl, .inr ⟨g, cap, cur, rfl, hg, hh, r1, r2, r3, r4⟩⟩
        have hnews := (hrow.alloc (.cells #[.int .u8 (dk x k % 256)] 5)).cells rfl
        have HN := Lib.hid hnews
        have HL := Lib.hid hlit
        have Hl := Lib.hid hl
        clear hnews hlit hh r2 r3 r4 hl
        go_wp2_with (at_builtin; refine wpList_append_own _ (by rfl) (.tmp 15) (.tmp 16) 94 (by rfl) w.heap.size 5 i0 (.int .u8 0) 1 1 Try.underlying94 hi hz0 hz1 hz2 rfl (by decide) _ 1 _ (by simp [Act.eval]; rfl) (by exact HL.out) ⟨g, 0, none⟩ k cap ((putR x k).map bc) (by simp [Act.eval]) (by exact Hl.out) (by exact HN.out) (by simp [bc, Value.oneCell']) (by unfold maxLen; omega) (by omega) (by have := hb.size; simp; omega) ?_; intro v2 w2 hown2 hgrow2 _)
        go_roundw
        case rel =>
          refine ⟨k + 1, by omega, by go_num, congrArg (Value.int .u64) DS.out, ?_, (hb.alloc hb.size _).grown hgrow2 (by have := hb.size; simp; omega) (fun j hj => by simp [Value.ownBlock] at hj; omega)⟩
          rw [show k + 1 = 1 + k from by omega]
          have e : (putR x (1 + k)).map bc = [Value.int .u8 (dk x k % 256)] ++ (putR x k).map bc := by
            rw [Nat.add_comm]
            show bc (ofI (dk x k % 256)) :: _ = _
            rw [bc_mod]; rfl
          rw [e]; exact hown2
        case measure => simp [intOf]; omega
    · obtain rfl : k = n := by omega
      have ks := own_string (P := Try.prog) (t := 94) (ty := 9) Try.underlying94 Try.underlying5 Try.underlying9 hown
      go_wp2_with fail
      go_ret
      exact ⟨rfl, hb⟩
theorem rturn_any (s : ByteArray) (w : World) (hs : s.size ≤ 100000) :
    Calls Try.prog 93 #[.string s] w fun e w' => e = .returned (.string ⟨s.data.toList.reverse.toArray⟩) ∧ Below w.heap.size w w' := by
  obtain ⟨i0, hi, hz0, hz1, hz2⟩ := info_parts Try.info_u8
  have hlen : Hid (s.data.toList.length = s.size) := Array.length_toList
  go_enter Try.func93, Try.ntmps93
  go_wp2_with fail
  go_loopw [3, 4] (fun v i wr => ∃ k : Nat, k ≤ s.size ∧ i = .int .i64 ((k : Int) - 1) ∧ wr.ownsRow w.heap.size 5 1 v (s.size - k) ((s.data.toList.drop k).reverse.map bc) ∧ Below w.heap.size w wr) (fun _ i _ => (intOf i + 1).toNat)
  case atStart => exact ⟨s.size, by omega, rfl, by rw [List.drop_of_length_le (by have := hlen.out; omega), Nat.sub_self]; exact World.ownsRow_nil _ _ _ _, Below.refl _ _⟩
  case round =>
    obtain ⟨k, hk, rfl, hown, hb⟩ := hrel
    have hsz := hb.size
    by_cases hlt : 0 < k
    · obtain ⟨j, rfl⟩ : ∃ j, k = j + 1 := ⟨k - 1, by omega⟩
      have c1 : (((j + 1 : Nat) : Int) - 1) = (j : Int) := by omega
      rw [c1]
      have hj : j < s.size := by omega
      have hji : (j : Int) < (s.size : Int) := by omega
      have c2 : IntKind.i64.wrap ((j : Int) - 1) = (j : Int) - 1 := IntWalk.i64_in _ (by omega)
      have HD : Hid (s.data.toList.drop j = s[j] :: s.data.toList.drop (j + 1)) := List.drop_eq_getElem_cons (by have := hlen.out; omega)
      have HO := Lib.hid hown
      clear hown c1
      go_wp2_with (at_builtin; refine wpList_append_own _ (by rfl) (.tmp 12) (.tmp 16) 94 (by rfl) w.heap.size 5 i0 (.int .u8 0) 1 1 Try.underlying94 hi hz0 hz1 hz2 rfl (by decide) _ (s.size - (j + 1)) _ (by simp [Act.eval]; rfl) (by exact HO.out.alloc _) ⟨wr.heap.size, 0, none⟩ 1 1 [bc s[j]] (by simp [Act.eval]) rfl (by exact news_new wr #[_] _) (by simp [bc, Value.oneCell']) (by unfold maxLen; omega) (by omega) (by simp; omega) ?_; intro v2 w2 hown2 hgrow2 _)
      go_roundw
      case rel =>
        refine ⟨j, by omega, rfl, ?_, (hb.alloc hb.size _).grown hgrow2 (by simp; omega) (fun i hi => (HO.out.lt i hi).1)⟩
        rw [HD.out, List.reverse_cons, List.map_append, show s.size - j = s.size - (j + 1) + 1 from by omega]
        exact hown2
      case measure => simp [intOf]
    · obtain rfl : k = 0 := by omega
      rw [List.drop_zero] at hown
      have ks := own_string (P := Try.prog) (t := 94) (ty := 9) Try.underlying94 Try.underlying5 Try.underlying9 hown
      go_wp2_with fail
      go_ret
      exact ⟨rfl, hb⟩
end Go.Proofs.Ytigfoophimjgdaa
namespace Go.Proofs.Ytigfoophimjgdaa
set_option maxRecDepth 20000
set_option linter.unusedSimpArgs false
set_option linter.unusedVariables false
open Go.RowKit
theorem byW_eq (m : Nat) : (putR (m : Int) 8).reverse = (List.range 8).map fun j => UInt8.ofNat (m / 256 ^ j % 256) := by
  have h : ∀ k, ofI (dk (m : Int) k % 256) = UInt8.ofNat (m / 256 ^ k % 256) := fun k => by
    unfold ofI dk
    rw [← Int.natCast_ediv]
    congr 1
  simp only [putR, h]
  rfl
theorem byte_wd (n i j : Nat) (hj : j < 8) : wd n i / 256 ^ j % 256 = n / 256 ^ (8 * i + j) % 256 := by
  have h := wd_byte n (8 * i + j)
  rw [show (8 * i + j) / 8 = i by omega, show (8 * i + j) % 8 = j by omega, Nat.pow_mul] at h
  exact h
theorem byW_wd (n i : Nat) : (putR (wd n i : Int) 8).reverse = (List.range 8).map fun j => UInt8.ofNat (n / 256 ^ (8 * i + j) % 256) := by
  rw [byW_eq]
  refine List.map_congr_left fun j hj => ?_
  rw [byte_wd n i j (List.mem_range.1 hj)]
theorem byL_parts (n : Nat) : (List.range 4).flatMap (fun i => (putR (wd n i : Int) 8).reverse) = byL n := by
  simp only [byW_wd]
  rfl
set_option maxHeartbeats 1000000 in
theorem rbytes_any (n : Nat) (w : World) :
    Calls Try.prog 58 #[numV n] w fun e w' => e = .returned (.string ⟨(byL n).toArray⟩) ∧ Below w.heap.size w w' := by
  rw [show numV n = .agg #[.int .u64 (wd n 0 : Int), .int .u64 (wd n 1 : Int), .int .u64 (wd n 2 : Int), .int .u64 (wd n 3 : Int)] from rfl]
  have x0 : (w.alloc (.cells (numL n).toArray 24)).heap[w.heap.size]? = some (.cells (numL n).toArray 24 (0, 0)) := alloc_new _ _
  have xb : Below w.heap.size w (w.alloc (.cells (numL n).toArray 24)) := gr_alloc (Below.refl _ _) _
  go_enter Try.func58, Try.ntmps58
  go_wp2_with fail
  change Code.wp _ _ _ _ (w.alloc (.cells (numL n).toArray 24))
  generalize w.alloc (.cells (numL n).toArray 24) = X at *
  go_loopw [3, 4] (fun s i wr => ∃ k : Nat, k ≤ 4 ∧ i = .int .i64 (k : Int) ∧ s = .string ⟨((List.range k).flatMap (fun i => (putR (wd n i : Int) 8).reverse)).toArray⟩ ∧ wr.heap[w.heap.size]? = some (.cells (numL n).toArray 24 (0, 0)) ∧ Below w.heap.size w wr) (fun _ i _ => 4 - (intOf i).toNat)
  case atStart => exact ⟨0, by omega, rfl, rfl, x0, xb⟩
  case round =>
    clear x0 xb
    obtain ⟨k, hk, rfl, rfl, y0, hb⟩ := hrel
    by_cases hlt : k < 4
    · have k1 : (k : Int) < 4 := by omega
      have c0 := (arr_get y0 (numL_get n k hlt)).1
      have KP : Hid (∀ w, Calls Try.prog 94 #[.int .u64 (wd n k : Int), .int .i64 8] w fun e w' => e = .returned (.string ⟨(putR (wd n k : Int) 8).toArray⟩) ∧ Below w.heap.size w w') := fun w => rput_any (wd n k : Int) 8 w (by omega) (by have := wd_lt n k; omega) (by omega)
      have KT := Lib.hid (fun w => rturn_any ⟨(putR (wd n k : Int) 8).toArray⟩ w (by show (putR _ 8).toArray.size ≤ _; simp [putR_length]))
      have HS := Lib.hid (show (List.range (k + 1)).flatMap (fun i => (putR (wd n i : Int) 8).reverse) = (List.range k).flatMap (fun i => (putR (wd n i : Int) 8).reverse) ++ (putR (wd n k : Int) 8).reverse from by rw [List.range_succ, List.flatMap_append]; simp)
      have HY := Lib.hid y0
      clear y0
      have hlen : ((List.range k).flatMap (fun i => (putR (wd n i : Int) 8).reverse)).length ≤ 32 := by
        have : k = 0 ∨ k = 1 ∨ k = 2 ∨ k = 3 := by omega
        rcases this with rfl | rfl | rfl | rfl <;> simp [List.range_succ, putR_length]
      have hlen2 : (putR (wd n k : Int) 8).length ≤ 8 := by rw [putR_length]; exact Nat.le_refl _
      generalize hL : (List.range k).flatMap (fun i => (putR (wd n i : Int) 8).reverse) = L at *
      generalize hP : putR (wd n k : Int) 8 = P at *
      clear hL hP
      have hlen3 : ¬ 9223372036854775807 < L.length + P.length := by omega
      clear hlen hlen2
      generalize (wd n k : Int) = x at *
      go_wp2_with fail
      refine (KP.out _).mono ?_
      rintro e w1 ⟨rfl, hb1⟩
      go_wp2_with fail
      refine (KT.out _).mono ?_
      rintro e w2 ⟨rfl, hb2⟩
      have hb3 := hb.trans ((gr_step hb1 hb2).mono hb.size)
      have hlt0 : w.heap.size < wr.heap.size := lt_blk HY.out
      have HY2 := Lib.hid (((gr_step hb1 hb2).block w.heap.size hlt0).trans HY.out)
      clear hb1 hb2
      go_wp2_with fail
      go_roundw
      case rel =>
        refine ⟨k + 1, by omega, by go_num, ?_, HY2.out, hb3⟩
        rw [HS.out]
        refine congrArg Value.string ?_
        apply ByteArray.ext
        simp
      case measure => simp [intOf]; omega
    · obtain rfl : k = 4 := by omega
      rw [byL_parts]
      go_wp2_with fail
      go_ret
      exact ⟨rfl, hb⟩
end Go.Proofs.Ytigfoophimjgdaa
namespace Go.Proofs.Ytigfoophimjgdaa
set_option maxRecDepth 20000
set_option linter.unusedSimpArgs false
set_option linter.unusedVariables false
open Go.RowKit
theorem leN_B (s : ByteArray) (hs : s.size = 32) : leN s.data.toList < B64 ^ 4 := by
  have h := leN_lt s.data.toList
  rw [show s.data.toList.length = 32 by rw [← hs]; rfl, show (256 : Nat) ^ 32 = B64 ^ 4 by decide +kernel] at h
  exact h
set_option maxHeartbeats 4000000 in
theorem pof_short (s : ByteArray) (w : World) (hs : s.size ≠ 32) : Calls Try.prog 54 #[.string s] w fun e w' => e = .returned (.tuple #[numV 0, .int .i64 1]) ∧ Below w.heap.size w w' := by
  have K1 := Lib.hid (fun w => of_short s w hs)
  obtain ⟨xr, xz, xB⟩ := z1_at 27 w
  rw [num_zero] at K1 ⊢
  clear hs
  go_enter Try.func54, Try.ntmps54
  go_wp2_with fail
  change Calls _ _ _ (Z1 27 w) _
  generalize Z1 27 w = X at *
  refine (K1.out X).mono ?_
  rintro e w1 ⟨rfl, hb1⟩
  have xr2 := isA_zero' ((xr.keep hb1).alloc (.cells #[.int .u64 0, .int .u64 0, .int .u64 0, .int .u64 0] 25))
  obtain ⟨⟨d0, d1, d2, d3⟩, e0, e1, e2, e3⟩ := fourV xr2
  have kl := load_el (isA_zero (set4_row (v0 := .int .u64 0) (v1 := .int .u64 0) (v2 := .int .u64 0) (v3 := .int .u64 0) xr2))
  rw [num_zero] at kl
  have KL := Lib.hid kl
  have BR := Lib.hid (b_set4 (b_alloc (b_callsS hb1 xB (Nat.le_refl _)) (.cells #[.int .u64 0, .int .u64 0, .int .u64 0, .int .u64 0] 25)) (v0 := .int .u64 0) (v1 := .int .u64 0) (v2 := .int .u64 0) (v3 := .int .u64 0) (b := w.heap.size) (Nat.le_refl _))
  clear kl xr2 xr xB hb1
  go_wp2_with fail
  exact bodyPost_ret (results_arr_tmp Try.results54 (by rfl) (by rfl) KL.out) rfl ⟨rfl, BR.out⟩
set_option maxHeartbeats 8000000 in
theorem pof_any (s : ByteArray) (w : World) (hs : s.size = 32) : Calls Try.prog 54 #[.string s] w fun e w' => e = .returned (.tuple (if leN s.data.toList < PN then #[numV (leN s.data.toList), .int .i64 0] else #[numV 0, .int .i64 2])) ∧ Below w.heap.size w w' := by
  have HMIX := Lib.hid (show Try.prog.follows .mixedOrders = true by kernel_rfl)
  have hnB := leN_B s hs
  have K1 := Lib.hid (fun w => of_any s w hs)
  obtain ⟨n, hn⟩ : ∃ n, leN s.data.toList = n := ⟨_, rfl⟩
  rw [hn] at K1 hnB
  rw [hn]
  have K2 := Lib.hid p_any
  have K3 := Lib.hid (fun w => cmp_any n PN w hnB PN_B)
  have cge := mod_cmp_ge n
  have clt := mod_cmp_lt n
  obtain ⟨C, hC⟩ : ∃ C, cmpI n PN = C := ⟨_, rfl⟩
  rw [hC] at K3 cge clt
  obtain ⟨p, hp⟩ : ∃ p, PN = p := ⟨_, rfl⟩
  rw [hp] at K2 K3 cge clt ⊢
  obtain ⟨xr, xz, xB⟩ := z1_at 27 w
  rw [num_zero]
  simp only [numV_agg] at K1 K2 K3 ⊢
  have hc1 : p ≤ n → (0 : Int) ≤ C := cge
  have hc2 : n < p → ¬ (0 : Int) ≤ C := clt
  clear hs hn hnB hC hp cge clt
  by_cases hlt : n < p
  · have q1 := hc2 hlt
    rw [if_pos hlt]
    clear hc1 hc2 hlt
    go_enter Try.func54, Try.ntmps54
    go_wp2_with fail
    change Calls _ _ _ (Z1 27 w) _
    generalize Z1 27 w = X at *
    refine (K1.out X).mono ?_
    rintro e w1 ⟨rfl, hb1⟩
    have hs1 : w.heap.size + 1 ≤ w1.heap.size := by have := hb1.size; omega
    have XR := Lib.hid ((xr.keep hb1).alloc (.cells #[.int .u64 (wd n 0 : Int), .int .u64 (wd n 1 : Int), .int .u64 (wd n 2 : Int), .int .u64 (wd n 3 : Int)] 25))
    have XB := Lib.hid (b_alloc (b_callsS hb1 xB (Nat.le_refl _)) (.cells #[.int .u64 (wd n 0 : Int), .int .u64 (wd n 1 : Int), .int .u64 (wd n 2 : Int), .int .u64 (wd n 3 : Int)] 25))
    have XA : Hid (IsA (w1.alloc (.cells #[.int .u64 (wd n 0 : Int), .int .u64 (wd n 1 : Int), .int .u64 (wd n 2 : Int), .int .u64 (wd n 3 : Int)] 25)) w1.heap.size n 25) := (alloc_new w1 _ :)
    clear xr xz xB hb1 K1
    obtain ⟨⟨p0, p1, p2, p3⟩, _⟩ := fourV XA.out
    have D0 := fun d os => cell_regrown p0 d os
    have D1 := fun d os => cell_regrown p1 d os
    have D2 := fun d os => cell_regrown p2 d os
    have D3 := fun d os => cell_regrown p3 d os
    clear p0 p1 p2 p3
    go_wp2_with fail
    generalize w1.alloc (.cells #[.int .u64 (wd n 0 : Int), .int .u64 (wd n 1 : Int), .int .u64 (wd n 2 : Int), .int .u64 (wd n 3 : Int)] 25) = Y at *
    refine wp_region_quiet_below HMIX.out (by kernel_rfl) ?_
    repeat (go_big_quiet_step (first
      | (go_at_call 91; exact Calls.regrown_of (K2.out _))
      | (go_at_call 90; exact Calls.regrown_of (K3.out _))))
    refine wpQuiet_nil ?_
    intro _ hw'
    obtain ⟨⟨nq1, os1⟩, hw''⟩ := hw'
    subst hw''
    have xa := isA_calls (below_regrown Y nq1 os1) XA.out (Nat.le_refl _)
    have xr := isA_zero' (isA_calls (below_regrown Y nq1 os1) XR.out (Nat.le_refl _))
    have xB := b_callsS (below_regrown Y nq1 os1) XB.out (Nat.le_refl _)
    clear D0 D1 D2 D3 XA XR XB K2 K3
    generalize Sort.grow (redrawn Y nq1) os1 = U2 at xa xr xB ⊢
    obtain ⟨⟨p0, p1, p2, p3⟩, _⟩ := fourV xa
    obtain ⟨⟨d0, d1, d2, d3⟩, e0, e1, e2, e3⟩ := fourV xr
    have KL := Lib.hid (load_el (isA_set (n := n) xr))
    have BR := Lib.hid (b_set4 xB (v0 := .int .u64 (wd n 0 : Int)) (v1 := .int .u64 (wd n 1 : Int)) (v2 := .int .u64 (wd n 2 : Int)) (v3 := .int .u64 (wd n 3 : Int)) (b := w.heap.size) (Nat.le_refl _))
    clear xa xr xB
    go_wp2_with fail
    exact bodyPost_ret (results_arr_tmp Try.results54 (by rfl) (by rfl) KL.out) rfl ⟨rfl, BR.out⟩
  · have q1 := hc1 (Nat.le_of_not_lt hlt)
    rw [if_neg hlt]
    clear hc1 hc2 hlt
    go_enter Try.func54, Try.ntmps54
    go_wp2_with fail
    change Calls _ _ _ (Z1 27 w) _
    generalize Z1 27 w = X at *
    refine (K1.out X).mono ?_
    rintro e w1 ⟨rfl, hb1⟩
    have hs1 : w.heap.size + 1 ≤ w1.heap.size := by have := hb1.size; omega
    have XR := Lib.hid ((xr.keep hb1).alloc (.cells #[.int .u64 (wd n 0 : Int), .int .u64 (wd n 1 : Int), .int .u64 (wd n 2 : Int), .int .u64 (wd n 3 : Int)] 25))
    have XB := Lib.hid (b_alloc (b_callsS hb1 xB (Nat.le_refl _)) (.cells #[.int .u64 (wd n 0 : Int), .int .u64 (wd n 1 : Int), .int .u64 (wd n 2 : Int), .int .u64 (wd n 3 : Int)] 25))
    have XA : Hid (IsA (w1.alloc (.cells #[.int .u64 (wd n 0 : Int), .int .u64 (wd n 1 : Int), .int .u64 (wd n 2 : Int), .int .u64 (wd n 3 : Int)] 25)) w1.heap.size n 25) := (alloc_new w1 _ :)
    clear xr xz xB hb1 K1
    obtain ⟨⟨p0, p1, p2, p3⟩, _⟩ := fourV XA.out
    have D0 := fun d os => cell_regrown p0 d os
    have D1 := fun d os => cell_regrown p1 d os
    have D2 := fun d os => cell_regrown p2 d os
    have D3 := fun d os => cell_regrown p3 d os
    clear p0 p1 p2 p3
    go_wp2_with fail
    generalize w1.alloc (.cells #[.int .u64 (wd n 0 : Int), .int .u64 (wd n 1 : Int), .int .u64 (wd n 2 : Int), .int .u64 (wd n 3 : Int)] 25) = Y at *
    refine wp_region_quiet_below HMIX.out (by kernel_rfl) ?_
    repeat (go_big_quiet_step (first
      | (go_at_call 91; exact Calls.regrown_of (K2.out _))
      | (go_at_call 90; exact Calls.regrown_of (K3.out _))))
    refine wpQuiet_nil ?_
    intro _ hw'
    obtain ⟨⟨nq1, os1⟩, hw''⟩ := hw'
    subst hw''
    have xr := isA_zero' (isA_calls (below_regrown Y nq1 os1) XR.out (Nat.le_refl _))
    have xB := b_callsS (below_regrown Y nq1 os1) XB.out (Nat.le_refl _)
    clear D0 D1 D2 D3 XA XR XB K2 K3
    generalize Sort.grow (redrawn Y nq1) os1 = U2 at xr xB ⊢
    obtain ⟨⟨d0, d1, d2, d3⟩, e0, e1, e2, e3⟩ := fourV xr
    have kl := load_el (isA_zero (set4_row (v0 := .int .u64 0) (v1 := .int .u64 0) (v2 := .int .u64 0) (v3 := .int .u64 0) xr))
    rw [num_zero] at kl
    have KL := Lib.hid kl
    have BR := Lib.hid (b_set4 xB (v0 := .int .u64 0) (v1 := .int .u64 0) (v2 := .int .u64 0) (v3 := .int .u64 0) (b := w.heap.size) (Nat.le_refl _))
    clear xr xB kl
    go_wp2_with fail
    exact bodyPost_ret (results_arr_tmp Try.results54 (by rfl) (by rfl) KL.out) rfl ⟨rfl, BR.out⟩
end Go.Proofs.Ytigfoophimjgdaa
namespace Go.Proofs.Ytigfoophimjgdaa
set_option maxRecDepth 20000
set_option linter.unusedSimpArgs false
set_option linter.unusedVariables false
open Go.RowKit Go.Sort
section
variable {P : Program} {ops : Array Oper} {w : World} {Q : Exit → Act → World → Prop} {o : Oper} {rest : List Oper} {A : Act}
theorem wl_defer {d : Deferred} (h : ∀ W, (execOp A.eval o).run P W = .ok (.defer d) W) (hd : o.dst = none) (hgd : Region.wanted o (yielded ops A.tmps) = true) (hr : wpList P ops Q rest { tmps := A.tmps, defers := d :: A.defers } w) : wpList P ops Q (o :: rest) A w := by
  refine wpList_step fun K hK => ?_
  rw [if_pos hgd]
  unfold Oper.wp
  rw [h]
  refine hK _ _ ?_
  rw [hd]
  exact hr
theorem run_defer_of {x : Operand} {fn : Fn} {first cap : Array Value} (W : World) (ho : o.op = .defer { callee := .value x, args := #[], argTypes := #[] }) (hx : A.eval x = .func fn first cap) : (execOp A.eval o).run P W = .ok (.defer { target := .fn fn cap, args := first }) W := by
  unfold execOp
  simp [ho, resolve, hx, Deferred.ofValue]
end
end Go.Proofs.Ytigfoophimjgdaa
namespace Go.Proofs.Ytigfoophimjgdaa
set_option maxRecDepth 20000
set_option linter.unusedSimpArgs false
set_option linter.unusedVariables false
open Go.RowKit Go.Sort
theorem cellErr : CellTy Try.prog 40 := ⟨⟨_, Try.underlying40, rfl⟩, by kernel_rfl⟩
theorem al_Err (W : World) : (Instr.alloc 40 true (.tuple #[])).run Try.prog W = .ok (.pointer (some ⟨W.heap.size, 0, none⟩)) (W.alloc (.cells #[.int .i64 0] 40 (0, 0))) := by
  go_simp
theorem al_Wn (W : World) : (Instr.alloc 25 true (.tuple #[])).run Try.prog W = .ok (.pointer (some ⟨W.heap.size, 0, none⟩)) (W.alloc (.cells z4 25 (0, 0))) := by
  unfold z4
  go_simp
theorem bin_neq_err (a : Nat) (x y : Operand) (W : World) : (do eqGuard .neq 40 x y (.int .i64 (a : Int)) (.int .i64 0); binOp .neq 40 (.int .i64 (a : Int)) (.int .i64 0) : Sem Value).run Try.prog W = .ok (.bool (!decide (a = 0))) W := by
  have e : ((a : Int) == 0) = decide (a = 0) := by
    rw [Bool.eq_iff_iff]
    simp
  go_simp
  rw [bne, e]
/-- The highest bit struck. -/
theorem num_low (n : Nat) : (elR n).setIfInBounds 3 (.int .u64 ((wd n 3 % 9223372036854775808 : Nat) : Int)) = elR (n % (9223372036854775808 * B64 ^ 3)) := by
  have e0 : wd (n % (9223372036854775808 * B64 ^ 3)) 0 = wd n 0 := by
    unfold wd
    rw [Nat.pow_zero, Nat.div_one, Nat.div_one, show 9223372036854775808 * B64 ^ 3 = B64 * (9223372036854775808 * B64 ^ 2) by decide +kernel, Nat.mod_mul_right_mod]
  have e1 : wd (n % (9223372036854775808 * B64 ^ 3)) 1 = wd n 1 := by
    unfold wd
    rw [show 9223372036854775808 * B64 ^ 3 = B64 ^ 1 * (B64 * (9223372036854775808 * B64)) by decide +kernel, Nat.mod_mul_right_div_self, Nat.mod_mul_right_mod]
  have e2 : wd (n % (9223372036854775808 * B64 ^ 3)) 2 = wd n 2 := by
    unfold wd
    rw [show 9223372036854775808 * B64 ^ 3 = B64 ^ 2 * (B64 * 9223372036854775808) by decide +kernel, Nat.mod_mul_right_div_self, Nat.mod_mul_right_mod]
  have e3 : wd (n % (9223372036854775808 * B64 ^ 3)) 3 = wd n 3 % 9223372036854775808 := by
    unfold wd
    rw [show 9223372036854775808 * B64 ^ 3 = B64 ^ 3 * 9223372036854775808 by decide +kernel, Nat.mod_mul_right_div_self]
    obtain ⟨q, hq⟩ : ∃ q, n / B64 ^ 3 = q := ⟨_, rfl⟩
    rw [hq]
    rw [show B64 = 18446744073709551616 from rfl]
    omega
  unfold elR
  rw [e0, e1, e2, e3]
  rfl
theorem dec1_any (w0 w : World) (M : List Blk) (i j be bp e : Nat) (old : Array Value) (hM : Mem w0 M w) (hi : M[i]? = some (be, .cells #[.int .i64 (e : Int)] 40 (0, 0))) (hj : M[j]? = some (bp, .cells old 30 (0, 0))) (ho : old.size = 16) :
    CallsD Try.prog 51 #[.pointer (some ⟨be, 0, none⟩), .pointer (some ⟨bp, 0, none⟩)] .returning w fun E u w' => u = .returning ∧ (E = .returned (.tuple #[]) ∧ Mem w0 (if e = 0 then M else M.set j (bp, .cells (pc4 zero4) 30 (0, 0))) w') := by
  by_cases h0 : e = 0
  · rw [if_pos h0]
    have KB := fun x y W => bin_neq_err e x y W
    rw [decide_eq_true h0] at KB
    go_enter_d Try.func51, Try.ntmps51
    (first | (refine wp_region_lit ?_) | (go_step; (first | (refine wp_region_lit ?_) | (go_step; (first | (refine wp_region_lit ?_) | (go_step; (first | (refine wp_region_lit ?_) | (go_step; (first | (refine wp_region_lit ?_) | (go_step; (first | (refine wp_region_lit ?_) | (go_step; (first | (refine wp_region_lit ?_) | (go_step; (refine wp_region_lit ?_)))))))))))))))
    refine wl_cell hM i (v := .int .i64 (e : Int)) rfl rfl hi rfl cellErr rfl ?_
    simp only [Act.put, List.setIfInBounds_toArray, List.set_cons_zero, List.set_cons_succ]
    refine wl_pure (v := .bool false) (fun W => run_bin_of rfl rfl rfl (KB _ _ W)) rfl ?_
    simp only [Act.put, List.setIfInBounds_toArray, List.set_cons_zero, List.set_cons_succ]
    refine wpList_nil ?_
    (first | (refine bodyPost_end (v := .tuple #[]) (results_none Try.results51 _ _ _) rfl ⟨rfl, hM⟩) | (go_step; (first | (refine bodyPost_end (v := .tuple #[]) (results_none Try.results51 _ _ _) rfl ⟨rfl, hM⟩) | (go_step; (first | (refine bodyPost_end (v := .tuple #[]) (results_none Try.results51 _ _ _) rfl ⟨rfl, hM⟩) | (go_step; (first | (refine bodyPost_end (v := .tuple #[]) (results_none Try.results51 _ _ _) rfl ⟨rfl, hM⟩) | (go_step; (first | (refine bodyPost_end (v := .tuple #[]) (results_none Try.results51 _ _ _) rfl ⟨rfl, hM⟩) | (go_step; (first | (refine bodyPost_end (v := .tuple #[]) (results_none Try.results51 _ _ _) rfl ⟨rfl, hM⟩) | (go_step; (first | (refine bodyPost_end (v := .tuple #[]) (results_none Try.results51 _ _ _) rfl ⟨rfl, hM⟩) | (go_step; (refine bodyPost_end (v := .tuple #[]) (results_none Try.results51 _ _ _) rfl ⟨rfl, hM⟩)))))))))))))))
  · rw [if_neg h0]
    have KB := fun x y W => bin_neq_err e x y W
    rw [decide_eq_false h0] at KB
    go_enter_d Try.func51, Try.ntmps51
    (first | (refine wp_region_lit ?_) | (go_step; (first | (refine wp_region_lit ?_) | (go_step; (first | (refine wp_region_lit ?_) | (go_step; (first | (refine wp_region_lit ?_) | (go_step; (first | (refine wp_region_lit ?_) | (go_step; (first | (refine wp_region_lit ?_) | (go_step; (first | (refine wp_region_lit ?_) | (go_step; (refine wp_region_lit ?_)))))))))))))))
    refine wl_cell hM i (v := .int .i64 (e : Int)) rfl rfl hi rfl cellErr rfl ?_
    simp only [Act.put, List.setIfInBounds_toArray, List.set_cons_zero, List.set_cons_succ]
    refine wl_pure (v := .bool true) (fun W => run_bin_of rfl rfl rfl (KB _ _ W)) rfl ?_
    simp only [Act.put, List.setIfInBounds_toArray, List.set_cons_zero, List.set_cons_succ]
    refine wpList_nil ?_
    (first | (refine wp_region_lit ?_) | (go_step; (first | (refine wp_region_lit ?_) | (go_step; (first | (refine wp_region_lit ?_) | (go_step; (first | (refine wp_region_lit ?_) | (go_step; (first | (refine wp_region_lit ?_) | (go_step; (first | (refine wp_region_lit ?_) | (go_step; (first | (refine wp_region_lit ?_) | (go_step; (refine wp_region_lit ?_)))))))))))))))
    refine wl_call hM (args := #[]) (v := pv4 zero4) (fun W => run_call_fn W (enters_of Try.func40 rfl rfl) rfl (by simp)) (zero4_any w) rfl fun W1 hM1 => ?_
    simp only [Act.put, List.setIfInBounds_toArray, List.set_cons_zero, List.set_cons_succ]
    refine wl_set hM1 j (cs := pc4 zero4) rfl rfl rfl hj rowPt ho (one_p4 _) rfl rfl fun W2 hM2 => ?_
    refine wpList_nil ?_
    (first | (refine bodyPost_end (v := .tuple #[]) (results_none Try.results51 _ _ _) rfl ⟨rfl, hM2⟩) | (go_step; (first | (refine bodyPost_end (v := .tuple #[]) (results_none Try.results51 _ _ _) rfl ⟨rfl, hM2⟩) | (go_step; (first | (refine bodyPost_end (v := .tuple #[]) (results_none Try.results51 _ _ _) rfl ⟨rfl, hM2⟩) | (go_step; (first | (refine bodyPost_end (v := .tuple #[]) (results_none Try.results51 _ _ _) rfl ⟨rfl, hM2⟩) | (go_step; (first | (refine bodyPost_end (v := .tuple #[]) (results_none Try.results51 _ _ _) rfl ⟨rfl, hM2⟩) | (go_step; (first | (refine bodyPost_end (v := .tuple #[]) (results_none Try.results51 _ _ _) rfl ⟨rfl, hM2⟩) | (go_step; (first | (refine bodyPost_end (v := .tuple #[]) (results_none Try.results51 _ _ _) rfl ⟨rfl, hM2⟩) | (go_step; (refine bodyPost_end (v := .tuple #[]) (results_none Try.results51 _ _ _) rfl ⟨rfl, hM2⟩)))))))))))))))
end Go.Proofs.Ytigfoophimjgdaa
namespace Go.Proofs.Ytigfoophimjgdaa
set_option maxRecDepth 20000
set_option linter.unusedSimpArgs false
set_option linter.unusedVariables false
open Go.RowKit
theorem add_open (a b : Nat) (w : World) (ha : a < B64 ^ 4) (hb : b < B64 ^ 4) :
    Calls Try.prog 68 #[.agg #[.int .u64 (wd a 0 : Int), .int .u64 (wd a 1 : Int), .int .u64 (wd a 2 : Int), .int .u64 (wd a 3 : Int)], .agg #[.int .u64 (wd b 0 : Int), .int .u64 (wd b 1 : Int), .int .u64 (wd b 2 : Int), .int .u64 (wd b 3 : Int)]] w fun e w' => e = .returned (.tuple #[.agg #[.int .u64 (wd (addN a b) 0 : Int), .int .u64 (wd (addN a b) 1 : Int), .int .u64 (wd (addN a b) 2 : Int), .int .u64 (wd (addN a b) 3 : Int)], .int .u64 (addK a b : Int)]) ∧ Below w.heap.size w w' := add_any a b w ha hb
theorem sub_open (a b : Nat) (w : World) (ha : a < B64 ^ 4) (hb : b < B64 ^ 4) :
    Calls Try.prog 106 #[.agg #[.int .u64 (wd a 0 : Int), .int .u64 (wd a 1 : Int), .int .u64 (wd a 2 : Int), .int .u64 (wd a 3 : Int)], .agg #[.int .u64 (wd b 0 : Int), .int .u64 (wd b 1 : Int), .int .u64 (wd b 2 : Int), .int .u64 (wd b 3 : Int)]] w fun e w' => e = .returned (.tuple #[.agg #[.int .u64 (wd (subN a b) 0 : Int), .int .u64 (wd (subN a b) 1 : Int), .int .u64 (wd (subN a b) 2 : Int), .int .u64 (wd (subN a b) 3 : Int)], .int .u64 (subK a b : Int)]) ∧ Below w.heap.size w w' := sub_any a b w ha hb
/-- The rest behind one bit more, as the closure reckons it. -/
theorem take_num (r m b : Nat) (hr : r < m) (hm : m < B64 ^ 4) (hb : b < 2) :
    addN r r + b < B64 ^ 4 ∧ wd (addN r r + b) 0 = wd (addN r r) 0 + b ∧ (∀ k, 1 ≤ k → wd (addN r r + b) k = wd (addN r r) k) ∧ wd (addN r r) 0 % 2 = 0 ∧ wd (addN r r) 0 + b < 18446744073709551616 ∧
    (addK r r = 1 ∨ addK r r = 0 ∧ subK (addN r r + b) m = 0 → subN (addN r r + b) m = (2 * r + b) % m) ∧ (addK r r = 0 ∧ subK (addN r r + b) m = 1 → addN r r + b = (2 * r + b) % m) ∧ addK r r ≤ 1 ∧ subK (addN r r + b) m ≤ 1 := by
  have hT : B64 ^ 4 = B64 * B64 ^ 3 := by rw [Nat.pow_succ, Nat.mul_comm]
  have hTe : ∃ t, B64 ^ 4 = 2 * t := ⟨9223372036854775808 * B64 ^ 3, by rw [hT, ← Nat.mul_assoc]; rfl⟩
  obtain ⟨t, ht⟩ := hTe
  have hk : addK r r = 0 ∧ addN r r = 2 * r ∨ addK r r = 1 ∧ addN r r + B64 ^ 4 = 2 * r := by
    unfold addK addN
    by_cases h : r + r < B64 ^ 4
    · left; rw [Nat.div_eq_of_lt h, Nat.mod_eq_of_lt h]; omega
    · right
      have h1 : r + r < B64 ^ 4 + B64 ^ 4 := by omega
      rw [Nat.mod_eq_sub_mod (by omega), Nat.mod_eq_of_lt (by omega), Nat.div_eq_sub_div (Nat.pow_pos B64_pos) (by omega), Nat.div_eq_of_lt (by omega)]
      omega
  have hev : addN r r % 2 = 0 := by rcases hk with ⟨_, h⟩ | ⟨_, h⟩ <;> omega
  have hlt : addN r r < B64 ^ 4 := Nat.mod_lt _ (Nat.pow_pos B64_pos)
  have hlt2 : addN r r + b < B64 ^ 4 := by omega
  have hw0 : wd (addN r r) 0 % 2 = 0 := by rw [wd_zero]; unfold B64; omega
  have hw1 : wd (addN r r) 0 < 18446744073709551616 := wd_lt _ _
  have hd : (addN r r + b) / B64 = addN r r / B64 := by unfold B64; omega
  have hm0 : wd (addN r r + b) 0 = wd (addN r r) 0 + b := by rw [wd_zero, wd_zero]; unfold B64; omega
  refine ⟨hlt2, hm0, fun k hk => ?_, hw0, by omega, ?_, ?_, ?_, ?_⟩
  · obtain ⟨j, rfl⟩ : ∃ j, k = j + 1 := ⟨k - 1, by omega⟩
    rw [wd_succ, wd_succ, hd]
  · intro h
    unfold subK at h
    unfold subN
    rcases hk with ⟨h1, h2⟩ | ⟨h1, h2⟩
    · rw [h1] at h
      have h3 : ¬ addN r r + b < m := by
        rcases h with h | ⟨_, h⟩
        · omega
        · intro h4; rw [if_pos h4] at h; omega
      rw [if_neg h3, h2, Nat.mod_eq_sub_mod (by omega), Nat.mod_eq_of_lt (by omega)]
    · have h3 : addN r r + b < m := by omega
      rw [if_pos h3, Nat.mod_eq_sub_mod (by omega), Nat.mod_eq_of_lt (by omega)]
      omega
  · rintro ⟨h1, h2⟩
    unfold subK at h2
    have h3 : addN r r + b < m := by
      by_cases h4 : addN r r + b < m
      · exact h4
      · rw [if_neg h4] at h2; omega
    rcases hk with ⟨_, h5⟩ | ⟨h5, _⟩
    · rw [Nat.mod_eq_of_lt (by omega)]; omega
    · omega
  · rcases hk with ⟨h, _⟩ | ⟨h, _⟩ <;> omega
  · unfold subK; split <;> omega
theorem or_low (x b : Nat) (hx : x % 2 = 0) (hb : b < 2) (hl : x < 18446744073709551616) : bits .or .u64 (x : Int) (b : Int) = ((x + b : Nat) : Int) := by
  rw [bits_or_u64_nat _ _ (by omega) (by omega)]
  have h3 := Nat.shiftLeft_add_eq_or_of_lt (i := 1) (b := b) (by omega) (x / 2)
  rw [Nat.shiftLeft_eq, show x / 2 * 2 ^ 1 = x by omega] at h3
  rw [h3]
theorem grown_set (W : World) (b i : Nat) (v : Value) : W.grownBy (W.setCell ⟨b, i, none⟩ v) (some b) :=
  ⟨rfl, rfl, rfl, by show _ ≤ (W.heap.modify _ _).size; rw [Array.size_modify]; exact Nat.le_refl _, fun k _ hk => Below.heap_setCell _ _ _ k (fun e => hk (by rw [e]))⟩
theorem grown_below {w Y : World} (h : Below w.heap.size w Y) (R : Nat) : w.grownBy Y (some R) := ⟨h.os, h.tape, h.output, h.size, fun k hk _ => h.block k hk⟩
def set4 (W : World) (b : Nat) (v0 v1 v2 v3 : Value) : World := (((W.setCell ⟨b, 0, none⟩ v0).setCell ⟨b, 1, none⟩ v1).setCell ⟨b, 2, none⟩ v2).setCell ⟨b, 3, none⟩ v3
theorem set4_grown {w Y : World} {R : Nat} (h : w.grownBy Y (some R)) (v0 v1 v2 v3 : Value) : w.grownBy (set4 Y R v0 v1 v2 v3) (some R) :=
  grown_step (grown_step (grown_step (grown_step h (grown_set _ _ _ _)) (grown_set _ _ _ _)) (grown_set _ _ _ _)) (grown_set _ _ _ _)
theorem set4_num {Y : World} {R x y : Nat} (h : Y.heap[R]? = some (.cells (numL x).toArray 25 (0, 0))) : (set4 Y R (.int .u64 (wd y 0 : Int)) (.int .u64 (wd y 1 : Int)) (.int .u64 (wd y 2 : Int)) (.int .u64 (wd y 3 : Int))).heap[R]? = some (.cells (numL y).toArray 25 (0, 0)) :=
  arr_set (i := 3) (arr_set (i := 2) (arr_set (i := 1) (arr_set (i := 0) h (.int .u64 (wd y 0 : Int))) (.int .u64 (wd y 1 : Int))) (.int .u64 (wd y 2 : Int))) (.int .u64 (wd y 3 : Int))
theorem set4_size (W : World) (b : Nat) (v0 v1 v2 v3 : Value) : (set4 W b v0 v1 v2 v3).heap.size = W.heap.size := by
  have sz : ∀ (W : World) (a : Addr) (v : Value), (W.setCell a v).heap.size = W.heap.size := fun W a v => by show (W.heap.modify _ _).size = _; rw [Array.size_modify]
  unfold set4
  rw [sz, sz, sz, sz]
theorem take_end {w w2 : World} {R r T S : Nat} (o : Obj) (hlR : R < w2.heap.size) (hR : w2.heap[R]? = some (.cells (numL r).toArray 25 (0, 0))) (hw : Below w.heap.size w w2) :
    ((set4 w2 R (.int .u64 (wd T 0 : Int)) (.int .u64 (wd T 1 : Int)) (.int .u64 (wd T 2 : Int)) (.int .u64 (wd T 3 : Int))).alloc o).heap[R]? = some (.cells (numL T).toArray 25 (0, 0)) ∧
    w.grownBy ((set4 w2 R (.int .u64 (wd T 0 : Int)) (.int .u64 (wd T 1 : Int)) (.int .u64 (wd T 2 : Int)) (.int .u64 (wd T 3 : Int))).alloc o) (some R) ∧
    ((set4 (set4 w2 R (.int .u64 (wd T 0 : Int)) (.int .u64 (wd T 1 : Int)) (.int .u64 (wd T 2 : Int)) (.int .u64 (wd T 3 : Int))) R (.int .u64 (wd S 0 : Int)) (.int .u64 (wd S 1 : Int)) (.int .u64 (wd S 2 : Int)) (.int .u64 (wd S 3 : Int))).alloc o).heap[R]? = some (.cells (numL S).toArray 25 (0, 0)) ∧
    w.grownBy ((set4 (set4 w2 R (.int .u64 (wd T 0 : Int)) (.int .u64 (wd T 1 : Int)) (.int .u64 (wd T 2 : Int)) (.int .u64 (wd T 3 : Int))) R (.int .u64 (wd S 0 : Int)) (.int .u64 (wd S 1 : Int)) (.int .u64 (wd S 2 : Int)) (.int .u64 (wd S 3 : Int))).alloc o) (some R) := by
  have h1 := set4_num (y := T) hR
  have h2 := set4_num (y := S) h1
  have g1 := set4_grown (grown_below hw R) (.int .u64 (wd T 0 : Int)) (.int .u64 (wd T 1 : Int)) (.int .u64 (wd T 2 : Int)) (.int .u64 (wd T 3 : Int))
  have g2 := set4_grown g1 (.int .u64 (wd S 0 : Int)) (.int .u64 (wd S 1 : Int)) (.int .u64 (wd S 2 : Int)) (.int .u64 (wd S 3 : Int))
  exact ⟨(alloc_old _ _ _ (by rw [set4_size]; exact hlR)).trans h1, grown_step g1 (World.grownBy_alloc _ _ _), (alloc_old _ _ _ (by rw [set4_size, set4_size]; exact hlR)).trans h2, grown_step g2 (World.grownBy_alloc _ _ _)⟩
set_option maxHeartbeats 8000000 in
theorem take_any (r m b R M : Nat) (w : World) (hr : r < m) (hm : m < B64 ^ 4) (hb : b < 2) (hR : w.heap[R]? = some (.cells (numL r).toArray 25 (0, 0))) (hM : w.heap[M]? = some (.cells (numL m).toArray 25 (0, 0))) :
    Calls Try.prog 105 #[.int .u64 (b : Int), .pointer (some ⟨R, 0, none⟩), .pointer (some ⟨M, 0, none⟩)] w fun e w' => e = .returned (.tuple #[]) ∧ w'.heap[R]? = some (.cells (numL ((2 * r + b) % m)).toArray 25 (0, 0)) ∧ w.grownBy w' (some R) := by
  have hlR : R < w.heap.size := by
    apply Nat.lt_of_not_le
    intro hle
    rw [Array.getElem?_eq_none hle] at hR
    simp at hR
  have hlM : M < w.heap.size := by
    apply Nat.lt_of_not_le
    intro hle
    rw [Array.getElem?_eq_none hle] at hM
    simp at hM
  obtain ⟨n1, n2, n3, n4, n5, n6, n7, n8, n9⟩ := take_num r m b hr hm hb
  have AA := fun w => add_open r r w (by omega) (by omega)
  have SS := fun w => sub_open (addN r r + b) m w n1 hm
  have hor := or_low (wd (addN r r) 0) b n4 hb (wd_lt _ _)
  rw [← n2] at hor
  have e1 := n3 1 (by omega)
  have e2 := n3 2 (by omega)
  have e3 := n3 3 (by omega)
  rw [← e1, ← e2, ← e3] at AA
  have hw0 := wd_lt (addN r r) 0
  have hw1 := wd_lt (addN r r + b) 0
  generalize wd (addN r r) 0 = T0 at AA hor hw0
  generalize hT : addN r r + b = T at AA SS hor n6 n7 n9 hw1
  generalize hK : addK r r = K at AA n6 n7 n8
  generalize hS : subN T m = S at SS n6
  generalize hB : subK T m = Bo at SS n6 n7 n9
  have HA := Lib.hid AA
  have HS := Lib.hid SS
  have H6 := Lib.hid n6
  have H7 := Lib.hid n7
  clear AA SS n1 n2 n3 n4 n5 n6 n7 e1 e2 e3 hT hK hS hB hr hm
  have c0 := (arr_get hR (numL_get r 0 (by omega))).1
  have c1 := (arr_get hR (numL_get r 1 (by omega))).1
  have c2 := (arr_get hR (numL_get r 2 (by omega))).1
  have c3 := (arr_get hR (numL_get r 3 (by omega))).1
  have HR := Lib.hid hR
  have HM := Lib.hid hM
  clear hR hM
  have b1 : (b : Int) < 2 := by omega
  go_enter Try.func105, Try.ntmps105
  go_wp2_with fail
  go_at_call 68
  refine (HA.out w).mono ?_
  rintro e w1 ⟨rfl, hb1⟩
  have hz1 := hb1.size
  have R1 := Lib.hid ((hb1.block R hlR).trans HR.out)
  have hM1 := (hb1.block M hlM).trans HM.out
  have k0 := (arr_get hM1 (numL_get m 0 (by omega))).1
  have k1 := (arr_get hM1 (numL_get m 1 (by omega))).1
  have k2 := (arr_get hM1 (numL_get m 2 (by omega))).1
  have k3 := (arr_get hM1 (numL_get m 3 (by omega))).1
  have lM1 : M < w1.heap.size := by omega
  have HB1 := Lib.hid hb1
  clear HR HM hM1 HA c0 c1 c2 c3 hb1
  go_wp2_with fail
  go_at_call 106
  refine (HS.out _).mono ?_
  rintro e w2 ⟨rfl, hb2⟩
  have hz2 := hb2.size
  rw [alloc_size1] at hz2
  have hT2 := (hb2.block w1.heap.size (by rw [alloc_size1]; omega)).trans (alloc_new w1 (.cells (numL T).toArray 25))
  have hR2 := (hb2.block R (by rw [alloc_size1]; omega)).trans ((alloc_old w1 _ R (by omega)).trans R1.out)
  have j0 := (arr_get hT2 (numL_get T 0 (by omega))).1
  have j1 := (arr_get hT2 (numL_get T 1 (by omega))).1
  have j2 := (arr_get hT2 (numL_get T 2 (by omega))).1
  have j3 := (arr_get hT2 (numL_get T 3 (by omega))).1
  obtain ⟨g0, h0⟩ := arr_get hR2 (numL_get r 0 (by omega))
  obtain ⟨g1, h1⟩ := arr_get hR2 (numL_get r 1 (by omega))
  obtain ⟨g2, h2⟩ := arr_get hR2 (numL_get r 2 (by omega))
  obtain ⟨g3, h3⟩ := arr_get hR2 (numL_get r 3 (by omega))
  have hw2 : Below w.heap.size w w2 := HB1.out.trans (Below.mono ((gr_alloc (Below.refl _ _) _).trans (hb2.mono (by rw [alloc_size1]; omega))) (by omega))
  have HR2 := Lib.hid hR2
  have HW2 := Lib.hid hw2
  have lR2 : R < w2.heap.size := by omega
  have l12 : w1.heap.size < w2.heap.size := by omega
  have nR1 : R ≠ w1.heap.size := by omega
  have nR2 : R ≠ w2.heap.size := by omega
  clear hb2 hT2 hR2 hw2 HB1 R1 k0 k1 k2 k3 HS
  have hcase : K = 1 ∨ (K = 0 ∧ Bo = 0) ∨ (K = 0 ∧ Bo = 1) := by omega
  rcases hcase with rfl | ⟨rfl, rfl⟩ | ⟨rfl, rfl⟩
  · have HV := Lib.hid (H6.out (.inl rfl))
    have HE := Lib.hid (take_end (T := T) (S := S) (.cells #[.int .u64 (wd S 0 : Int), .int .u64 (wd S 1 : Int), .int .u64 (wd S 2 : Int), .int .u64 (wd S 3 : Int)] 25) lR2 HR2.out HW2.out)
    clear H6 H7 HR2 HW2
    go_wp2_with fail
    go_end0
    rw [← HV.out]
    exact ⟨rfl, HE.out.2.2.1, HE.out.2.2.2⟩
  · have HV := Lib.hid (H6.out (.inr ⟨rfl, rfl⟩))
    have HE := Lib.hid (take_end (T := T) (S := S) (.cells #[.int .u64 (wd S 0 : Int), .int .u64 (wd S 1 : Int), .int .u64 (wd S 2 : Int), .int .u64 (wd S 3 : Int)] 25) lR2 HR2.out HW2.out)
    clear H6 H7 HR2 HW2
    go_wp2_with fail
    go_end0
    rw [← HV.out]
    exact ⟨rfl, HE.out.2.2.1, HE.out.2.2.2⟩
  · have HV := Lib.hid (H7.out ⟨rfl, rfl⟩)
    have HE := Lib.hid (take_end (T := T) (S := S) (.cells #[.int .u64 (wd S 0 : Int), .int .u64 (wd S 1 : Int), .int .u64 (wd S 2 : Int), .int .u64 (wd S 3 : Int)] 25) lR2 HR2.out HW2.out)
    clear H6 H7 HR2 HW2
    go_wp2_with fail
    go_end0
    rw [← HV.out]
    exact ⟨rfl, HE.out.1, HE.out.2.1⟩
end Go.Proofs.Ytigfoophimjgdaa
namespace Go.Proofs.Ytigfoophimjgdaa
set_option maxRecDepth 20000
set_option linter.unusedSimpArgs false
set_option linter.unusedVariables false
open Go.RowKit
theorem isZero_any (a : Nat) (w : World) (ha : a < B64 ^ 4) :
    Calls Try.prog 29 #[numV a] w fun e w' => e = .returned (.bool (decide (a = 0))) ∧ Below w.heap.size w w' := by
  have hz : decide (a = 0) = (decide (wd a 0 = 0) && (decide (wd a 1 = 0) && (decide (wd a 2 = 0) && decide (wd a 3 = 0)))) := by
    by_cases h : a = 0
    · subst h; simp [wd]
    · rw [decide_eq_false h]
      symm
      rw [Bool.eq_false_iff]
      intro hh
      simp only [Bool.and_eq_true, decide_eq_true_eq] at hh
      obtain ⟨h0, h1, h2, h3⟩ := hh
      apply h
      have e0 := div_step a 0
      have e1 := div_step a 1
      have e2 := div_step a 2
      have e3 := div_step a 3
      rw [h0] at e0
      rw [h1] at e1
      rw [h2] at e2
      rw [h3, Nat.div_eq_of_lt ha, Nat.zero_mul, Nat.zero_add] at e3
      rw [e3, Nat.zero_mul, Nat.zero_add] at e2
      rw [e2, Nat.zero_mul, Nat.zero_add] at e1
      rw [e1, Nat.zero_mul, Nat.zero_add, Nat.pow_zero, Nat.div_one] at e0
      exact e0
  have HZ := Lib.hid hz
  clear hz
  unfold numV
  generalize wd a 0 = x0 at *
  generalize wd a 1 = x1 at *
  generalize wd a 2 = x2 at *
  generalize wd a 3 = x3 at *
  have kq := fun w => eql_num w (x0 : Int) (x1 : Int) (x2 : Int) (x3 : Int) 0 0 0 0
  go_enter Try.func29, Try.ntmps29
  go_wp2_with fail
  go_ret
  refine ⟨ret_bool ?_, gr_alloc (Below.refl _ _) _⟩
  rw [HZ.out]
  have hb : ∀ x : Nat, ((x : Int) == 0) = decide (x = 0) := fun x => by
    by_cases h : x = 0
    · subst h; rfl
    · have : ¬ (x : Int) = 0 := by omega
      simp [h, this]
  rw [← hb, ← hb, ← hb, ← hb]
end Go.Proofs.Ytigfoophimjgdaa
