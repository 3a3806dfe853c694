/- The reference's Is, Base and Times; the curve's Base, and points that were never made (layer 20): their contracts. The reference's Times (layer 20): its contract. The curve's points by four numbers (x, y, z, x y / z): sums, twice one, which are the same. No program in it. The curve's points as four numbers, and which points they are (layer 20). -/
import Derived.LoopN
import Derived.Deep.LoopGhost
import Derived.Test.YtigfoophimjgdaaM17
import Derived.Test.YtigfoophimjgdaaM01
import Derived.Test.YtigfoophimjgdaaM09
namespace Go.Proofs.Ytigfoophimjgdaa
set_option maxRecDepth 20000
set_option linter.unusedSimpArgs false
set_option linter.unusedVariables false
open Go.RowKit Go.Sort
def isB (X Y : Nat) : Bool := decide ((Y * Y % PN + PN - X * X % PN) % PN = (1 + dN * (X * X % PN * (Y * Y % PN) % PN) % PN) % PN)
theorem i5_is : IV 5 = 11579208923731619542357098500868790785326998466564056403945758400791312963990 := IV_pm 5 _ (by decide +kernel)
theorem y_is : 4 * IV 5 % PN = bY := by
  rw [i5_is]
  decide +kernel
def sBase : Nat := 26187595835145689230469591415084376402084551887632582719101735842039498021991
theorem sqR_of (Y u c r : Nat) (h1 : (dN * (Y * Y % PN) % PN + 1) % PN = u) (h2 : IV u = c) (h3 : (Y * Y % PN + PN - 1) % PN * c % PN = r) : sqR Y = r := by
  unfold sqR
  rw [h1, h2, h3]
theorem sqR_bY : sqR bY = sBase := sqR_of bY 35320460721920060721965471946471712506633951349663716574434581141966314745466 36615873626505047815401509688526422966742341385236691817538452001808239043262 sBase (by decide +kernel) (IV_pm _ _ (by decide +kernel)) (by decide +kernel)
theorem base_root : rootN iV (sqR bY) = bX ∧ okN iV (sqR bY) = true := by
  rw [sqR_bY]
  obtain ⟨e1, e2⟩ := rootC_is iV sBase 42783823269122696939284341094755422415180979639778424813682678720006717057747 (r0N_pm sBase _ (by decide +kernel))
  rw [e1, e2]
  decide +kernel
theorem div45 (w : World) : Calls Try.prog 71 #[numV 4, numV 5] w fun e w' => e = .returned (numV bY) ∧ Below w.heap.size w w' := by
  have h := div_any' 4 5 w (by decide +kernel) (by decide +kernel)
  rw [y_is] at h
  exact h
theorem rmul45 (I : Nat) (hI : I = IV 5) (w : World) : Calls Try.prog 43 #[numV 4, numV I] w fun e w' => e = .returned (numV bY) ∧ Below w.heap.size w w' := by
  have h := rmul' 4 I w (by decide +kernel) (by rw [hI]; exact IV_lt _)
  rw [hI] at h ⊢
  rw [y_is] at h
  exact h
set_option maxRecDepth 20000 in
set_option maxHeartbeats 8000000 in
theorem rbase_any (w : World) : Calls Try.prog 31 #[] w fun E w' => E = .returned (rpV bX bY 1) ∧ Below w.heap.size w w' := by
  have HMIX := Lib.hid (show Try.prog.follows .mixedOrders = true by kernel_rfl)
  go_enter Try.func31, Try.ntmps31
  have hM0 := Mem.start w
  (go_step; go_step; refine wp_region_lit ?_)
  refine wl_new hM0 (f := fun b => .pointer (some ⟨b, 0, none⟩)) (ob := .cells z12 32 (0, 0)) (fun W => run_alloc_of rfl (al_Rp W)) rfl fun b1 W1 hM1 => ?_
  simp only [Act.put, List.setIfInBounds_toArray, List.set_cons_zero, List.set_cons_succ]
  refine wpList_nil ?_
  (go_step; go_step; go_step; refine wp_region_lit ?_)
  refine wl_call hM1 (args := #[.int .u64 4]) (v := numV 4) (fun W => run_call_fn W (enters_of Try.func35 rfl rfl) rfl (by simp [Act.eval])) (rsmall' 4 (by decide) W1) rfl fun W2 hM2 => ?_
  simp only [Act.put, List.setIfInBounds_toArray, List.set_cons_zero, List.set_cons_succ]
  refine wl_call hM2 (args := #[.int .u64 5]) (v := numV 5) (fun W => run_call_fn W (enters_of Try.func35 rfl rfl) rfl (by simp [Act.eval])) (rsmall' 5 (by decide) W2) rfl fun W3 hM3 => ?_
  simp only [Act.put, List.setIfInBounds_toArray, List.set_cons_zero, List.set_cons_succ]
  obtain ⟨v1, ev1⟩ : ∃ x, x = IV 5 := ⟨_, rfl⟩
  have pv1 : v1 < PN := by rw [ev1]; exact IV_lt _
  have Kv1 := fun W => rinv' 5 W (by decide +kernel)
  simp only [← ev1] at Kv1
  refine wl_call hM3 (args := #[numV 5]) (v := numV v1) (fun W => run_call_fn W (enters_of Try.func45 rfl rfl) rfl (by simp [Act.eval])) (Kv1 W3) rfl fun W4 hM4 => ?_
  simp only [Act.put, List.setIfInBounds_toArray, List.set_cons_zero, List.set_cons_succ]
  refine wl_call hM4 (args := #[numV 4, numV v1]) (v := numV bY) (fun W => run_call_fn W (enters_of Try.func43 rfl rfl) rfl (by simp [Act.eval])) (rmul45 v1 ev1 W4) rfl fun W5 hM5 => ?_
  simp only [Act.put, List.setIfInBounds_toArray, List.set_cons_zero, List.set_cons_succ]
  refine wl_new hM5 (f := fun b => .pointer (some ⟨b, 0, none⟩)) (ob := .cells z4 24 (0, 0)) (fun W => run_alloc_of rfl (al_Nu W)) rfl fun b2 W6 hM6 => ?_
  simp only [Act.put, List.setIfInBounds_toArray, List.set_cons_zero, List.set_cons_succ]
  refine wl_set hM6 0 (cs := (elR bY)) rfl rfl rfl rfl rowNu rfl (one_el bY) rfl rfl fun W7 hM7 => ?_
  simp only [List.set_cons_zero, List.set_cons_succ] at hM7
  refine wpList_nil ?_
  (go_step; go_step; go_step; refine wp_region_lit ?_)
  refine wl_row hM7 0 (v := numV bY) rfl rfl rfl rfl rowNu rfl ?_
  simp only [Act.put, List.setIfInBounds_toArray, List.set_cons_zero, List.set_cons_succ]
  obtain ⟨v2, ev2⟩ : ∃ x, x = sqR bY := ⟨_, rfl⟩
  have pv2 : v2 < PN := by rw [ev2]; exact sqR_lt _
  have Kv2 := fun W => rsquare_any bY W bY_lt
  simp only [← ev2] at Kv2
  refine wl_call hM7 (args := #[numV bY]) (v := numV v2) (fun W => run_call_fn W (enters_of Try.func63 rfl rfl) rfl (by simp [Act.eval])) (Kv2 W7) rfl fun W8 hM8 => ?_
  simp only [Act.put, List.setIfInBounds_toArray, List.set_cons_zero, List.set_cons_succ]
  obtain ⟨v3, ev3⟩ : ∃ x, x = rootN iV v2 := ⟨_, rfl⟩
  have pv3 : v3 < PN := by rw [ev3]; exact rootN_below _
  have Kv3 := fun W => rroot' v2 W pv2
  simp only [← ev3] at Kv3
  obtain ⟨ok1, eok1⟩ : ∃ x, x = okN iV v2 := ⟨_, rfl⟩
  simp only [← eok1] at Kv3
  refine wl_call hM8 (args := #[numV v2]) (v := .tuple #[numV v3, .bool ok1]) (fun W => run_call_fn W (enters_of Try.func37 rfl rfl) rfl (by simp [Act.eval])) (Kv3 W8) rfl fun W9 hM9 => ?_
  simp only [Act.put, List.setIfInBounds_toArray, List.set_cons_zero, List.set_cons_succ]
  refine wl_pure (v := .tuple #[numV v3, .bool ok1]) (fun _ => rfl) rfl ?_
  simp only [Act.put, List.setIfInBounds_toArray, List.set_cons_zero, List.set_cons_succ]
  refine wl_pure (v := numV v3) (fun _ => rfl) rfl ?_
  simp only [Act.put, List.setIfInBounds_toArray, List.set_cons_zero, List.set_cons_succ]
  refine wl_pure (v := .bool ok1) (fun _ => rfl) rfl ?_
  simp only [Act.put, List.setIfInBounds_toArray, List.set_cons_zero, List.set_cons_succ]
  refine wl_new hM9 (f := fun b => .pointer (some ⟨b, 0, none⟩)) (ob := .cells z4 24 (0, 0)) (fun W => run_alloc_of rfl (al_Nu W)) rfl fun b3 W10 hM10 => ?_
  simp only [Act.put, List.setIfInBounds_toArray, List.set_cons_zero, List.set_cons_succ]
  refine wl_set hM10 0 (cs := (elR v3)) rfl rfl rfl rfl rowNu rfl (one_el v3) rfl rfl fun W11 hM11 => ?_
  simp only [List.set_cons_zero, List.set_cons_succ] at hM11
  refine wl_pure (v := .bool ok1) (fun _ => rfl) rfl ?_
  simp only [Act.put, List.setIfInBounds_toArray, List.set_cons_zero, List.set_cons_succ]
  refine wpList_nil ?_
  (go_step; go_step; go_step; refine wp_region_lit ?_)
  refine wl_row hM11 0 (v := numV v3) rfl rfl rfl rfl rowNu rfl ?_
  simp only [Act.put, List.setIfInBounds_toArray, List.set_cons_zero, List.set_cons_succ]
  refine wl_row hM11 1 (v := numV bY) rfl rfl rfl rfl rowNu rfl ?_
  simp only [Act.put, List.setIfInBounds_toArray, List.set_cons_zero, List.set_cons_succ]
  refine wl_call hM11 (args := #[numV v3, numV bY]) (v := rpV v3 bY 1) (fun W => run_call_fn W (enters_of Try.func39 rfl rfl) rfl (by simp [Act.eval])) (rmake_any v3 bY W11) rfl fun W12 hM12 => ?_
  simp only [Act.put, List.setIfInBounds_toArray, List.set_cons_zero, List.set_cons_succ]
  refine wl_set hM12 2 (cs := ((rpL v3 bY 1).toArray)) rfl rfl rfl rfl rowRp rfl (one_rp v3 bY 1) rfl rfl fun W13 hM13 => ?_
  simp only [List.set_cons_zero, List.set_cons_succ] at hM13
  refine wpList_nil ?_
  (go_step; go_step; go_step; refine bodyPost_ret (v := rpV v3 bY 1) (results_arr Try.results31 rfl (hM13.load 2 rfl rowRp)) rfl ⟨?_, hM13.below⟩)
  exact by rw [ev3, ev2, base_root.1]
set_option maxRecDepth 20000 in
set_option maxHeartbeats 8000000 in
theorem base_gen (Y : Nat) (hY : Y < PN) (h45 : ∀ w, Calls Try.prog 71 #[numV 4, numV 5] w fun e w' => e = .returned (numV Y) ∧ Below w.heap.size w w') (w : World) : Calls Try.prog 26 #[] w fun E w' => E = .returned (ptV (rootN iV (sqR Y)) Y 1 (rootN iV (sqR Y) * Y % PN)) ∧ Below w.heap.size w w' := by
  have HMIX := Lib.hid (show Try.prog.follows .mixedOrders = true by kernel_rfl)
  go_enter Try.func26, Try.ntmps26
  have hM0 := Mem.start w
  (go_step; go_step; refine wp_region_lit ?_)
  refine wl_new hM0 (f := fun b => .pointer (some ⟨b, 0, none⟩)) (ob := .cells z16 30 (0, 0)) (fun W => run_alloc_of rfl (al_Pt W)) rfl fun b1 W1 hM1 => ?_
  simp only [Act.put, List.setIfInBounds_toArray, List.set_cons_zero, List.set_cons_succ]
  refine wpList_nil ?_
  (go_step; go_step; go_step; refine wp_region_lit ?_)
  refine wl_call hM1 (args := #[.int .u64 4]) (v := numV 4) (fun W => run_call_fn W (enters_of Try.func56 rfl rfl) rfl (by simp [Act.eval])) (psmall_any_ 4 (by decide) W1) rfl fun W2 hM2 => ?_
  simp only [Act.put, List.setIfInBounds_toArray, List.set_cons_zero, List.set_cons_succ]
  refine wl_call hM2 (args := #[.int .u64 5]) (v := numV 5) (fun W => run_call_fn W (enters_of Try.func56 rfl rfl) rfl (by simp [Act.eval])) (psmall_any_ 5 (by decide) W2) rfl fun W3 hM3 => ?_
  simp only [Act.put, List.setIfInBounds_toArray, List.set_cons_zero, List.set_cons_succ]
  refine wl_call hM3 (args := #[numV 4, numV 5]) (v := numV Y) (fun W => run_call_fn W (enters_of Try.func71 rfl rfl) rfl (by simp [Act.eval])) (h45 W3) rfl fun W4 hM4 => ?_
  simp only [Act.put, List.setIfInBounds_toArray, List.set_cons_zero, List.set_cons_succ]
  refine wl_new hM4 (f := fun b => .pointer (some ⟨b, 0, none⟩)) (ob := .cells z4 27 (0, 0)) (fun W => run_alloc_of rfl (al_El W)) rfl fun b2 W5 hM5 => ?_
  simp only [Act.put, List.setIfInBounds_toArray, List.set_cons_zero, List.set_cons_succ]
  refine wl_set hM5 0 (cs := (elR Y)) rfl rfl rfl rfl rowEl rfl (one_el Y) rfl rfl fun W6 hM6 => ?_
  simp only [List.set_cons_zero, List.set_cons_succ] at hM6
  refine wpList_nil ?_
  (go_step; go_step; go_step; refine wp_region_lit ?_)
  refine wl_row hM6 0 (v := numV Y) rfl rfl rfl rfl rowEl rfl ?_
  simp only [Act.put, List.setIfInBounds_toArray, List.set_cons_zero, List.set_cons_succ]
  refine wl_row hM6 0 (v := numV Y) rfl rfl rfl rfl rowEl rfl ?_
  simp only [Act.put, List.setIfInBounds_toArray, List.set_cons_zero, List.set_cons_succ]
  refine wl_new hM6 (f := fun b => .slice (some ⟨b, 0, none⟩) 2 2) (ob := .cells (elR Y ++ elR Y) 27 (0, 0)) (fun W => run_slice_of rfl (by simp [Act.eval]) (bs2 Y Y W)) rfl fun b3 W7 hM7 => ?_
  simp only [Act.put, List.setIfInBounds_toArray, List.set_cons_zero, List.set_cons_succ]
  obtain ⟨v1, ev1⟩ : ∃ x, x = Y * Y % PN := ⟨_, rfl⟩
  have pv1 : v1 < PN := by rw [ev1]; exact Nat.mod_lt _ PN_pos
  have Kv1 := mul_two' Y Y hY hY
  rw [← ev1] at Kv1
  refine wl_call hM7 (args := #[.slice (some ⟨b3, 0, none⟩) 2 2]) (v := numV v1) (fun W => run_call_fn W (enters_of Try.func60 rfl rfl) rfl (by simp [Act.eval])) (Kv1 b3 W7 (hM7.get 0 rfl)) rfl fun W8 hM8 => ?_
  simp only [Act.put, List.setIfInBounds_toArray, List.set_cons_zero, List.set_cons_succ]
  refine wl_new hM8 (f := fun b => .pointer (some ⟨b, 0, none⟩)) (ob := .cells z4 27 (0, 0)) (fun W => run_alloc_of rfl (al_El W)) rfl fun b4 W9 hM9 => ?_
  simp only [Act.put, List.setIfInBounds_toArray, List.set_cons_zero, List.set_cons_succ]
  refine wl_set hM9 0 (cs := (elR v1)) rfl rfl rfl rfl rowEl rfl (one_el v1) rfl rfl fun W10 hM10 => ?_
  simp only [List.set_cons_zero, List.set_cons_succ] at hM10
  refine wpList_nil ?_
  (go_step; go_step; go_step; refine wp_region_lit ?_)
  refine wl_call hM10 (args := #[.int .u64 1]) (v := numV 1) (fun W => run_call_fn W (enters_of Try.func56 rfl rfl) rfl (by simp [Act.eval])) (psmall_any_ 1 (by decide) W10) rfl fun W11 hM11 => ?_
  simp only [Act.put, List.setIfInBounds_toArray, List.set_cons_zero, List.set_cons_succ]
  refine wl_new hM11 (f := fun b => .pointer (some ⟨b, 0, none⟩)) (ob := .cells z4 27 (0, 0)) (fun W => run_alloc_of rfl (al_El W)) rfl fun b5 W12 hM12 => ?_
  simp only [Act.put, List.setIfInBounds_toArray, List.set_cons_zero, List.set_cons_succ]
  refine wl_set hM12 0 (cs := (elR 1)) rfl rfl rfl rfl rowEl rfl (one_el 1) rfl rfl fun W13 hM13 => ?_
  simp only [List.set_cons_zero, List.set_cons_succ] at hM13
  refine wpList_nil ?_
  (go_step; go_step; go_step; refine wp_region_inz 16 14 rfl rfl (steady_extract rfl) (by kernel_rfl) (by decide) HMIX.out (by decide) (by kernel_rfl) (by kernel_rfl) ?_)
  refine inw_row hM13 1 (v := numV v1) rfl rfl rfl rfl rowEl rfl rfl ?_; simp only [Act.put, List.setIfInBounds_toArray, List.set_cons_zero, List.set_cons_succ]
  refine inw_row hM13 0 (v := numV 1) rfl rfl rfl rfl rowEl rfl rfl ?_; simp only [Act.put, List.setIfInBounds_toArray, List.set_cons_zero, List.set_cons_succ]
  obtain ⟨v2, ev2⟩ : ∃ x, x = (v1 + PN - 1) % PN := ⟨_, rfl⟩
  have pv2 : v2 < PN := by rw [ev2]; exact Nat.mod_lt _ PN_pos
  have Kv2 := fun W => psub_any v1 1 W pv1 (by decide +kernel)
  simp only [← ev2] at Kv2
  refine inw_callV (args := #[numV v1, numV 1]) (v := numV v2) (fun W => run_call_fn W (enters_of Try.func73 rfl rfl) rfl (by simp [Act.eval])) (fun W _ => Kv2 W) rfl rfl ?_; simp only [Act.put, List.setIfInBounds_toArray, List.set_cons_zero, List.set_cons_succ]
  refine inw_callV (args := #[]) (v := numV dN) (fun W => run_call_fn W (enters_of Try.func75 rfl rfl) rfl (by simp [Act.eval])) (fun W _ => curD_any W) rfl rfl ?_; simp only [Act.put, List.setIfInBounds_toArray, List.set_cons_zero, List.set_cons_succ]
  refine inw_row hM13 1 (v := numV v1) rfl rfl rfl rfl rowEl rfl rfl ?_; simp only [Act.put, List.setIfInBounds_toArray, List.set_cons_zero, List.set_cons_succ]
  refine inw_slice (n := 2) (L := elR dN ++ elR v1) (T := 27) (fun W => run_slice_of rfl (by simp [Act.eval]) (bs2 dN v1 W)) rfl rfl ?_; simp only [List.nil_append, List.cons_append]
  obtain ⟨v3, ev3⟩ : ∃ x, x = dN * v1 % PN := ⟨_, rfl⟩
  have pv3 : v3 < PN := by rw [ev3]; exact Nat.mod_lt _ PN_pos
  have Kv3 := mul_two' dN v1 d_is.2 pv1
  rw [← ev3] at Kv3
  refine inw_callS 5 20 (v := numV v3) rfl rfl (fun _ => rfl) (fun b W => run_call_fn W (enters_of Try.func60 rfl rfl) rfl (by simp [Act.eval, Act.put])) (fun b W h => Kv3 b W h) ?_; simp only [Act.put, List.setIfInBounds_toArray, List.set_cons_zero, List.set_cons_succ]
  refine inw_row hM13 0 (v := numV 1) rfl rfl rfl rfl rowEl rfl rfl ?_; simp only [Act.put, List.setIfInBounds_toArray, List.set_cons_zero, List.set_cons_succ]
  refine inw_slice (n := 2) (L := elR v3 ++ elR 1) (T := 27) (fun W => run_slice_of rfl (by simp [Act.eval]) (bs2 v3 1 W)) rfl rfl ?_; simp only [List.nil_append, List.cons_append]
  obtain ⟨v4, ev4⟩ : ∃ x, x = (v3 + 1) % PN := ⟨_, rfl⟩
  have pv4 : v4 < PN := by rw [ev4]; exact Nat.mod_lt _ PN_pos
  have Kv4 := add_two' v3 1 pv3 (by decide +kernel)
  rw [← ev4] at Kv4
  refine inw_callS 8 23 (v := numV v4) rfl rfl (fun _ => rfl) (fun b W => run_call_fn W (enters_of Try.func74 rfl rfl) rfl (by simp [Act.eval, Act.put])) (fun b W h => Kv4 b W h) ?_; simp only [Act.put, List.setIfInBounds_toArray, List.set_cons_zero, List.set_cons_succ]
  obtain ⟨v5, ev5⟩ : ∃ x, x = v2 * IV v4 % PN := ⟨_, rfl⟩
  have pv5 : v5 < PN := by rw [ev5]; exact Nat.mod_lt _ PN_pos
  have Kv5 := fun W => div_any' v2 v4 W pv2 pv4
  simp only [← ev5] at Kv5
  refine inw_callV (args := #[numV v2, numV v4]) (v := numV v5) (fun W => run_call_fn W (enters_of Try.func71 rfl rfl) rfl (by simp [Act.eval])) (fun W _ => Kv5 W) rfl rfl ?_; simp only [Act.put, List.setIfInBounds_toArray, List.set_cons_zero, List.set_cons_succ]
  obtain ⟨v6, ev6⟩ : ∃ x, x = rootN iV v5 := ⟨_, rfl⟩
  have pv6 : v6 < PN := by rw [ev6]; exact rootN_below _
  have Kv6 := fun W => proot' v5 W pv5
  simp only [← ev6] at Kv6
  obtain ⟨ok1, eok1⟩ : ∃ x, x = okN iV v5 := ⟨_, rfl⟩
  simp only [← eok1] at Kv6
  refine inw_callV (args := #[numV v5]) (v := .tuple #[numV v6, .bool ok1]) (fun W => run_call_fn W (enters_of Try.func72 rfl rfl) rfl (by simp [Act.eval])) (fun W _ => Kv6 W) rfl rfl ?_; simp only [Act.put, List.setIfInBounds_toArray, List.set_cons_zero, List.set_cons_succ]
  refine inw_pure (v := .tuple #[numV v6, .bool ok1]) (fun _ => rfl) rfl rfl ?_; simp only [Act.put, List.setIfInBounds_toArray, List.set_cons_zero, List.set_cons_succ]
  refine inw_pure (v := numV v6) (fun _ => rfl) rfl rfl ?_; simp only [Act.put, List.setIfInBounds_toArray, List.set_cons_zero, List.set_cons_succ]
  refine inw_pure (v := .bool ok1) (fun _ => rfl) rfl rfl ?_; simp only [Act.put, List.setIfInBounds_toArray, List.set_cons_zero, List.set_cons_succ]
  refine inw_new (.cells z4 27 (0, 0)) rfl rfl (fun A W => run_alloc_of rfl (al_El W)) ?_; simp only [List.nil_append, List.cons_append]
  refine inw_fin fun d os => ?_
  refine given_mk (t := 20) rfl fun s5 => ?_
  refine given_mk (t := 23) rfl fun s8 => ?_
  refine given_new (t := 4) rfl fun b6 lb6 gb6 => ?_
  refine given_nil fun hap => ?_
  simp only [Act.put, List.setIfInBounds_toArray, List.set_cons_zero, List.set_cons_succ] at hap ⊢
  have hM14 := hM13.news1 (below_regrown W13 d os) lb6 gb6 
  clear hap lb6 gb6
  generalize grow (redrawn W13 d) os = W14 at hM14 ⊢
  change wpAny _ _ _ _ 2 _ _ _
  refine any_set (n := 16) (by kernel_rfl) rfl hM14 0 (cs := (elR v6)) rfl rfl rfl rfl rowEl rfl (one_el v6) rfl rfl fun W15 hM15 => ?_
  simp only [List.set_cons_zero, List.set_cons_succ] at hM15
  refine any_pure (n := 17) (v := .bool ok1) (by kernel_rfl) rfl (fun _ => rfl) rfl rfl ?_
  simp only [Act.put, List.setIfInBounds_toArray, List.set_cons_zero, List.set_cons_succ]
  refine wpAny_done (by kernel_rfl) ?_ _
  refine NoPanic.normal ?_
  (go_step; go_step; go_step; refine wp_region_lit ?_)
  refine wl_row hM15 0 (v := numV v6) rfl rfl rfl rfl rowEl rfl ?_
  simp only [Act.put, List.setIfInBounds_toArray, List.set_cons_zero, List.set_cons_succ]
  refine wl_row hM15 4 (v := numV Y) rfl rfl rfl rfl rowEl rfl ?_
  simp only [Act.put, List.setIfInBounds_toArray, List.set_cons_zero, List.set_cons_succ]
  obtain ⟨v7, ev7⟩ : ∃ x, x = v6 * Y % PN := ⟨_, rfl⟩
  have pv7 : v7 < PN := by rw [ev7]; exact Nat.mod_lt _ PN_pos
  have KA := fun W => at_any v6 Y W pv6 hY
  simp only [← ev7] at KA
  refine wl_call hM15 (args := #[numV v6, numV Y]) (v := ptV v6 Y 1 v7) (fun W => run_call_fn W (enters_of Try.func76 rfl rfl) rfl (by simp [Act.eval])) (KA W15) rfl fun W16 hM16 => ?_
  simp only [Act.put, List.setIfInBounds_toArray, List.set_cons_zero, List.set_cons_succ]
  refine wl_set hM16 5 (cs := ((ptL v6 Y 1 v7).toArray)) rfl rfl rfl rfl rowPt rfl (one_pt v6 Y 1 v7) rfl rfl fun W17 hM17 => ?_
  simp only [List.set_cons_zero, List.set_cons_succ] at hM17
  refine wpList_nil ?_
  (go_step; go_step; go_step; refine bodyPost_ret (v := ptV v6 Y 1 v7) (results_arr Try.results26 rfl (hM17.load 5 rfl rowPt)) rfl ⟨?_, hM17.below⟩)
  exact by
    unfold sqR
    rw [ev7, ev6, ev5, ev4, ev3, ev2, ev1]
theorem base_any (w : World) : Calls Try.prog 26 #[] w fun E w' => E = .returned (ptV bX bY 1 (bX * bY % PN)) ∧ Below w.heap.size w w' := by
  have h := base_gen bY bY_lt div45 w
  rw [base_root.1] at h
  exact h
theorem one_z16 : z16.all (·.oneCell') = true := by simp [z16, Value.oneCell']
theorem bx_Pt0 (W : World) : (Instr.box 30 (.agg z16)).run Try.prog W = .ok (.pointer (some ⟨W.heap.size, 0, none⟩)) (W.alloc (.cells z16 30 (0, 0))) := by
  unfold z16
  go_simp
set_option maxRecDepth 20000 in
set_option maxHeartbeats 8000000 in
theorem numbers_none (w : World) : Calls Try.prog 59 #[.agg z16] w fun E w' => E = .returned (.tuple #[numV 0, numV 1, numV 1, numV 0]) ∧ Below w.heap.size w w' := by
  have HMIX := Lib.hid (show Try.prog.follows .mixedOrders = true by kernel_rfl)
  go_enter Try.func59, Try.ntmps59
  have hM0 := Mem.start w
  (go_step; go_step; refine wp_region_lit ?_)
  refine wl_new hM0 (f := fun b => .pointer (some ⟨b, 0, none⟩)) (ob := .cells z16 30 (0, 0)) (fun W => run_box_of rfl rfl (bx_Pt0 W)) rfl fun b1 W1 hM1 => ?_
  simp only [Act.put, List.setIfInBounds_toArray, List.set_cons_zero, List.set_cons_succ]
  refine wl_new hM1 (f := fun b => .pointer (some ⟨b, 0, none⟩)) (ob := .cells z4 27 (0, 0)) (fun W => run_alloc_of rfl (al_El W)) rfl fun b2 W2 hM2 => ?_
  simp only [Act.put, List.setIfInBounds_toArray, List.set_cons_zero, List.set_cons_succ]
  refine wl_new hM2 (f := fun b => .pointer (some ⟨b, 0, none⟩)) (ob := .cells z4 27 (0, 0)) (fun W => run_alloc_of rfl (al_El W)) rfl fun b3 W3 hM3 => ?_
  simp only [Act.put, List.setIfInBounds_toArray, List.set_cons_zero, List.set_cons_succ]
  refine wl_new hM3 (f := fun b => .pointer (some ⟨b, 0, none⟩)) (ob := .cells z4 27 (0, 0)) (fun W => run_alloc_of rfl (al_El W)) rfl fun b4 W4 hM4 => ?_
  simp only [Act.put, List.setIfInBounds_toArray, List.set_cons_zero, List.set_cons_succ]
  refine wl_new hM4 (f := fun b => .pointer (some ⟨b, 0, none⟩)) (ob := .cells z4 27 (0, 0)) (fun W => run_alloc_of rfl (al_El W)) rfl fun b5 W5 hM5 => ?_
  simp only [Act.put, List.setIfInBounds_toArray, List.set_cons_zero, List.set_cons_succ]
  refine wpList_nil ?_
  (go_step; go_step; go_step; go_step; refine wp_region_lit ?_)
  refine wl_row hM5 4 (v := .agg z16) rfl rfl rfl rfl rowPt rfl ?_
  simp only [Act.put, List.setIfInBounds_toArray, List.set_cons_zero, List.set_cons_succ]
  refine wl_pure (v := .agg z16) (fun W => run_build_of rfl (by simp [Act.eval]) (bdP0 W)) rfl ?_
  simp only [Act.put, List.setIfInBounds_toArray, List.set_cons_zero, List.set_cons_succ]
  refine wl_pure (v := .bool true) (fun W => run_bin_of rfl rfl rfl (eq_zero_zero _ _ W)) rfl ?_
  simp only [Act.put, List.setIfInBounds_toArray, List.set_cons_zero, List.set_cons_succ]
  refine wpList_nil ?_
  (go_step; go_step; go_step; refine wp_region_lit ?_)
  refine wl_call hM5 (args := #[]) (v := ptV 0 1 1 0) (fun W => run_call_fn W (enters_of Try.func40 rfl rfl) rfl (by simp [Act.eval])) (zero_any W5) rfl fun W6 hM6 => ?_
  simp only [Act.put, List.setIfInBounds_toArray, List.set_cons_zero, List.set_cons_succ]
  refine wl_set hM6 4 (cs := ((ptL 0 1 1 0).toArray)) rfl rfl rfl rfl rowPt rfl (one_pt 0 1 1 0) rfl rfl fun W7 hM7 => ?_
  simp only [List.set_cons_zero, List.set_cons_succ] at hM7
  refine wpList_nil ?_
  have hMd := hM7.drew
  (go_step; go_step; go_step; refine wp_region_noPanic (wp_region_held_drew HMIX.out (S := fun w1 => w1.heap[b1]? = some (.cells ((ptL 0 1 1 0).toArray) 30 (0, 0))) (hMd.get 4 rfl) fun hS => ?_))
  change wpAnyH _ _ _ _ _ 16 _ _ _
  generalize W7.drew = W8 at hMd hS ⊢
  have hM8 := hMd
  clear hMd
  refine hd_take 0 10 #[true, false, false, false, false, false, false, false, false, false, false, false, false, false, false, false] (by kernel_rfl) (v := .pointer (some ⟨b1, 0, none⟩)) rfl rfl (by kernel_rfl) (by kernel_rfl) (by kernel_rfl) rfl (fun W _ => run_field_of rfl rfl (fa_Pt0 b1 W)) hS ?_
  simp only [Act.put, List.setIfInBounds_toArray, List.set_cons_zero, List.set_cons_succ]
  refine hd_take 1 11 #[true, true, false, false, false, false, false, false, false, false, false, false, false, false, false, false] (by kernel_rfl) (v := .pointer (some ⟨b1, 0, none⟩)) rfl rfl (by kernel_rfl) (by kernel_rfl) (by kernel_rfl) rfl (fun W _ => run_index_of rfl rfl rfl (ix_P0 b1 W)) hS ?_
  simp only [Act.put, List.setIfInBounds_toArray, List.set_cons_zero, List.set_cons_succ]
  refine hd_part 2 12 #[true, true, true, false, false, false, false, false, false, false, false, false, false, false, false, false] (by kernel_rfl) (v := numV 0) (cs := ((ptL 0 1 1 0).toArray)) (sub := elR 0) (b := b1) rfl rfl rfl rfl (fun W hW => hW) rfl rfl rowEl (by kernel_rfl) (by kernel_rfl) (by kernel_rfl) rfl hS ?_
  simp only [Act.put, List.setIfInBounds_toArray, List.set_cons_zero, List.set_cons_succ]
  refine hd_take 3 13 #[true, true, true, true, false, false, false, false, false, false, false, false, false, false, false, false] (by kernel_rfl) (v := .pointer (some ⟨b1, 0, none⟩)) rfl rfl (by kernel_rfl) (by kernel_rfl) (by kernel_rfl) rfl (fun W _ => run_field_of rfl rfl (fa_Pt0 b1 W)) hS ?_
  simp only [Act.put, List.setIfInBounds_toArray, List.set_cons_zero, List.set_cons_succ]
  refine hd_take 4 14 #[true, true, true, true, true, false, false, false, false, false, false, false, false, false, false, false] (by kernel_rfl) (v := .pointer (some ⟨b1, 4, none⟩)) rfl rfl (by kernel_rfl) (by kernel_rfl) (by kernel_rfl) rfl (fun W _ => run_index_of rfl rfl rfl (ix_P1 b1 W)) hS ?_
  simp only [Act.put, List.setIfInBounds_toArray, List.set_cons_zero, List.set_cons_succ]
  refine hd_part 5 15 #[true, true, true, true, true, true, false, false, false, false, false, false, false, false, false, false] (by kernel_rfl) (v := numV 1) (cs := ((ptL 0 1 1 0).toArray)) (sub := elR 1) (b := b1) rfl rfl rfl rfl (fun W hW => hW) rfl rfl rowEl (by kernel_rfl) (by kernel_rfl) (by kernel_rfl) rfl hS ?_
  simp only [Act.put, List.setIfInBounds_toArray, List.set_cons_zero, List.set_cons_succ]
  refine hd_take 6 16 #[true, true, true, true, true, true, true, false, false, false, false, false, false, false, false, false] (by kernel_rfl) (v := .pointer (some ⟨b1, 0, none⟩)) rfl rfl (by kernel_rfl) (by kernel_rfl) (by kernel_rfl) rfl (fun W _ => run_field_of rfl rfl (fa_Pt0 b1 W)) hS ?_
  simp only [Act.put, List.setIfInBounds_toArray, List.set_cons_zero, List.set_cons_succ]
  refine hd_take 7 17 #[true, true, true, true, true, true, true, true, false, false, false, false, false, false, false, false] (by kernel_rfl) (v := .pointer (some ⟨b1, 8, none⟩)) rfl rfl (by kernel_rfl) (by kernel_rfl) (by kernel_rfl) rfl (fun W _ => run_index_of rfl rfl rfl (ix_P2 b1 W)) hS ?_
  simp only [Act.put, List.setIfInBounds_toArray, List.set_cons_zero, List.set_cons_succ]
  refine hd_part 8 18 #[true, true, true, true, true, true, true, true, true, false, false, false, false, false, false, false] (by kernel_rfl) (v := numV 1) (cs := ((ptL 0 1 1 0).toArray)) (sub := elR 1) (b := b1) rfl rfl rfl rfl (fun W hW => hW) rfl rfl rowEl (by kernel_rfl) (by kernel_rfl) (by kernel_rfl) rfl hS ?_
  simp only [Act.put, List.setIfInBounds_toArray, List.set_cons_zero, List.set_cons_succ]
  refine hd_take 9 19 #[true, true, true, true, true, true, true, true, true, true, false, false, false, false, false, false] (by kernel_rfl) (v := .pointer (some ⟨b1, 0, none⟩)) rfl rfl (by kernel_rfl) (by kernel_rfl) (by kernel_rfl) rfl (fun W _ => run_field_of rfl rfl (fa_Pt0 b1 W)) hS ?_
  simp only [Act.put, List.setIfInBounds_toArray, List.set_cons_zero, List.set_cons_succ]
  refine hd_take 10 20 #[true, true, true, true, true, true, true, true, true, true, true, false, false, false, false, false] (by kernel_rfl) (v := .pointer (some ⟨b1, 12, none⟩)) rfl rfl (by kernel_rfl) (by kernel_rfl) (by kernel_rfl) rfl (fun W _ => run_index_of rfl rfl rfl (ix_P3 b1 W)) hS ?_
  simp only [Act.put, List.setIfInBounds_toArray, List.set_cons_zero, List.set_cons_succ]
  refine hd_part 11 21 #[true, true, true, true, true, true, true, true, true, true, true, true, false, false, false, false] (by kernel_rfl) (v := numV 0) (cs := ((ptL 0 1 1 0).toArray)) (sub := elR 0) (b := b1) rfl rfl rfl rfl (fun W hW => hW) rfl rfl rowEl (by kernel_rfl) (by kernel_rfl) (by kernel_rfl) rfl hS ?_
  simp only [Act.put, List.setIfInBounds_toArray, List.set_cons_zero, List.set_cons_succ]
  refine hd_set (n := 12) #[true, true, true, true, true, true, true, true, true, true, true, true, true, false, false, false] (by kernel_rfl) (by kernel_rfl) rfl hM8 3 (cs := (elR 0)) rfl rfl rfl rfl rowEl rfl (one_el 0) rfl rfl (fun W hW => hW.get 4 rfl) fun W9 hM9 => ?_
  simp only [List.set_cons_zero, List.set_cons_succ] at hM9
  refine hd_set (n := 13) #[true, true, true, true, true, true, true, true, true, true, true, true, true, true, false, false] (by kernel_rfl) (by kernel_rfl) rfl hM9 2 (cs := (elR 1)) rfl rfl rfl rfl rowEl rfl (one_el 1) rfl rfl (fun W hW => hW.get 4 rfl) fun W10 hM10 => ?_
  simp only [List.set_cons_zero, List.set_cons_succ] at hM10
  refine hd_set (n := 14) #[true, true, true, true, true, true, true, true, true, true, true, true, true, true, true, false] (by kernel_rfl) (by kernel_rfl) rfl hM10 1 (cs := (elR 1)) rfl rfl rfl rfl rowEl rfl (one_el 1) rfl rfl (fun W hW => hW.get 4 rfl) fun W11 hM11 => ?_
  simp only [List.set_cons_zero, List.set_cons_succ] at hM11
  refine hd_set (n := 15) #[true, true, true, true, true, true, true, true, true, true, true, true, true, true, true, true] (by kernel_rfl) (by kernel_rfl) rfl hM11 0 (cs := (elR 0)) rfl rfl rfl rfl rowEl rfl (one_el 0) rfl rfl (fun W hW => hW.get 4 rfl) fun W12 hM12 => ?_
  simp only [List.set_cons_zero, List.set_cons_succ] at hM12
  refine wpAnyH_done (by kernel_rfl) ?_ _
  refine NoPanic.normal ?_
  (go_step; go_step; go_step; refine bodyPost_ret (v := .tuple #[numV 0, numV 1, numV 1, numV 0]) (results_arr4 Try.results59 rfl rfl rfl rfl (hM12.load 3 rfl rowEl) (hM12.load 2 rfl rowEl) (hM12.load 1 rfl rowEl) (hM12.load 0 rfl rowEl)) rfl ⟨?_, hM12.below⟩)
  exact rfl
set_option maxRecDepth 20000 in
set_option maxHeartbeats 8000000 in
theorem xy_none (w : World) : Calls Try.prog 46 #[.agg z16] w fun E w' => E = .returned (.tuple #[numV (0 * IV 1 % PN), numV (1 * IV 1 % PN)]) ∧ Below w.heap.size w w' := by
  have HMIX := Lib.hid (show Try.prog.follows .mixedOrders = true by kernel_rfl)
  go_enter Try.func46, Try.ntmps46
  have hM0 := Mem.start w
  (go_step; go_step; refine wp_region_lit ?_)
  refine wl_new hM0 (f := fun b => .pointer (some ⟨b, 0, none⟩)) (ob := .cells z16 30 (0, 0)) (fun W => run_box_of rfl rfl (bx_Pt0 W)) rfl fun b1 W1 hM1 => ?_
  simp only [Act.put, List.setIfInBounds_toArray, List.set_cons_zero, List.set_cons_succ]
  refine wl_new hM1 (f := fun b => .pointer (some ⟨b, 0, none⟩)) (ob := .cells z4 27 (0, 0)) (fun W => run_alloc_of rfl (al_El W)) rfl fun b2 W2 hM2 => ?_
  simp only [Act.put, List.setIfInBounds_toArray, List.set_cons_zero, List.set_cons_succ]
  refine wl_new hM2 (f := fun b => .pointer (some ⟨b, 0, none⟩)) (ob := .cells z4 27 (0, 0)) (fun W => run_alloc_of rfl (al_El W)) rfl fun b3 W3 hM3 => ?_
  simp only [Act.put, List.setIfInBounds_toArray, List.set_cons_zero, List.set_cons_succ]
  refine wpList_nil ?_
  (go_step; go_step; go_step; refine wp_region_lit ?_)
  refine wl_row hM3 2 (v := .agg z16) rfl rfl rfl rfl rowPt rfl ?_
  simp only [Act.put, List.setIfInBounds_toArray, List.set_cons_zero, List.set_cons_succ]
  refine wl_call hM3 (args := #[.agg z16]) (v := .tuple #[numV 0, numV 1, numV 1, numV 0]) (fun W => run_call_fn W (enters_of Try.func59 rfl rfl) rfl (by simp [Act.eval])) (numbers_none W3) rfl fun W4 hM4 => ?_
  simp only [Act.put, List.setIfInBounds_toArray, List.set_cons_zero, List.set_cons_succ]
  refine wl_pure (v := .tuple #[numV 0, numV 1, numV 1, numV 0]) (fun _ => rfl) rfl ?_
  simp only [Act.put, List.setIfInBounds_toArray, List.set_cons_zero, List.set_cons_succ]
  refine wl_pure (v := numV 0) (fun _ => rfl) rfl ?_
  simp only [Act.put, List.setIfInBounds_toArray, List.set_cons_zero, List.set_cons_succ]
  refine wl_pure (v := numV 1) (fun _ => rfl) rfl ?_
  simp only [Act.put, List.setIfInBounds_toArray, List.set_cons_zero, List.set_cons_succ]
  refine wl_pure (v := numV 1) (fun _ => rfl) rfl ?_
  simp only [Act.put, List.setIfInBounds_toArray, List.set_cons_zero, List.set_cons_succ]
  refine wl_pure (v := numV 0) (fun _ => rfl) rfl ?_
  simp only [Act.put, List.setIfInBounds_toArray, List.set_cons_zero, List.set_cons_succ]
  refine wl_new hM4 (f := fun b => .pointer (some ⟨b, 0, none⟩)) (ob := .cells z4 27 (0, 0)) (fun W => run_alloc_of rfl (al_El W)) rfl fun b4 W5 hM5 => ?_
  simp only [Act.put, List.setIfInBounds_toArray, List.set_cons_zero, List.set_cons_succ]
  refine wl_new hM5 (f := fun b => .pointer (some ⟨b, 0, none⟩)) (ob := .cells z4 27 (0, 0)) (fun W => run_alloc_of rfl (al_El W)) rfl fun b5 W6 hM6 => ?_
  simp only [Act.put, List.setIfInBounds_toArray, List.set_cons_zero, List.set_cons_succ]
  refine wl_set hM6 3 (cs := (elR 0)) rfl rfl rfl rfl rowEl rfl (one_el 0) rfl rfl fun W7 hM7 => ?_
  simp only [List.set_cons_zero, List.set_cons_succ] at hM7
  refine wl_set hM7 2 (cs := (elR 1)) rfl rfl rfl rfl rowEl rfl (one_el 1) rfl rfl fun W8 hM8 => ?_
  simp only [List.set_cons_zero, List.set_cons_succ] at hM8
  refine wl_set hM8 1 (cs := (elR 1)) rfl rfl rfl rfl rowEl rfl (one_el 1) rfl rfl fun W9 hM9 => ?_
  simp only [List.set_cons_zero, List.set_cons_succ] at hM9
  refine wl_set hM9 0 (cs := (elR 0)) rfl rfl rfl rfl rowEl rfl (one_el 0) rfl rfl fun W10 hM10 => ?_
  simp only [List.set_cons_zero, List.set_cons_succ] at hM10
  refine wpList_nil ?_
  (go_step; go_step; go_step; refine wp_region_lit ?_)
  refine wl_row hM10 1 (v := numV 1) rfl rfl rfl rfl rowEl rfl ?_
  simp only [Act.put, List.setIfInBounds_toArray, List.set_cons_zero, List.set_cons_succ]
  obtain ⟨v1, ev1⟩ : ∃ x, x = IV 1 := ⟨_, rfl⟩
  have pv1 : v1 < PN := by rw [ev1]; exact IV_lt _
  have Kv1 := fun W => pinv_any' 1 W (by decide +kernel)
  simp only [← ev1] at Kv1
  refine wl_call hM10 (args := #[numV 1]) (v := numV v1) (fun W => run_call_fn W (enters_of Try.func89 rfl rfl) rfl (by simp [Act.eval])) (Kv1 W10) rfl fun W11 hM11 => ?_
  simp only [Act.put, List.setIfInBounds_toArray, List.set_cons_zero, List.set_cons_succ]
  refine wl_new hM11 (f := fun b => .pointer (some ⟨b, 0, none⟩)) (ob := .cells z4 27 (0, 0)) (fun W => run_alloc_of rfl (al_El W)) rfl fun b6 W12 hM12 => ?_
  simp only [Act.put, List.setIfInBounds_toArray, List.set_cons_zero, List.set_cons_succ]
  refine wl_set hM12 0 (cs := (elR v1)) rfl rfl rfl rfl rowEl rfl (one_el v1) rfl rfl fun W13 hM13 => ?_
  simp only [List.set_cons_zero, List.set_cons_succ] at hM13
  refine wpList_nil ?_
  (go_step; go_step; go_step; refine wp_region_inw 8 HMIX.out (by decide) (by kernel_rfl) (by kernel_rfl) ?_)
  refine inw_row hM13 4 (v := numV 0) rfl rfl rfl rfl rowEl rfl rfl ?_; simp only [Act.put, List.setIfInBounds_toArray, List.set_cons_zero, List.set_cons_succ]
  refine inw_row hM13 0 (v := numV v1) rfl rfl rfl rfl rowEl rfl rfl ?_; simp only [Act.put, List.setIfInBounds_toArray, List.set_cons_zero, List.set_cons_succ]
  refine inw_slice (n := 2) (L := elR 0 ++ elR v1) (T := 27) (fun W => run_slice_of rfl (by simp [Act.eval]) (bs2 0 v1 W)) rfl rfl ?_; simp only [List.nil_append, List.cons_append]
  obtain ⟨v2, ev2⟩ : ∃ x, x = 0 * v1 % PN := ⟨_, rfl⟩
  have pv2 : v2 < PN := by rw [ev2]; exact Nat.mod_lt _ PN_pos
  have Kv2 := mul_two' 0 v1 (by decide +kernel) pv1
  rw [← ev2] at Kv2
  refine inw_callS 2 18 (v := numV v2) rfl rfl (fun _ => rfl) (fun b W => run_call_fn W (enters_of Try.func60 rfl rfl) rfl (by simp [Act.eval, Act.put])) (fun b W h => Kv2 b W h) ?_; simp only [Act.put, List.setIfInBounds_toArray, List.set_cons_zero, List.set_cons_succ]
  refine inw_row hM13 3 (v := numV 1) rfl rfl rfl rfl rowEl rfl rfl ?_; simp only [Act.put, List.setIfInBounds_toArray, List.set_cons_zero, List.set_cons_succ]
  refine inw_row hM13 0 (v := numV v1) rfl rfl rfl rfl rowEl rfl rfl ?_; simp only [Act.put, List.setIfInBounds_toArray, List.set_cons_zero, List.set_cons_succ]
  refine inw_slice (n := 2) (L := elR 1 ++ elR v1) (T := 27) (fun W => run_slice_of rfl (by simp [Act.eval]) (bs2 1 v1 W)) rfl rfl ?_; simp only [List.nil_append, List.cons_append]
  obtain ⟨v3, ev3⟩ : ∃ x, x = 1 * v1 % PN := ⟨_, rfl⟩
  have pv3 : v3 < PN := by rw [ev3]; exact Nat.mod_lt _ PN_pos
  have Kv3 := mul_two' 1 v1 (by decide +kernel) pv1
  rw [← ev3] at Kv3
  refine inw_callS 6 22 (v := numV v3) rfl rfl (fun _ => rfl) (fun b W => run_call_fn W (enters_of Try.func60 rfl rfl) rfl (by simp [Act.eval, Act.put])) (fun b W h => Kv3 b W h) ?_; simp only [Act.put, List.setIfInBounds_toArray, List.set_cons_zero, List.set_cons_succ]
  refine inw_fin fun d os => ?_
  refine given_mk (t := 18) rfl fun s2 => ?_
  refine given_mk (t := 22) rfl fun s6 => ?_
  refine given_nil fun hap => ?_
  simp only [Act.put, List.setIfInBounds_toArray, List.set_cons_zero, List.set_cons_succ] at hap ⊢
  have hM14 := hM13.calls (below_regrown W13 d os)
  clear hap 
  generalize grow (redrawn W13 d) os = W14 at hM14 ⊢
  change wpAny _ _ _ _ 2 _ _ _
  refine any_set (n := 8) (by kernel_rfl) rfl hM14 4 (cs := (elR v2)) rfl rfl rfl rfl rowEl rfl (one_el v2) rfl rfl fun W15 hM15 => ?_
  simp only [List.set_cons_zero, List.set_cons_succ] at hM15
  refine any_set (n := 9) (by kernel_rfl) rfl hM15 3 (cs := (elR v3)) rfl rfl rfl rfl rowEl rfl (one_el v3) rfl rfl fun W16 hM16 => ?_
  simp only [List.set_cons_zero, List.set_cons_succ] at hM16
  refine wpAny_done (by kernel_rfl) ?_ _
  (go_step; go_step; go_step; refine bodyPost_ret (v := .tuple #[numV v2, numV v3]) (results_arr2 Try.results46 rfl rfl (hM16.load 4 rfl rowEl) (hM16.load 3 rfl rowEl)) rfl ⟨?_, hM16.below⟩)
  exact by rw [ev3, ev2, ev1]
end Go.Proofs.Ytigfoophimjgdaa
namespace Go.Proofs.Ytigfoophimjgdaa
set_option maxRecDepth 20000
set_option linter.unusedSimpArgs false
set_option linter.unusedVariables false
open Go.RowKit Go.Sort
abbrev N3 := Nat × Nat × Nat
/-- The reference's Add, on three numbers each. -/
def add3 (a b : N3) : N3 := (addX a.1 a.2.1 a.2.2 b.1 b.2.1 b.2.2, addY a.1 a.2.1 a.2.2 b.1 b.2.1 b.2.2, addZ a.1 a.2.1 a.2.2 b.1 b.2.1 b.2.2)
def In3 (a : N3) : Prop := a.1 < PN ∧ a.2.1 < PN ∧ a.2.2 < PN
theorem in3_add (a b : N3) : In3 (add3 a b) := ⟨Nat.mod_lt _ PN_pos, Nat.mod_lt _ PN_pos, Nat.mod_lt _ PN_pos⟩
/-- What its first m rounds come to. -/
def tms (k : Nat) (q : N3) : Nat → N3
  | 0 => (0, 1, 1)
  | m + 1 => if k / 2 ^ (255 - m) % 2 = 1 then add3 (add3 (tms k q m) (tms k q m)) q else add3 (tms k q m) (tms k q m)
theorem in3_tms (k : Nat) (q : N3) : ∀ m, In3 (tms k q m)
  | 0 => by
    show In3 (0, 1, 1)
    exact ⟨by decide +kernel, by decide +kernel, by decide +kernel⟩
  | m + 1 => by
    unfold tms
    split
    · exact in3_add _ _
    · exact in3_add _ _
theorem rof' (k : Nat) (hk : k < B64 ^ 4) (w : World) : Calls Try.prog 78 #[numV k] w fun e w' => ∃ g, e = .returned (.slice (some ⟨g, 0, none⟩) 16 16) ∧ w'.heap[g]? = some (.cells (rowH (dg k) 16).toArray 23 (0, 0)) ∧ w.heap.size ≤ g ∧ Below w.heap.size w w' :=
  (rof_any k w hk).mono fun e w' ⟨g, h1, h2, h3, h4⟩ => ⟨g, h1, h2.1, h3, h4⟩
theorem rbit' (k i : Nat) (n : Int) (bt : Nat) (hn : n = (i : Int)) (hb : k / 2 ^ i % 2 = bt) (hi : i ≤ 100000) (hk : k < B64 ^ 4) (g : Nat) (W : World) (h : W.heap[g]? = some (.cells (rowH (dg k) 16).toArray 23 (0, 0))) :
    Calls Try.prog 79 #[.slice (some ⟨g, 0, none⟩) 16 16, .int .i64 n] W fun e w' => e = .returned (.int .u64 (bt : Int)) ∧ Below W.heap.size W w' := by
  have ho : OwnN W g 16 k := ⟨h, by have : B64 ^ 4 = 65536 ^ 16 := by decide +kernel
                                    omega, by decide⟩
  have hc := rbit_any (some ⟨g, 0, none⟩) 16 16 k i W (ho.is 16 (Nat.le_refl _)) hi
  rw [hn, ← hb]
  exact hc.mono fun e w' ⟨h1, h2⟩ => by
    subst h2
    exact ⟨h1, Below.refl _ _⟩
theorem bin_geq_i (n : Int) (x y : Operand) (W : World) : (do eqGuard .geq 3 x y (.int .i64 n) (.int .i64 0); binOp .geq 3 (.int .i64 n) (.int .i64 0) : Sem Value).run Try.prog W = .ok (.bool (decide (0 ≤ n))) W := by
  go_simp
theorem bin_sub_i (n : Int) (x y : Operand) (W : World) (h0 : 0 ≤ n) (h1 : n ≤ 1000000) : (do eqGuard .sub 3 x y (.int .i64 n) (.int .i64 1); binOp .sub 3 (.int .i64 n) (.int .i64 1) : Sem Value).run Try.prog W = .ok (.int .i64 (n - 1)) W := by
  have e : IntKind.i64.wrap (n - 1) = n - 1 := IntWalk.i64_in _ (by omega)
  go_simp
theorem bin_eql_u (n : Nat) (x y : Operand) (W : World) : (do eqGuard .eql 23 x y (.int .u64 (n : Int)) (.int .u64 1); binOp .eql 23 (.int .u64 (n : Int)) (.int .u64 1) : Sem Value).run Try.prog W = .ok (.bool (decide (n = 1))) W := by
  have e : ((n : Int) == 1) = decide (n = 1) := by
    by_cases h : n = 1
    · subst h; rfl
    · rw [decide_eq_false h]
      exact beq_eq_false_iff_ne.2 (by omega)
  go_simp
theorem add3_any (a b : N3) (w : World) (ha : In3 a) (hb : In3 b) : Calls Try.prog 10 #[rpV a.1 a.2.1 a.2.2, rpV b.1 b.2.1 b.2.2, numV dN] w fun E w' => E = .returned (rpV (add3 a b).1 (add3 a b).2.1 (add3 a b).2.2) ∧ Below w.heap.size w w' :=
  rptadd_any _ _ _ _ _ _ ha.1 ha.2.1 ha.2.2 hb.1 hb.2.1 hb.2.2 w
set_option maxRecDepth 20000 in
set_option maxHeartbeats 8000000 in
theorem times_any (k : Nat) (q : N3) (w : World) (hk : k < B64 ^ 4) (iq : In3 q) : Calls Try.prog 30 #[numV k, rpV q.1 q.2.1 q.2.2, numV dN] w fun E w' => E = .returned (rpV (tms k q 256).1 (tms k q 256).2.1 (tms k q 256).2.2) ∧ Below w.heap.size w w' := by
  have HMIX := Lib.hid (show Try.prog.follows .mixedOrders = true by kernel_rfl)
  go_enter Try.func30, Try.ntmps30
  have hM0 := Mem.start w
  (go_step; go_step; refine wp_region_lit ?_)
  refine wl_new hM0 (f := fun b => .pointer (some ⟨b, 0, none⟩)) (ob := .cells (elR k) 24 (0, 0)) (fun W => run_box_of rfl rfl (bx_Nu k W)) rfl fun b1 W1 hM1 => ?_
  simp only [Act.put, List.setIfInBounds_toArray, List.set_cons_zero, List.set_cons_succ]
  refine wl_new hM1 (f := fun b => .pointer (some ⟨b, 0, none⟩)) (ob := .cells ((rpL q.1 q.2.1 q.2.2).toArray) 32 (0, 0)) (fun W => run_box_of rfl rfl (bx_Rp _ _ _ W)) rfl fun b2 W2 hM2 => ?_
  simp only [Act.put, List.setIfInBounds_toArray, List.set_cons_zero, List.set_cons_succ]
  refine wl_new hM2 (f := fun b => .pointer (some ⟨b, 0, none⟩)) (ob := .cells (elR dN) 24 (0, 0)) (fun W => run_box_of rfl rfl (bx_Nu dN W)) rfl fun b3 W3 hM3 => ?_
  simp only [Act.put, List.setIfInBounds_toArray, List.set_cons_zero, List.set_cons_succ]
  refine wl_new hM3 (f := fun b => .pointer (some ⟨b, 0, none⟩)) (ob := .cells z12 32 (0, 0)) (fun W => run_alloc_of rfl (al_Rp W)) rfl fun b4 W4 hM4 => ?_
  simp only [Act.put, List.setIfInBounds_toArray, List.set_cons_zero, List.set_cons_succ]
  refine wpList_nil ?_
  (go_step; go_step; go_step; refine wp_region_lit ?_)
  refine wl_row hM4 3 (v := numV k) rfl rfl rfl rfl rowNu rfl ?_
  simp only [Act.put, List.setIfInBounds_toArray, List.set_cons_zero, List.set_cons_succ]
  refine wl_callN hM4 (args := #[numV k]) (v := fun b => .slice (some ⟨b, 0, none⟩) 16 16) (ob := .cells ((rowH (dg k) 16).toArray) 23 (0, 0)) (fun W => run_call_fn W (enters_of Try.func78 rfl rfl) rfl (by simp [Act.eval])) (rof' k hk W4) rfl fun b5 W5 hM5 => ?_
  simp only [Act.put, List.setIfInBounds_toArray, List.set_cons_zero, List.set_cons_succ]
  refine wl_pure (v := .slice (some ⟨b5, 0, none⟩) 16 16) (fun _ => rfl) rfl ?_
  simp only [Act.put, List.setIfInBounds_toArray, List.set_cons_zero, List.set_cons_succ]
  refine wpList_nil ?_
  (go_step; go_step; go_step; refine wp_region_lit ?_)
  refine wl_call hM5 (args := #[]) (v := rpV 0 1 1) (fun W => run_call_fn W (enters_of Try.func38 rfl rfl) rfl (by simp [Act.eval])) (rzero_any W5) rfl fun W6 hM6 => ?_
  simp only [Act.put, List.setIfInBounds_toArray, List.set_cons_zero, List.set_cons_succ]
  refine wl_new hM6 (f := fun b => .pointer (some ⟨b, 0, none⟩)) (ob := .cells z12 32 (0, 0)) (fun W => run_alloc_of rfl (al_Rp W)) rfl fun b6 W7 hM7 => ?_
  simp only [Act.put, List.setIfInBounds_toArray, List.set_cons_zero, List.set_cons_succ]
  refine wl_set hM7 0 (cs := ((rpL 0 1 1).toArray)) rfl rfl rfl rfl rowRp rfl (one_rp _ _ _) rfl rfl fun W8 hM8 => ?_
  simp only [List.set_cons_zero, List.set_cons_succ] at hM8
  refine wpList_nil ?_
  (go_step; go_step; go_step; go_step; refine wp_region_lit ?_)
  refine wl_pure (v := .int .i64 255) (fun _ => rfl) rfl ?_
  simp only [Act.put, List.setIfInBounds_toArray, List.set_cons_zero, List.set_cons_succ]
  refine wpList_nil ?_
  (go_step; go_step; go_step; go_loopw [9] (fun i wr => ∃ m : Nat, m ≤ 256 ∧ i = .int .i64 (255 - (m : Int)) ∧ Mem w [(b6, .cells ((rpL (tms k q m).1 (tms k q m).2.1 (tms k q m).2.2).toArray) 32 (0, 0)), (b5, .cells ((rowH (dg k) 16).toArray) 23 (0, 0)), (b4, .cells z12 32 (0, 0)), (b3, .cells (elR dN) 24 (0, 0)), (b2, .cells ((rpL q.1 q.2.1 q.2.2).toArray) 32 (0, 0)), (b1, .cells (elR k) 24 (0, 0))] wr) (fun i _ => (Go.RowKit.intOf i + 1).toNat))
  case atStart => exact ⟨0, by omega, rfl, hM8⟩
  case round =>
    obtain ⟨m, hm, rfl, hR⟩ := hrel
    clear hM1 hM2 hM3 hM4 hM5 hM6 hM7 hM8
    obtain ⟨n, hn⟩ : ∃ n : Int, n = 255 - (m : Int) := ⟨_, rfl⟩
    rw [← hn]
    obtain ⟨a0, ea0⟩ : ∃ a, a = tms k q m := ⟨_, rfl⟩
    have ia0 : In3 a0 := by rw [ea0]; exact in3_tms k q m
    rw [← ea0] at hR
    (go_step; go_step; go_step; refine wp_region_lit ?_)
    refine wl_pure (v := .int .i64 n) (fun _ => rfl) rfl ?_
    simp only [Act.put, List.setIfInBounds_toArray, List.set_cons_zero, List.set_cons_succ]
    obtain ⟨c1, hc1⟩ : ∃ x, x = decide (0 ≤ n) := ⟨_, rfl⟩
    refine wl_pure (v := .bool c1) (fun W => run_bin_of rfl rfl rfl (by rw [hc1]; exact bin_geq_i n _ _ W)) rfl ?_
    simp only [Act.put, List.setIfInBounds_toArray, List.set_cons_zero, List.set_cons_succ]
    refine wpList_nil ?_
    cases c1
    · skip
      have hm6 : m = 256 := by
        have h9 := of_decide_eq_false hc1.symm
        omega
      subst hm6
      (go_step; go_step; go_step; go_step; go_step; go_step; go_step; go_step; go_step; refine wp_region_lit ?_)
      refine wl_row hR 0 (v := rpV a0.1 a0.2.1 a0.2.2) rfl rfl rfl rfl rowRp rfl ?_
      simp only [Act.put, List.setIfInBounds_toArray, List.set_cons_zero, List.set_cons_succ]
      refine wl_set hR 2 (cs := ((rpL a0.1 a0.2.1 a0.2.2).toArray)) rfl rfl rfl rfl rowRp rfl (one_rp _ _ _) rfl rfl fun W10 hM10 => ?_
      simp only [List.set_cons_zero, List.set_cons_succ] at hM10
      refine wpList_nil ?_
      (go_step; go_step; go_step; refine bodyPost_ret (v := rpV a0.1 a0.2.1 a0.2.2) (results_arr Try.results30 rfl (hM10.load 2 rfl rowRp)) rfl ⟨?_, hM10.below⟩)
      exact by rw [ea0]
    · skip
      have hn0 : 0 ≤ n := of_decide_eq_true hc1.symm
      have hn1 : n ≤ 1000000 := by omega
      have hml : m < 256 := by omega
      have hni : n = ((255 - m : Nat) : Int) := by omega
      obtain ⟨bt, hbt⟩ : ∃ x, k / 2 ^ (255 - m) % 2 = x := ⟨_, rfl⟩
      (go_step; go_step; go_step; go_step; go_step; go_step; go_step; go_step; go_step; refine wp_region_lit ?_)
      refine wl_row hR 0 (v := rpV a0.1 a0.2.1 a0.2.2) rfl rfl rfl rfl rowRp rfl ?_
      simp only [Act.put, List.setIfInBounds_toArray, List.set_cons_zero, List.set_cons_succ]
      refine wl_row hR 0 (v := rpV a0.1 a0.2.1 a0.2.2) rfl rfl rfl rfl rowRp rfl ?_
      simp only [Act.put, List.setIfInBounds_toArray, List.set_cons_zero, List.set_cons_succ]
      refine wl_row hR 3 (v := numV dN) rfl rfl rfl rfl rowNu rfl ?_
      simp only [Act.put, List.setIfInBounds_toArray, List.set_cons_zero, List.set_cons_succ]
      obtain ⟨a1, ea1⟩ : ∃ x, x = add3 a0 a0 := ⟨_, rfl⟩
      have ia1 : In3 a1 := by rw [ea1]; exact in3_add _ _
      have Ka1 := fun W => add3_any a0 a0 W ia0 ia0
      simp only [← ea1] at Ka1
      refine wl_call hR (args := #[rpV a0.1 a0.2.1 a0.2.2, rpV a0.1 a0.2.1 a0.2.2, numV dN]) (v := rpV a1.1 a1.2.1 a1.2.2) (fun W => run_call_fn W (enters_of Try.func10 rfl rfl) rfl (by simp [Act.eval])) (Ka1 wr) rfl fun W10 hM10 => ?_
      simp only [Act.put, List.setIfInBounds_toArray, List.set_cons_zero, List.set_cons_succ]
      refine wl_set hM10 0 (cs := ((rpL a1.1 a1.2.1 a1.2.2).toArray)) rfl rfl rfl rfl rowRp rfl (one_rp _ _ _) rfl rfl fun W11 hM11 => ?_
      simp only [List.set_cons_zero, List.set_cons_succ] at hM11
      refine wpList_nil ?_
      (go_step; go_step; go_step; refine wp_region_lit ?_)
      refine wl_pure (v := .slice (some ⟨b5, 0, none⟩) 16 16) (fun _ => rfl) rfl ?_
      simp only [Act.put, List.setIfInBounds_toArray, List.set_cons_zero, List.set_cons_succ]
      refine wl_pure (v := .int .i64 n) (fun _ => rfl) rfl ?_
      simp only [Act.put, List.setIfInBounds_toArray, List.set_cons_zero, List.set_cons_succ]
      refine wl_call hM11 (args := #[.slice (some ⟨b5, 0, none⟩) 16 16, .int .i64 n]) (v := .int .u64 (bt : Int)) (fun W => run_call_fn W (enters_of Try.func79 rfl rfl) rfl (by simp [Act.eval])) (rbit' k (255 - m) n bt hni hbt (by omega) hk b5 W11 (hM11.get 1 rfl)) rfl fun W12 hM12 => ?_
      simp only [Act.put, List.setIfInBounds_toArray, List.set_cons_zero, List.set_cons_succ]
      obtain ⟨c2, hc2⟩ : ∃ x, x = decide (bt = 1) := ⟨_, rfl⟩
      refine wl_pure (v := .bool c2) (fun W => run_bin_of rfl rfl rfl (by rw [hc2]; exact bin_eql_u bt _ _ W)) rfl ?_
      simp only [Act.put, List.setIfInBounds_toArray, List.set_cons_zero, List.set_cons_succ]
      refine wpList_nil ?_
      cases c2
      · skip
        have hb1 : ¬ bt = 1 := of_decide_eq_false hc2.symm
        (go_step; go_step; go_step; go_step; go_step; go_step; refine wp_region_lit ?_)
        refine wl_pure (v := .int .i64 n) (fun _ => rfl) rfl ?_
        simp only [Act.put, List.setIfInBounds_toArray, List.set_cons_zero, List.set_cons_succ]
        refine wl_pure (v := .int .i64 (n - 1)) (fun W => run_bin_of rfl rfl rfl (bin_sub_i n _ _ W hn0 hn1)) rfl ?_
        simp only [Act.put, List.setIfInBounds_toArray, List.set_cons_zero, List.set_cons_succ]
        refine wl_pure (v := .int .i64 (n - 1)) (fun _ => rfl) rfl ?_
        simp only [Act.put, List.setIfInBounds_toArray, List.set_cons_zero, List.set_cons_succ]
        refine wpList_nil ?_
        go_roundw
        case rel =>
          have hn2 : n - 1 = 255 - ((m + 1 : Nat) : Int) := by omega
          refine ⟨_, _, _, _, _, _, _, _, _, _, _, _, _, _, _, _, _, ?_, rfl⟩
          refine ⟨m + 1, by omega, congrArg (Value.int .i64) hn2, ?_⟩
          have ht : tms k q (m + 1) = a1 := by
            unfold tms
            rw [hbt, if_neg hb1, ← ea0, ← ea1]
          rw [ht]
          exact hM12
        case measure => simp [Go.RowKit.intOf]; omega
      · skip
        have hb1 : bt = 1 := of_decide_eq_true hc2.symm
        (go_step; go_step; go_step; refine wp_region_lit ?_)
        refine wl_row hM12 0 (v := rpV a1.1 a1.2.1 a1.2.2) rfl rfl rfl rfl rowRp rfl ?_
        simp only [Act.put, List.setIfInBounds_toArray, List.set_cons_zero, List.set_cons_succ]
        refine wl_row hM12 4 (v := rpV q.1 q.2.1 q.2.2) rfl rfl rfl rfl rowRp rfl ?_
        simp only [Act.put, List.setIfInBounds_toArray, List.set_cons_zero, List.set_cons_succ]
        refine wl_row hM12 3 (v := numV dN) rfl rfl rfl rfl rowNu rfl ?_
        simp only [Act.put, List.setIfInBounds_toArray, List.set_cons_zero, List.set_cons_succ]
        obtain ⟨a2, ea2⟩ : ∃ x, x = add3 a1 q := ⟨_, rfl⟩
        have ia2 : In3 a2 := by rw [ea2]; exact in3_add _ _
        have Ka2 := fun W => add3_any a1 q W ia1 iq
        simp only [← ea2] at Ka2
        refine wl_call hM12 (args := #[rpV a1.1 a1.2.1 a1.2.2, rpV q.1 q.2.1 q.2.2, numV dN]) (v := rpV a2.1 a2.2.1 a2.2.2) (fun W => run_call_fn W (enters_of Try.func10 rfl rfl) rfl (by simp [Act.eval])) (Ka2 W12) rfl fun W13 hM13 => ?_
        simp only [Act.put, List.setIfInBounds_toArray, List.set_cons_zero, List.set_cons_succ]
        refine wl_set hM13 0 (cs := ((rpL a2.1 a2.2.1 a2.2.2).toArray)) rfl rfl rfl rfl rowRp rfl (one_rp _ _ _) rfl rfl fun W14 hM14 => ?_
        simp only [List.set_cons_zero, List.set_cons_succ] at hM14
        refine wpList_nil ?_
        (go_step; go_step; refine wp_region_lit ?_)
        refine wl_pure (v := .int .i64 n) (fun _ => rfl) rfl ?_
        simp only [Act.put, List.setIfInBounds_toArray, List.set_cons_zero, List.set_cons_succ]
        refine wl_pure (v := .int .i64 (n - 1)) (fun W => run_bin_of rfl rfl rfl (bin_sub_i n _ _ W hn0 hn1)) rfl ?_
        simp only [Act.put, List.setIfInBounds_toArray, List.set_cons_zero, List.set_cons_succ]
        refine wl_pure (v := .int .i64 (n - 1)) (fun _ => rfl) rfl ?_
        simp only [Act.put, List.setIfInBounds_toArray, List.set_cons_zero, List.set_cons_succ]
        refine wpList_nil ?_
        go_roundw
        case rel =>
          have hn2 : n - 1 = 255 - ((m + 1 : Nat) : Int) := by omega
          refine ⟨_, _, _, _, _, _, _, _, _, _, _, _, _, _, _, _, _, ?_, rfl⟩
          refine ⟨m + 1, by omega, congrArg (Value.int .i64) hn2, ?_⟩
          have ht : tms k q (m + 1) = a2 := by
            unfold tms
            rw [hbt, if_pos hb1, ← ea0, ← ea1, ← ea2]
          rw [ht]
          exact hM14
        case measure => simp [Go.RowKit.intOf]; omega
end Go.Proofs.Ytigfoophimjgdaa
namespace Go.Proofs.Ytigfoophimjgdaa
set_option maxRecDepth 20000
set_option linter.unusedSimpArgs false
set_option linter.unusedVariables false
/-- A point by four numbers. -/
def Ext (X Y Z T : Fp) (p : Fp × Fp) : Prop := Z ≠ 0 ∧ p.1 * Z = X ∧ p.2 * Z = Y ∧ p.1 * p.2 * Z = T
theorem Ext.rep {X Y Z T : Fp} {p : Fp × Fp} (h : Ext X Y Z T p) : Rep X Y Z p := ⟨h.1, h.2.1, h.2.2.1⟩
section
variable {α : Type} [Lean.Grind.CommRing α]
theorem ext_parts (x1 y1 z1 x2 y2 z2 d u v : α) (hu : (1 + d*x1*x2*y1*y2) * u = 1) (hv : (1 - d*x1*x2*y1*y2) * v = 1) :
    let e := (x1*z1+y1*z1)*(x2*z2+y2*z2) - (x1*z1*(x2*z2) + y1*z1*(y2*z2)); let dts := d*(x1*y1*z1)*(x2*y2*z2); let f := z1*z2 - dts; let g := z1*z2 + dts; let h := y1*z1*(y2*z2) + x1*z1*(x2*z2)
    f = z1*z2*(1 - d*x1*x2*y1*y2) ∧ g = z1*z2*(1 + d*x1*x2*y1*y2) ∧ (x1*y2+y1*x2)*u*(f*g) = e*f ∧ (y1*y2+x1*x2)*v*(f*g) = g*h ∧ (x1*y2+y1*x2)*u*((y1*y2+x1*x2)*v)*(f*g) = e*h := by
  intro e dts f g h
  have e1 : f = z1*z2*(1 - d*x1*x2*y1*y2) := by clear hu hv; grind
  have e2 : g = z1*z2*(1 + d*x1*x2*y1*y2) := by clear hu hv; grind
  have e3 : e = z1*z2*(x1*y2+y1*x2) := by clear hu hv e1 e2; grind
  have e4 : h = z1*z2*(y1*y2+x1*x2) := by clear hu hv e1 e2 e3; grind
  refine ⟨e1, e2, ?_, ?_, ?_⟩
  all_goals
    rw [e1, e2]
    first | rw [e3] | skip
    first | rw [e4] | skip
    clear e1 e2 e3 e4
    generalize d*x1*x2*y1*y2 = k at *
    generalize x1*y2+y1*x2 = A at *
    generalize y1*y2+x1*x2 = B at *
    generalize z1*z2 = c at *
    grind
theorem twice_parts (x y z d u v : α) (hp : y*y - x*x = 1 + d*(x*x)*(y*y)) (hu : (1 + d*x*x*y*y) * u = 1) (hv : (1 - d*x*x*y*y) * v = 1) :
    let g := y*z*(y*z) - x*z*(x*z); let f := (z*z + z*z) - g; let e := x*z*(y*z) + x*z*(y*z); let h := y*z*(y*z) + x*z*(x*z)
    f = z*z*(1 - d*x*x*y*y) ∧ g = z*z*(1 + d*x*x*y*y) ∧ (x*y+y*x)*u*(f*g) = e*f ∧ (y*y+x*x)*v*(f*g) = g*h ∧ (x*y+y*x)*u*((y*y+x*x)*v)*(f*g) = e*h := by
  intro g f e h
  have e1 : f = z*z*(1 - d*x*x*y*y) := by clear hu hv; grind
  have e2 : g = z*z*(1 + d*x*x*y*y) := by clear hu hv e1; grind
  have e3 : e = z*z*(x*y+y*x) := by clear hu hv e1 e2 hp; grind
  have e4 : h = z*z*(y*y+x*x) := by clear hu hv e1 e2 e3 hp; grind
  refine ⟨e1, e2, ?_, ?_, ?_⟩
  all_goals
    rw [e1, e2]
    first | rw [e3] | skip
    first | rw [e4] | skip
    clear e1 e2 e3 e4 hp
    generalize d*x*x*y*y = k at *
    generalize x*y+y*x = A at *
    generalize y*y+x*x = B at *
    generalize z*z = c at *
    grind
end
/-- The sum, of four numbers each. -/
theorem ext_add (X Y Z T U V W S : Fp) (p q : Fp × Fp) (hp : On p) (hq : On q) (h1 : Ext X Y Z T p) (h2 : Ext U V W S q) :
    let e := (X+Y)*(U+V) - (X*U + Y*V); let f := Z*W - dF*T*S; let g := Z*W + dF*T*S; let h := Y*V + X*U; Ext (e*f) (g*h) (f*g) (e*h) (addE p q) := by
  intro e f g h
  obtain ⟨u, v, hu, hv, ep⟩ := add_parts p q hp hq
  obtain ⟨n1, rfl, rfl, rfl⟩ := h1
  obtain ⟨n2, rfl, rfl, rfl⟩ := h2
  obtain ⟨w1, w2⟩ := whole p q hp hq
  obtain ⟨r1, r2, r3, r4, r5⟩ := ext_parts p.1 p.2 Z q.1 q.2 W dF u v hu hv
  rw [ep]
  refine ⟨?_, r3, r4, r5⟩
  have m1 : f ≠ 0 := by
    show Z*W - dF*(p.1*p.2*Z)*(q.1*q.2*W) ≠ 0
    rw [r1]
    exact fp_ne_mul (fp_ne_mul n1 n2) w2
  have m2 : g ≠ 0 := by
    show Z*W + dF*(p.1*p.2*Z)*(q.1*q.2*W) ≠ 0
    rw [r2]
    exact fp_ne_mul (fp_ne_mul n1 n2) w1
  exact fp_ne_mul m1 m2
/-- Twice a point. -/
theorem ext_twice (X Y Z T : Fp) (p : Fp × Fp) (hp : On p) (h1 : Ext X Y Z T p) :
    let g := Y*Y - X*X; let f := (Z*Z + Z*Z) - g; let e := X*Y + X*Y; let h := Y*Y + X*X; Ext (e*f) (g*h) (f*g) (e*h) (addE p p) := by
  intro g f e h
  obtain ⟨u, v, hu, hv, ep⟩ := add_parts p p hp hp
  obtain ⟨n1, rfl, rfl, rfl⟩ := h1
  obtain ⟨w1, w2⟩ := whole p p hp hp
  obtain ⟨r1, r2, r3, r4, r5⟩ := twice_parts p.1 p.2 Z dF u v hp hu hv
  rw [ep]
  refine ⟨?_, r3, r4, r5⟩
  have m2 : g ≠ 0 := by
    show p.2*Z*(p.2*Z) - p.1*Z*(p.1*Z) ≠ 0
    rw [r2]
    exact fp_ne_mul (fp_ne_mul n1 n1) w1
  have m1 : f ≠ 0 := by
    show (Z*Z + Z*Z) - (p.2*Z*(p.2*Z) - p.1*Z*(p.1*Z)) ≠ 0
    rw [r1]
    exact fp_ne_mul (fp_ne_mul n1 n1) w2
  exact fp_ne_mul m1 m2
theorem ext_neg (X Y Z T : Fp) (p : Fp × Fp) (h : Ext X Y Z T p) : Ext (-X) Y Z (-T) (negE p) := by
  obtain ⟨n, rfl, rfl, rfl⟩ := h
  refine ⟨n, ?_, rfl, ?_⟩
  · exact Lean.Grind.Ring.neg_mul _ _
  · show -p.1 * p.2 * Z = -(p.1 * p.2 * Z)
    rw [Lean.Grind.Ring.neg_mul, Lean.Grind.Ring.neg_mul]
/-- Which are the same. -/
theorem ext_same (X Y Z T U V W S : Fp) (p q : Fp × Fp) (h1 : Ext X Y Z T p) (h2 : Ext U V W S q) : (X * W = U * Z ∧ Y * W = V * Z) ↔ p = q := by
  obtain ⟨n1, rfl, rfl, rfl⟩ := h1
  obtain ⟨n2, rfl, rfl, rfl⟩ := h2
  have hn := fp_ne_mul n1 n2
  constructor
  · rintro ⟨a, b⟩
    refine Prod.ext (fp_cancel _ _ (Z * W) hn ?_) (fp_cancel _ _ (Z * W) hn ?_)
    · rw [← Lean.Grind.Semiring.mul_assoc, a, Lean.Grind.CommSemiring.mul_comm Z W, ← Lean.Grind.Semiring.mul_assoc]
    · rw [← Lean.Grind.Semiring.mul_assoc, b, Lean.Grind.CommSemiring.mul_comm Z W, ← Lean.Grind.Semiring.mul_assoc]
  · rintro rfl
    constructor
    · rw [Lean.Grind.Semiring.mul_assoc, Lean.Grind.CommSemiring.mul_comm Z W, ← Lean.Grind.Semiring.mul_assoc]
    · rw [Lean.Grind.Semiring.mul_assoc, Lean.Grind.CommSemiring.mul_comm Z W, ← Lean.Grind.Semiring.mul_assoc]
/-- The point itself, by the divisor's inverse. -/
theorem rep_xy (X Y Z : Fp) (p : Fp × Fp) (h : Rep X Y Z p) : X * inv Z = p.1 ∧ Y * inv Z = p.2 := by
  obtain ⟨n, rfl, rfl⟩ := h
  have i := inv_ok Z n
  constructor
  · rw [Lean.Grind.Semiring.mul_assoc, i, Lean.Grind.Semiring.mul_one]
  · rw [Lean.Grind.Semiring.mul_assoc, i, Lean.Grind.Semiring.mul_one]
end Go.Proofs.Ytigfoophimjgdaa
namespace Go.Proofs.Ytigfoophimjgdaa
set_option maxRecDepth 20000
set_option linter.unusedSimpArgs false
set_option linter.unusedVariables false
open Go.RowKit Go.Sort
abbrev N4 := Nat × Nat × Nat × Nat
abbrev Pt := Fp × Fp
def pl4 (a : N4) : List Value := ptL a.1 a.2.1 a.2.2.1 a.2.2.2
def pc4 (a : N4) : Array Value := (pl4 a).toArray
def pv4 (a : N4) : Value := .agg (pc4 a)
def pv3 (a : N3) : Value := rpV a.1 a.2.1 a.2.2
/-- These four numbers are that point, on the curve. -/
structure Ok4 (a : N4) (p : Pt) : Prop where
  x : a.1 < PN
  y : a.2.1 < PN
  z : a.2.2.1 < PN
  t : a.2.2.2 < PN
  on : On p
  ext : Ext (fz a.1) (fz a.2.1) (fz a.2.2.1) (fz a.2.2.2) p
structure Ok3 (a : N3) (p : Pt) : Prop where
  is : In3 a
  on : On p
  rep : Rep (fz a.1) (fz a.2.1) (fz a.2.2) p
theorem fz_pos {z : Nat} (h : fz z ≠ 0) : 0 < z := Nat.pos_of_ne_zero fun e => h (by rw [e]; rfl)
theorem Ok4.pos {a : N4} {p : Pt} (h : Ok4 a p) : 0 < a.2.2.1 := fz_pos h.ext.1
theorem fz_subm (a b : Nat) (hb : b < PN) : fz ((a + PN - b) % PN) = fz a - fz b := by rw [fz_mod, fz_sub a b (Nat.le_of_lt hb)]
theorem fz_negm (b : Nat) (hb : b < PN) : fz ((0 + PN - b) % PN) = -fz b := by
  rw [fz_subm 0 b hb, fz_zero]
  show (0 : Fp) - fz b = -fz b
  grind
theorem md (a : Nat) : a % PN < PN := Nat.mod_lt _ PN_pos
def add4 (a b : N4) : N4 := (sumX dN a.1 a.2.1 a.2.2.1 a.2.2.2 b.1 b.2.1 b.2.2.1 b.2.2.2, sumY dN a.1 a.2.1 a.2.2.1 a.2.2.2 b.1 b.2.1 b.2.2.1 b.2.2.2, sumZ dN a.2.2.1 a.2.2.2 b.2.2.1 b.2.2.2, sumT a.1 a.2.1 b.1 b.2.1)
def dbl4 (a : N4) : N4 := (dblX a.1 a.2.1 a.2.2.1, dblY a.1 a.2.1, dblZ a.1 a.2.1 a.2.2.1, dblT a.1 a.2.1)
def neg4 (a : N4) : N4 := ((0 + PN - a.1) % PN, a.2.1, a.2.2.1, (0 + PN - a.2.2.2) % PN)
def zero4 : N4 := (0, 1, 1, 0)
def base4 : N4 := (bX, bY, 1, bX * bY % PN)
theorem one_below : 1 < PN := by decide +kernel
theorem ok4_at (x y : Nat) (p : Pt) (hx : x < PN) (hy : y < PN) (hp : On p) (h1 : p.1 = fz x) (h2 : p.2 = fz y) : Ok4 (x, y, 1, x * y % PN) p := by
  refine ⟨hx, hy, one_below, md _, hp, base_rep.1, ?_, ?_, ?_⟩
  · show p.1 * fz 1 = fz x
    rw [fz_one, Lean.Grind.Semiring.mul_one, h1]
  · show p.2 * fz 1 = fz y
    rw [fz_one, Lean.Grind.Semiring.mul_one, h2]
  · show p.1 * p.2 * fz 1 = fz (x * y % PN)
    rw [fz_mod, fz_mul, fz_one, Lean.Grind.Semiring.mul_one, h1, h2]
theorem ok4_zero : Ok4 zero4 zeroE := ok4_at 0 1 zeroE (by decide +kernel) (by decide +kernel) on_zero rfl rfl
theorem ok4_base : Ok4 base4 baseE := ok4_at bX bY baseE bX_lt bY_lt on_base rfl rfl
theorem ok4_add {a b : N4} {p q : Pt} (ha : Ok4 a p) (hb : Ok4 b q) : Ok4 (add4 a b) (addE p q) := by
  refine ⟨md _, md _, md _, md _, on_add p q ha.on hb.on, ?_⟩
  have h := ext_add _ _ _ _ _ _ _ _ p q ha.on hb.on ha.ext hb.ext
  simp only [add4, sumX, sumY, sumZ, sumT, fz_mod, fz_mul, fz_add, fz_subm _ _ (md _)]
  exact h
theorem ok4_dbl {a : N4} {p : Pt} (ha : Ok4 a p) : Ok4 (dbl4 a) (addE p p) := by
  refine ⟨md _, md _, md _, md _, on_add p p ha.on ha.on, ?_⟩
  have h := ext_twice _ _ _ _ p ha.on ha.ext
  simp only [dbl4, dblX, dblY, dblZ, dblT, fz_mod, fz_mul, fz_add, fz_subm _ _ (md _)]
  exact h
theorem ok4_neg {a : N4} {p : Pt} (ha : Ok4 a p) : Ok4 (neg4 a) (negE p) := by
  refine ⟨md _, ha.y, ha.z, md _, on_neg p ha.on, ?_⟩
  have h := ext_neg _ _ _ _ p ha.ext
  show Ext (fz ((0 + PN - a.1) % PN)) (fz a.2.1) (fz a.2.2.1) (fz ((0 + PN - a.2.2.2) % PN)) (negE p)
  rw [fz_negm _ ha.x, fz_negm _ ha.t]
  exact h
theorem ok3_add {a b : N3} {p q : Pt} (ha : Ok3 a p) (hb : Ok3 b q) : Ok3 (add3 a b) (addE p q) :=
  ⟨in3_add a b, on_add p q ha.on hb.on, addN_rep _ _ _ _ _ _ p q ha.on hb.on ha.rep hb.rep⟩
theorem ok3_zero : Ok3 (0, 1, 1) zeroE := ⟨⟨by decide +kernel, by decide +kernel, by decide +kernel⟩, on_zero, zero_rep⟩
theorem ok3_base : Ok3 (bX, bY, 1) baseE := ⟨⟨bX_lt, bY_lt, by decide +kernel⟩, on_base, base_rep⟩
def neg3 (a : N3) : N3 := ((0 + PN - a.1) % PN, a.2.1, a.2.2)
theorem ok3_neg {a : N3} {p : Pt} (ha : Ok3 a p) : Ok3 (neg3 a) (negE p) := by
  refine ⟨⟨md _, ha.is.2.1, ha.is.2.2⟩, on_neg p ha.on, ?_⟩
  obtain ⟨n, h1, h2⟩ := ha.rep
  refine ⟨n, ?_, h2⟩
  show -p.1 * fz a.2.2 = fz ((0 + PN - a.1) % PN)
  rw [fz_negm _ ha.is.1, ← h1]
  exact Lean.Grind.Ring.neg_mul _ _
/-- So many times. -/
theorem ok3_tms {q : N3} {p : Pt} (hq : Ok3 q p) (k : Nat) (hk : k < B64 ^ 4) : ∀ m, m ≤ 256 → Ok3 (tms k q m) (timesE (k / 2 ^ (256 - m)) p)
  | 0, _ => by
    have e : k / 2 ^ (256 - 0) = 0 := by
      rw [Nat.div_eq_zero_iff]
      right
      have : B64 ^ 4 = 2 ^ (256 - 0) := by decide +kernel
      omega
    rw [e]
    exact ok3_zero
  | m + 1, hm => by
    have ih := ok3_tms hq k hk m (by omega)
    have e1 : k / 2 ^ (256 - (m + 1)) = 2 * (k / 2 ^ (256 - m)) + k / 2 ^ (255 - m) % 2 := by
      rw [show 256 - (m + 1) = 255 - m by omega, show 256 - m = (255 - m) + 1 by omega, Nat.pow_succ, ← Nat.div_div_eq_div_mul]
      omega
    have hd := ok3_add ih ih
    have e2 : timesE (2 * (k / 2 ^ (256 - m))) p = addE (timesE (k / 2 ^ (256 - m)) p) (timesE (k / 2 ^ (256 - m)) p) := by
      rw [Nat.two_mul, times_add p hq.on]
    unfold tms
    split
    · rename_i hb
      rw [e1, hb]
      show Ok3 _ (addE (timesE (2 * (k / 2 ^ (256 - m))) p) p)
      rw [e2]
      exact ok3_add hd hq
    · rename_i hb
      have hb0 : k / 2 ^ (255 - m) % 2 = 0 := by omega
      rw [e1, hb0, Nat.add_zero, e2]
      exact hd
theorem ok3_times {q : N3} {p : Pt} (hq : Ok3 q p) (k : Nat) (hk : k < B64 ^ 4) : Ok3 (tms k q 256) (timesE k p) := by
  have h := ok3_tms hq k hk 256 (Nat.le_refl _)
  rw [Nat.sub_self, Nat.pow_zero, Nat.div_one] at h
  exact h
/-- The point itself. -/
theorem iv_fz (z : Nat) (hz : z < PN) : fz (IV z) = inv (fz z) := by
  unfold IV inv
  rw [fz_mod, fz_val, Nat.mod_eq_of_lt hz]
theorem xy_of (x y z : Nat) (p : Pt) (hz : z < PN) (h : Rep (fz x) (fz y) (fz z) p) : x * IV z % PN = p.1.val ∧ y * IV z % PN = p.2.val := by
  obtain ⟨h1, h2⟩ := rep_xy _ _ _ p h
  constructor
  · have e : fz (x * IV z % PN) = p.1 := by rw [fz_mod, fz_mul, iv_fz z hz, h1]
    rw [← e, fz_val, Nat.mod_mod]
  · have e : fz (y * IV z % PN) = p.2 := by rw [fz_mod, fz_mul, iv_fz z hz, h2]
    rw [← e, fz_val, Nat.mod_mod]
theorem fz_eq (a b : Nat) : a % PN = b % PN ↔ fz a = fz b := ⟨fun h => by rw [← fz_mod a, h, fz_mod], fun h => by have := congrArg Fin.val h; exact this⟩
theorem same4 {a b : N4} {p q : Pt} (ha : Ok4 a p) (hb : Ok4 b q) : sameB a.1 a.2.1 a.2.2.1 b.1 b.2.1 b.2.2.1 = decide (p = q) := by
  have h := ext_same _ _ _ _ _ _ _ _ p q ha.ext hb.ext
  unfold sameB
  rw [← Bool.decide_and, decide_eq_decide, ← h, fz_eq, fz_eq, fz_mul, fz_mul, fz_mul, fz_mul]
end Go.Proofs.Ytigfoophimjgdaa
