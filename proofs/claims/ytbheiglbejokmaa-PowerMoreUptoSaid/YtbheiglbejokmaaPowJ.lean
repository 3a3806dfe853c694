/- PowerTells (layer 57): its walk. -/
import Derived.Test.YtbheiglbejokmaaPowI
import Derived.Test.YtbheiglbejokmaaHlw
import Derived.Test.YtbheiglbejokmaaNodH
namespace Go.Proofs.Ytbheiglbejokmaa
set_option maxRecDepth 20000
set_option linter.unusedSimpArgs false
set_option linter.unusedVariables false
open Go.RowKit Go.Sort Go.Lib Go.MapKept
attribute [local go_sem] Oper.semAt_some
theorem run_not_b {P : Program} {o : Oper} {A : Act} {t : TypeId} {x : Operand} {b : Bool} (W : World) (ho : o.op = .unOp .not t x) (hx : A.eval x = .bool b) {c : Bool} (hc : (!b) = c) : (execOp A.eval o).run P W = .ok (.value (.bool c)) W := by
  subst hc
  unfold execOp
  simp only [ho, hx]
  rfl
theorem neq_Lv (a0 a1 a2 a3 a4 a5 a6 : Int) (x y : Operand) (W : World) : (do eqGuard .neq 53 x y (.agg #[.int .i64 a0, .int .i64 a1, .int .i64 a2, .int .i64 a3, .int .i64 a4, .int .i64 a5, .int .i64 a6]) (.agg #[.int .i64 a0, .int .i64 a1, .int .i64 a2, .int .i64 a3, .int .i64 a4, .int .i64 a5, .int .i64 a6]); binOp .neq 53 (.agg #[.int .i64 a0, .int .i64 a1, .int .i64 a2, .int .i64 a3, .int .i64 a4, .int .i64 a5, .int .i64 a6]) (.agg #[.int .i64 a0, .int .i64 a1, .int .i64 a2, .int .i64 a3, .int .i64 a4, .int .i64 a5, .int .i64 a6]) : Sem Value).run Try.prog W = .ok (.bool false) W := by go_simp
theorem neq_J (a : Int) (x y : Operand) (W : World) : (do eqGuard .neq 2 x y (.int .i64 a) (.int .i64 a); binOp .neq 2 (.int .i64 a) (.int .i64 a) : Sem Value).run Try.prog W = .ok (.bool false) W := by go_simp
theorem neq_B (a : Bool) (x y : Operand) (W : World) : (do eqGuard .neq 4 x y (.bool a) (.bool a); binOp .neq 4 (.bool a) (.bool a) : Sem Value).run Try.prog W = .ok (.bool false) W := by go_simp
theorem bs_B2 (W : World) : (Instr.buildSlice 58 2 #[(0, .bool false), (1, .bool true)]).run Try.prog W = .ok (.slice (some ⟨W.heap.size, 0, none⟩) 2 2) (W.alloc (.cells #[.bool false, .bool true] 4 (0, 0))) := by kernel_rfl
theorem ix_B (g k n c : Nat) (hk : k < n) (W : World) : (Instr.indexAt 58 (.slice (some ⟨g, 0, none⟩) n c) (.int .i64 (k : Int))).run Try.prog W = .ok (.pointer (some ⟨g, k, none⟩)) W := by
  have h1 : (0 : Int) ≤ (k : Int) := by omega
  have h2 : (k : Int) < (n : Int) := by omega
  have e : (⟨g, 0, none⟩ : Addr).add (k * 1) = ⟨g, k, none⟩ := by unfold Addr.add; split <;> simp_all
  go_simp
theorem b2_at {k : Nat} (h : k < 2) : (#[.bool false, .bool true] : Array Value)[k]? = some (.bool (k == 1)) := by
  have : k = 0 ∨ k = 1 := by omega
  rcases this with rfl | rfl <;> rfl
set_option maxRecDepth 100000 in
set_option maxHeartbeats 8000000 in
theorem powerTells_walk (w : World) (cs : List Value) (N : Nd) (h : IsNd w cs N) (hbig : N.all.length ≤ 1048576) (u kn : ByteArray) (_wu : u.size ≤ maxLen) (_wk : kn.size ≤ maxLen) :
    Calls Try.prog 7 #[.agg cs.toArray, .string u, .string kn] w fun e w' => e = .returned (.bool true) ∧ Below w.heap.size w w' := by
  have HMIX := Lib.hid (show Try.prog.follows .mixedOrders = true by kernel_rfl)
  have KF := Lib.hid (fun W (hb : Below w.heap.size w W) => few_any W cs N (h.keep hb) hbig 200)
  have KL := Lib.hid lives57_any
  have KO := Lib.hid (fun W (hb : Below w.heap.size w W) => of_any W cs N (h.keep hb))
  have KR := Lib.hid (fun W (hb : Below w.heap.size w W) => rof_any W cs N (h.keep hb))
  have KU := Lib.hid (fun W (hb : Below w.heap.size w W) => user_any W cs N (h.keep hb) u)
  have KV := Lib.hid (fun W (hb : Below w.heap.size w W) => ruser_any W cs N (h.keep hb) u)
  have KE := Lib.hid (fun W (hb : Below w.heap.size w W) s => event_any W cs N (h.keep hb) kn s)
  have KG := Lib.hid (fun W (hb : Below w.heap.size w W) s => revent_any W cs N (h.keep hb) kn s)
  have KM := Lib.hid (fun W (hb : Below w.heap.size w W) s => may2_any W cs N (h.keep hb) u kn s)
  have hcs := isNd_len h
  obtain ⟨ca, eca⟩ : ∃ z, z = cs.toArray := ⟨_, rfl⟩
  rw [← eca] at KF KO KR KU KV KE KG KM hcs ⊢
  obtain ⟨us, eus⟩ : ∃ z, z = N.user u := ⟨_, rfl⟩
  rw [← eus] at KU KV KM
  obtain ⟨ev, eev⟩ : ∃ z, z = N.event kn := ⟨_, rfl⟩
  rw [← eev] at KE KG KM
  obtain ⟨LV, eLV⟩ : ∃ z, z = N.lvls := ⟨_, rfl⟩
  rw [← eLV] at KO
  have hs7 : LV.size = 7 := by rw [eLV]; rfl
  have ho7 : LV.all (·.oneCell') = true := by rw [eLV]; exact lvls_one N
  obtain ⟨l0, el0⟩ : ∃ z, z = N.lvl pnm0 50 := ⟨_, rfl⟩
  obtain ⟨l1, el1⟩ : ∃ z, z = N.lvl pnm1 50 := ⟨_, rfl⟩
  obtain ⟨l2, el2⟩ : ∃ z, z = N.lvl pnm2 50 := ⟨_, rfl⟩
  obtain ⟨l3, el3⟩ : ∃ z, z = N.lvl pnm3 0 := ⟨_, rfl⟩
  obtain ⟨l4, el4⟩ : ∃ z, z = N.lvl pnm4 50 := ⟨_, rfl⟩
  obtain ⟨l5, el5⟩ : ∃ z, z = N.lvl pnm5 0 := ⟨_, rfl⟩
  obtain ⟨l6, el6⟩ : ∃ z, z = N.lvl pnm6 0 := ⟨_, rfl⟩
  have hlv : LV = #[.int .i64 l0, .int .i64 l1, .int .i64 l2, .int .i64 l3, .int .i64 l4, .int .i64 l5, .int .i64 l6] := by rw [eLV, el0, el1, el2, el3, el4, el5, el6]; rfl
  have QL := Lib.hid (fun (x y : Operand) (W : World) => show (do eqGuard .neq 53 x y (.agg LV) (.agg LV); binOp .neq 53 (.agg LV) (.agg LV) : Sem Value).run Try.prog W = .ok (.bool false) W by rw [hlv]; exact neq_Lv _ _ _ _ _ _ _ x y W)
  have BL := Lib.hid (fun (W : World) => show (Instr.build 53 #[(0, .int .i64 l0), (1, .int .i64 l1), (2, .int .i64 l2), (3, .int .i64 l3), (4, .int .i64 l4), (5, .int .i64 l5), (6, .int .i64 l6)]).run Try.prog W = .ok (.agg LV) W by rw [hlv]; exact bd_Lv _ _ _ _ _ _ _ W)
  have HL0 := Lib.hid (show ∀ r : List Value, (N.lvls.toList ++ r).toArray[0]? = some (.int .i64 l0) from fun r => (lv_row N r 0 (by decide)).trans (by rw [el0]; rfl))
  have HL1 := Lib.hid (show ∀ r : List Value, (N.lvls.toList ++ r).toArray[1]? = some (.int .i64 l1) from fun r => (lv_row N r 1 (by decide)).trans (by rw [el1]; rfl))
  have HL2 := Lib.hid (show ∀ r : List Value, (N.lvls.toList ++ r).toArray[2]? = some (.int .i64 l2) from fun r => (lv_row N r 2 (by decide)).trans (by rw [el2]; rfl))
  have HL3 := Lib.hid (show ∀ r : List Value, (N.lvls.toList ++ r).toArray[3]? = some (.int .i64 l3) from fun r => (lv_row N r 3 (by decide)).trans (by rw [el3]; rfl))
  have HL4 := Lib.hid (show ∀ r : List Value, (N.lvls.toList ++ r).toArray[4]? = some (.int .i64 l4) from fun r => (lv_row N r 4 (by decide)).trans (by rw [el4]; rfl))
  have HL5 := Lib.hid (show ∀ r : List Value, (N.lvls.toList ++ r).toArray[5]? = some (.int .i64 l5) from fun r => (lv_row N r 5 (by decide)).trans (by rw [el5]; rfl))
  have HL6 := Lib.hid (show ∀ r : List Value, (N.lvls.toList ++ r).toArray[6]? = some (.int .i64 l6) from fun r => (lv_row N r 6 (by decide)).trans (by rw [el6]; rfl))
  clear h hbig eca eus eev hlv eLV el0 el1 el2 el3 el4 el5 el6
  go_enter Try.func7, Try.ntmps7
  go_upto_region 0 with fail
  have hM0 := Mem.start w
  refine wp_region_lit ?_
  refine wl_new hM0 (f := fun b => .pointer (some ⟨b, 0, none⟩)) (ob := .cells ca 25 (0, 0)) (fun W => run_box_of rfl rfl (bx_Nd ca hcs W)) rfl fun b3 W1 hM1 => ?_
  simp only [nm0, nm1, nm2, nm3]
  refine wl_pure (v := .bool false) (fun W => rfl) rfl ?_
  simp only [nm0, nm1, nm2, nm3]
  refine wpList_nil ?_
  go_upto_region 1 with fail
  refine wp_region_lit ?_
  refine wl_row hM1 0 (v := .agg ca) rfl rfl rfl rfl (by rw [hcs]; exact rowNd) rfl ?_
  simp only [nm0, nm1, nm2, nm3]
  refine wl_callX (args := #[.agg ca, .int .i64 200]) (fun W => run_call_fn W (enters_of Try.func9 (by kernel_rfl) rfl) rfl (by simp [Act.eval]; try rfl)) (KF.out W1 hM1.below) rfl ?_
  rintro e W2 ⟨fw, rfl, hb2⟩
  refine ⟨_, rfl, ?_⟩
  simp only [nm0, nm1, nm2, nm3]
  have hM2 := hM1.calls hb2
  clear hb2 KF
  cases fw with
  | false =>
    refine wl_pure (v := .bool true) (fun W => run_not_b W rfl rfl rfl) rfl ?_
    simp only [nm0, nm1, nm2, nm3]
    refine wpList_nil ?_
    have HBL := Lib.hid hM2.below
    clear hM0 hM1 hM2
    go_wp2_with fail
    refine (KL.out W2).mono ?_
    rintro e W9 ⟨rfl, hb9⟩
    have HB9 := Lib.hid (HBL.out.trans (hb9.mono HBL.out.size))
    clear hb9
    go_wp2_with fail
    exact bodyPost_ret (results_slot rfl rfl) rfl ⟨rfl, HB9.out⟩
  | true =>
    refine wl_pure (v := .bool false) (fun W => run_not_b W rfl rfl rfl) rfl ?_
    simp only [nm0, nm1, nm2, nm3]
    refine wpList_nil ?_
    clear hM0 hM1
    go_upto_region 3 with fail
    refine wp_region_cut (Q' := fun e A1 w1 => e = .normal ∧ ∃ (b7 g cap : Nat) (r : List Value), A1 = { tmps := #[.agg ca, .string u, .string kn, .pointer (some ⟨b3, 0, none⟩), undef, undef, .bool false, .pointer (some ⟨b7, 0, none⟩), .slice (some ⟨g, 0, none⟩) 7 cap, undef, undef, .agg ca, .bool true, .bool false, undef, .agg ca, .agg LV, .agg ca, .slice (some ⟨g, 0, none⟩) 7 cap, undef, undef, undef, undef, undef, undef, undef, undef, undef, undef, undef, undef, undef, undef, undef, undef, undef, undef, undef, undef, undef, undef, undef, undef, undef, undef, undef, undef, undef, undef, undef, undef, undef, undef, undef, undef, undef, undef, undef, undef, undef, undef, undef, undef, undef, undef, undef, undef, undef, undef, undef, undef, undef, undef, undef, undef, undef, undef, undef, undef, undef, undef, undef, undef, undef, undef], defers := [] } ∧ Mem w [(b7, .cells LV 53 (0, 0)), (g, .cells (N.lvls.toList ++ r).toArray 2 (0, 0)), (b3, .cells ca 25 (0, 0))] w1) ?_ ?_
    rotate_left
    · skip
      go_upto_region 3 with fail
      have hMd := hM2.drew
      refine wp_region_noPanic (hold_begin (S := fun W => W.heap[b3]? = some (.cells ca 25 (0, 0))) (st := 5) HMIX.out ?_)
      change Hold _ _ _ _ _ _ 7 _ _ _
      generalize eV0 : W2.drew = V0 at hMd ⊢
      have hV0 := hMd
      clear hMd
      refine hw_take 0 15 [5] #[true, false, false, false, false, false, false] (by kernel_rfl) (v := .agg ca) rfl rfl (by kernel_rfl) (by kernel_rfl) (by kernel_rfl) (by kernel_rfl) (by kernel_rfl) (by kernel_rfl) rfl (fun W hW => run_load_row rfl rfl hW (by rw [hcs]; exact rowNd)) (hV0.at_ (b3, _) (by simp)) ?_
      simp only [nm0, nm1, nm2, nm3]
      refine hw_take 2 17 [3, 5] #[true, false, true, false, false, false, false] (by kernel_rfl) (v := .agg ca) rfl rfl (by kernel_rfl) (by kernel_rfl) (by kernel_rfl) (by kernel_rfl) (by kernel_rfl) (by kernel_rfl) rfl (fun W hW => run_load_row rfl rfl hW (by rw [hcs]; exact rowNd)) (hV0.at_ (b3, _) (by simp)) ?_
      simp only [nm0, nm1, nm2, nm3]
      refine hold_next (rs := [1, 4]) (by kernel_rfl) (by simp) ?_
      intro i hi
      simp only [List.mem_cons, List.not_mem_nil, or_false] at hi
      rcases hi with rfl | rfl
      · skip
        refine hw_call (d := 16) (args := #[.agg ca]) rfl rfl rfl (fun W => run_call_fn W (enters_of Try.func28 (by kernel_rfl) rfl) rfl (by simp [Act.eval]; try rfl)) (KO.out V0 hV0.below) #[true, true, true, false, false, false, false] (by kernel_rfl) ?_
        rintro e Y1 ⟨rfl, hb1⟩
        have hY1 := hV0.calls hb1
        refine ⟨_, rfl, (fun _ => hY1.at_ (b3, _) (by simp)), ?_⟩
        simp only [nm0, nm1, nm2, nm3]
        refine hold_next (rs := [3, 4]) (by kernel_rfl) (by simp) ?_
        intro i hi
        simp only [List.mem_cons, List.not_mem_nil, or_false] at hi
        rcases hi with rfl | rfl
        · skip
          refine hw_call (d := 18) (args := #[.agg ca]) rfl rfl rfl (fun W => run_call_fn W (enters_of Try.func29 (by kernel_rfl) rfl) rfl (by simp [Act.eval]; try rfl)) (KR.out Y1 hY1.below) #[true, true, true, true, false, false, false] (by kernel_rfl) ?_
          rintro e Y2 ⟨g, cap, r, rfl, hg2, hgl2, hb2⟩
          have hY2 := hY1.news1 hb2 hgl2 hg2
          refine ⟨_, rfl, (fun _ => hY2.at_ (b3, _) (by simp)), ?_⟩
          simp only [nm0, nm1, nm2, nm3]
          refine hold_next (rs := [4]) (by kernel_rfl) (by simp) ?_
          intro i hi
          simp only [List.mem_cons, List.not_mem_nil, or_false] at hi
          subst hi
          refine hw_new (d := 7) (f := fun b => .pointer (some ⟨b, 0, none⟩)) (ob := .cells lvZ 53 (0, 0)) rfl rfl rfl hY2 (fun W => run_alloc_of rfl (al_Lv W)) #[true, true, true, true, true, false, false] (by kernel_rfl) fun b7 Y3 hY3 => ⟨(fun _ => hY3.at_ (b3, _) (by simp)), ?_⟩
          simp only [nm0, nm1, nm2, nm3]
          refine hold_next (rs := [5]) (by kernel_rfl) (by simp) ?_
          intro i hi
          simp only [List.mem_cons, List.not_mem_nil, or_false] at hi
          subst hi
          refine hw_set rfl rfl rfl hY3 0 (cs := LV) rfl rfl rfl rfl (by rw [hs7]; exact rowLv) (by rw [hs7]; rfl) ho7 #[true, true, true, true, true, true, false] (by kernel_rfl) fun Y4 hY4 => ⟨(fun h => by cases h), ?_⟩
          simp only [nm2, nm3] at hY4
          refine hw_pure 6 8 #[true, true, true, true, true, true, true] (by kernel_rfl) (v := .slice (some ⟨g, 0, none⟩) 7 cap) rfl rfl (by kernel_rfl) rfl (by kernel_rfl) (by kernel_rfl) rfl (fun W => rfl) (fun h => by cases h) ?_
          simp only [nm0, nm1, nm2, nm3]
          refine hold_done (by kernel_rfl) ?_ _
          refine NoPanic.normal ?_
          exact ⟨rfl, b7, g, cap, r, rfl, hY4⟩
        · skip
          refine hw_new (d := 7) (f := fun b => .pointer (some ⟨b, 0, none⟩)) (ob := .cells lvZ 53 (0, 0)) rfl rfl rfl hY1 (fun W => run_alloc_of rfl (al_Lv W)) #[true, true, true, false, true, false, false] (by kernel_rfl) fun b7 Y5 hY5 => ⟨(fun _ => hY5.at_ (b3, _) (by simp)), ?_⟩
          simp only [nm0, nm1, nm2, nm3]
          refine hold_next (rs := [3]) (by kernel_rfl) (by simp) ?_
          intro i hi
          simp only [List.mem_cons, List.not_mem_nil, or_false] at hi
          subst hi
          refine hw_call (d := 18) (args := #[.agg ca]) rfl rfl rfl (fun W => run_call_fn W (enters_of Try.func29 (by kernel_rfl) rfl) rfl (by simp [Act.eval]; try rfl)) (KR.out Y5 hY5.below) #[true, true, true, true, true, false, false] (by kernel_rfl) ?_
          rintro e Y6 ⟨g, cap, r, rfl, hg6, hgl6, hb6⟩
          have hY6 := hY5.news1 hb6 hgl6 hg6
          refine ⟨_, rfl, (fun _ => hY6.at_ (b3, _) (by simp)), ?_⟩
          simp only [nm0, nm1, nm2, nm3]
          refine hold_next (rs := [5]) (by kernel_rfl) (by simp) ?_
          intro i hi
          simp only [List.mem_cons, List.not_mem_nil, or_false] at hi
          subst hi
          refine hw_set rfl rfl rfl hY6 1 (cs := LV) rfl rfl rfl rfl (by rw [hs7]; exact rowLv) (by rw [hs7]; rfl) ho7 #[true, true, true, true, true, true, false] (by kernel_rfl) fun Y7 hY7 => ⟨(fun h => by cases h), ?_⟩
          simp only [nm2, nm3] at hY7
          refine hw_pure 6 8 #[true, true, true, true, true, true, true] (by kernel_rfl) (v := .slice (some ⟨g, 0, none⟩) 7 cap) rfl rfl (by kernel_rfl) rfl (by kernel_rfl) (by kernel_rfl) rfl (fun W => rfl) (fun h => by cases h) ?_
          simp only [nm0, nm1, nm2, nm3]
          refine hold_done (by kernel_rfl) ?_ _
          refine NoPanic.normal ?_
          exact ⟨rfl, b7, g, cap, r, rfl, hY7.swap⟩
      · skip
        refine hw_new (d := 7) (f := fun b => .pointer (some ⟨b, 0, none⟩)) (ob := .cells lvZ 53 (0, 0)) rfl rfl rfl hV0 (fun W => run_alloc_of rfl (al_Lv W)) #[true, false, true, false, true, false, false] (by kernel_rfl) fun b7 Y8 hY8 => ⟨(fun _ => hY8.at_ (b3, _) (by simp)), ?_⟩
        simp only [nm0, nm1, nm2, nm3]
        refine hold_next (rs := [1]) (by kernel_rfl) (by simp) ?_
        intro i hi
        simp only [List.mem_cons, List.not_mem_nil, or_false] at hi
        subst hi
        refine hw_call (d := 16) (args := #[.agg ca]) rfl rfl rfl (fun W => run_call_fn W (enters_of Try.func28 (by kernel_rfl) rfl) rfl (by simp [Act.eval]; try rfl)) (KO.out Y8 hY8.below) #[true, true, true, false, true, false, false] (by kernel_rfl) ?_
        rintro e Y9 ⟨rfl, hb9⟩
        have hY9 := hY8.calls hb9
        refine ⟨_, rfl, (fun _ => hY9.at_ (b3, _) (by simp)), ?_⟩
        simp only [nm0, nm1, nm2, nm3]
        refine hold_next (rs := [3]) (by kernel_rfl) (by simp) ?_
        intro i hi
        simp only [List.mem_cons, List.not_mem_nil, or_false] at hi
        subst hi
        refine hw_call (d := 18) (args := #[.agg ca]) rfl rfl rfl (fun W => run_call_fn W (enters_of Try.func29 (by kernel_rfl) rfl) rfl (by simp [Act.eval]; try rfl)) (KR.out Y9 hY9.below) #[true, true, true, true, true, false, false] (by kernel_rfl) ?_
        rintro e Y10 ⟨g, cap, r, rfl, hg10, hgl10, hb10⟩
        have hY10 := hY9.news1 hb10 hgl10 hg10
        refine ⟨_, rfl, (fun _ => hY10.at_ (b3, _) (by simp)), ?_⟩
        simp only [nm0, nm1, nm2, nm3]
        refine hold_next (rs := [5]) (by kernel_rfl) (by simp) ?_
        intro i hi
        simp only [List.mem_cons, List.not_mem_nil, or_false] at hi
        subst hi
        refine hw_set rfl rfl rfl hY10 1 (cs := LV) rfl rfl rfl rfl (by rw [hs7]; exact rowLv) (by rw [hs7]; rfl) ho7 #[true, true, true, true, true, true, false] (by kernel_rfl) fun Y11 hY11 => ⟨(fun h => by cases h), ?_⟩
        simp only [nm2, nm3] at hY11
        refine hw_pure 6 8 #[true, true, true, true, true, true, true] (by kernel_rfl) (v := .slice (some ⟨g, 0, none⟩) 7 cap) rfl rfl (by kernel_rfl) rfl (by kernel_rfl) (by kernel_rfl) rfl (fun W => rfl) (fun h => by cases h) ?_
        simp only [nm0, nm1, nm2, nm3]
        refine hold_done (by kernel_rfl) ?_ _
        refine NoPanic.normal ?_
        exact ⟨rfl, b7, g, cap, r, rfl, hY11.swap⟩
    rintro e A1 W4 ⟨rfl, b7, g, cap, r, rfl, hM4⟩
    clear hM2
    have H7 := Lib.hid (hM4.get 0 rfl)
    have HG := Lib.hid (hM4.get 1 rfl)
    have H3 := Lib.hid (hM4.get 2 rfl)
    have q7 := hM4.lt (List.mem_cons_self ..)
    have qg : g < W4.heap.size := (Array.getElem?_eq_some_iff.1 HG.out).1
    have q3 : b3 < W4.heap.size := (Array.getElem?_eq_some_iff.1 H3.out).1
    have HM4 := Lib.hid hM4
    have hV := Mem.start W4
    clear hM4
    go_upto_region 4 with fail
    have hMd := hV.drew
    refine wp_region_noPanic (hold_begin (S := fun W => Below W4.heap.size W4 W) (st := 30) HMIX.out ?_)
    change Hold _ _ _ _ _ _ 33 _ _ _
    generalize eV0b : W4.drew = V0b at hMd ⊢
    have hV0b := hMd
    clear hMd
    refine hw_take 0 19 [23, 24, 30] #[true, false, false, false, false, false, false, false, false, false, false, false, false, false, false, false, false, false, false, false, false, false, false, false, false, false, false, false, false, false, false, false, false] (by kernel_rfl) (v := .agg LV) rfl rfl (by kernel_rfl) (by kernel_rfl) (by kernel_rfl) (by kernel_rfl) (by kernel_rfl) (by kernel_rfl) rfl (fun W hW => run_load_row rfl rfl ((hW.block b7 q7).trans H7.out) (by rw [hs7]; exact rowLv)) (hV0b.below) ?_
    simp only [nm0, nm1, nm2, nm3]
    refine hw_pure 1 20 #[true, true, false, false, false, false, false, false, false, false, false, false, false, false, false, false, false, false, false, false, false, false, false, false, false, false, false, false, false, false, false, false, false] (by kernel_rfl) (v := .slice (some ⟨g, 0, none⟩) 7 cap) rfl rfl (by kernel_rfl) rfl (by kernel_rfl) (by kernel_rfl) rfl (fun W => rfl) (fun _ => hV0b.below) ?_
    simp only [nm0, nm1, nm2, nm3]
    refine hw_pure 2 21 #[true, true, true, false, false, false, false, false, false, false, false, false, false, false, false, false, false, false, false, false, false, false, false, false, false, false, false, false, false, false, false, false, false] (by kernel_rfl) (v := .pointer (some ⟨g, 0, none⟩)) rfl rfl (by kernel_rfl) rfl (by kernel_rfl) (by kernel_rfl) rfl (fun W => run_index_of rfl rfl rfl (ix_J g 0 7 cap (by decide) W)) (fun _ => hV0b.below) ?_
    simp only [nm0, nm1, nm2, nm3]
    refine hw_take 3 22 [22, 23, 24, 30] #[true, true, true, true, false, false, false, false, false, false, false, false, false, false, false, false, false, false, false, false, false, false, false, false, false, false, false, false, false, false, false, false, false] (by kernel_rfl) (v := .int .i64 l0) rfl rfl (by kernel_rfl) (by kernel_rfl) (by kernel_rfl) (by kernel_rfl) (by kernel_rfl) (by kernel_rfl) rfl (fun W hW => run_load_cell rfl rfl ((hW.block g qg).trans HG.out) (HL0.out r) cellJ) (hV0b.below) ?_
    simp only [nm0, nm1, nm2, nm3]
    refine hw_pure 4 23 #[true, true, true, true, true, false, false, false, false, false, false, false, false, false, false, false, false, false, false, false, false, false, false, false, false, false, false, false, false, false, false, false, false] (by kernel_rfl) (v := .slice (some ⟨g, 0, none⟩) 7 cap) rfl rfl (by kernel_rfl) rfl (by kernel_rfl) (by kernel_rfl) rfl (fun W => rfl) (fun _ => hV0b.below) ?_
    simp only [nm0, nm1, nm2, nm3]
    refine hw_pure 5 24 #[true, true, true, true, true, true, false, false, false, false, false, false, false, false, false, false, false, false, false, false, false, false, false, false, false, false, false, false, false, false, false, false, false] (by kernel_rfl) (v := .pointer (some ⟨g, 1, none⟩)) rfl rfl (by kernel_rfl) rfl (by kernel_rfl) (by kernel_rfl) rfl (fun W => run_index_of rfl rfl rfl (ix_J g 1 7 cap (by decide) W)) (fun _ => hV0b.below) ?_
    simp only [nm0, nm1, nm2, nm3]
    refine hw_take 6 25 [22, 23, 24, 30] #[true, true, true, true, true, true, true, false, false, false, false, false, false, false, false, false, false, false, false, false, false, false, false, false, false, false, false, false, false, false, false, false, false] (by kernel_rfl) (v := .int .i64 l1) rfl rfl (by kernel_rfl) (by kernel_rfl) (by kernel_rfl) (by kernel_rfl) (by kernel_rfl) (by kernel_rfl) rfl (fun W hW => run_load_cell rfl rfl ((hW.block g qg).trans HG.out) (HL1.out r) cellJ) (hV0b.below) ?_
    simp only [nm0, nm1, nm2, nm3]
    refine hw_pure 7 26 #[true, true, true, true, true, true, true, true, false, false, false, false, false, false, false, false, false, false, false, false, false, false, false, false, false, false, false, false, false, false, false, false, false] (by kernel_rfl) (v := .slice (some ⟨g, 0, none⟩) 7 cap) rfl rfl (by kernel_rfl) rfl (by kernel_rfl) (by kernel_rfl) rfl (fun W => rfl) (fun _ => hV0b.below) ?_
    simp only [nm0, nm1, nm2, nm3]
    refine hw_pure 8 27 #[true, true, true, true, true, true, true, true, true, false, false, false, false, false, false, false, false, false, false, false, false, false, false, false, false, false, false, false, false, false, false, false, false] (by kernel_rfl) (v := .pointer (some ⟨g, 2, none⟩)) rfl rfl (by kernel_rfl) rfl (by kernel_rfl) (by kernel_rfl) rfl (fun W => run_index_of rfl rfl rfl (ix_J g 2 7 cap (by decide) W)) (fun _ => hV0b.below) ?_
    simp only [nm0, nm1, nm2, nm3]
    refine hw_take 9 28 [22, 23, 24, 30] #[true, true, true, true, true, true, true, true, true, true, false, false, false, false, false, false, false, false, false, false, false, false, false, false, false, false, false, false, false, false, false, false, false] (by kernel_rfl) (v := .int .i64 l2) rfl rfl (by kernel_rfl) (by kernel_rfl) (by kernel_rfl) (by kernel_rfl) (by kernel_rfl) (by kernel_rfl) rfl (fun W hW => run_load_cell rfl rfl ((hW.block g qg).trans HG.out) (HL2.out r) cellJ) (hV0b.below) ?_
    simp only [nm0, nm1, nm2, nm3]
    refine hw_pure 10 29 #[true, true, true, true, true, true, true, true, true, true, true, false, false, false, false, false, false, false, false, false, false, false, false, false, false, false, false, false, false, false, false, false, false] (by kernel_rfl) (v := .slice (some ⟨g, 0, none⟩) 7 cap) rfl rfl (by kernel_rfl) rfl (by kernel_rfl) (by kernel_rfl) rfl (fun W => rfl) (fun _ => hV0b.below) ?_
    simp only [nm0, nm1, nm2, nm3]
    refine hw_pure 11 30 #[true, true, true, true, true, true, true, true, true, true, true, true, false, false, false, false, false, false, false, false, false, false, false, false, false, false, false, false, false, false, false, false, false] (by kernel_rfl) (v := .pointer (some ⟨g, 3, none⟩)) rfl rfl (by kernel_rfl) rfl (by kernel_rfl) (by kernel_rfl) rfl (fun W => run_index_of rfl rfl rfl (ix_J g 3 7 cap (by decide) W)) (fun _ => hV0b.below) ?_
    simp only [nm0, nm1, nm2, nm3]
    refine hw_take 12 31 [22, 23, 24, 30] #[true, true, true, true, true, true, true, true, true, true, true, true, true, false, false, false, false, false, false, false, false, false, false, false, false, false, false, false, false, false, false, false, false] (by kernel_rfl) (v := .int .i64 l3) rfl rfl (by kernel_rfl) (by kernel_rfl) (by kernel_rfl) (by kernel_rfl) (by kernel_rfl) (by kernel_rfl) rfl (fun W hW => run_load_cell rfl rfl ((hW.block g qg).trans HG.out) (HL3.out r) cellJ) (hV0b.below) ?_
    simp only [nm0, nm1, nm2, nm3]
    refine hw_pure 13 32 #[true, true, true, true, true, true, true, true, true, true, true, true, true, true, false, false, false, false, false, false, false, false, false, false, false, false, false, false, false, false, false, false, false] (by kernel_rfl) (v := .slice (some ⟨g, 0, none⟩) 7 cap) rfl rfl (by kernel_rfl) rfl (by kernel_rfl) (by kernel_rfl) rfl (fun W => rfl) (fun _ => hV0b.below) ?_
    simp only [nm0, nm1, nm2, nm3]
    refine hw_pure 14 33 #[true, true, true, true, true, true, true, true, true, true, true, true, true, true, true, false, false, false, false, false, false, false, false, false, false, false, false, false, false, false, false, false, false] (by kernel_rfl) (v := .pointer (some ⟨g, 4, none⟩)) rfl rfl (by kernel_rfl) rfl (by kernel_rfl) (by kernel_rfl) rfl (fun W => run_index_of rfl rfl rfl (ix_J g 4 7 cap (by decide) W)) (fun _ => hV0b.below) ?_
    simp only [nm0, nm1, nm2, nm3]
    refine hw_take 15 34 [22, 23, 24, 30] #[true, true, true, true, true, true, true, true, true, true, true, true, true, true, true, true, false, false, false, false, false, false, false, false, false, false, false, false, false, false, false, false, false] (by kernel_rfl) (v := .int .i64 l4) rfl rfl (by kernel_rfl) (by kernel_rfl) (by kernel_rfl) (by kernel_rfl) (by kernel_rfl) (by kernel_rfl) rfl (fun W hW => run_load_cell rfl rfl ((hW.block g qg).trans HG.out) (HL4.out r) cellJ) (hV0b.below) ?_
    simp only [nm0, nm1, nm2, nm3]
    refine hw_pure 16 35 #[true, true, true, true, true, true, true, true, true, true, true, true, true, true, true, true, true, false, false, false, false, false, false, false, false, false, false, false, false, false, false, false, false] (by kernel_rfl) (v := .slice (some ⟨g, 0, none⟩) 7 cap) rfl rfl (by kernel_rfl) rfl (by kernel_rfl) (by kernel_rfl) rfl (fun W => rfl) (fun _ => hV0b.below) ?_
    simp only [nm0, nm1, nm2, nm3]
    refine hw_pure 17 36 #[true, true, true, true, true, true, true, true, true, true, true, true, true, true, true, true, true, true, false, false, false, false, false, false, false, false, false, false, false, false, false, false, false] (by kernel_rfl) (v := .pointer (some ⟨g, 5, none⟩)) rfl rfl (by kernel_rfl) rfl (by kernel_rfl) (by kernel_rfl) rfl (fun W => run_index_of rfl rfl rfl (ix_J g 5 7 cap (by decide) W)) (fun _ => hV0b.below) ?_
    simp only [nm0, nm1, nm2, nm3]
    refine hw_take 18 37 [22, 23, 24, 30] #[true, true, true, true, true, true, true, true, true, true, true, true, true, true, true, true, true, true, true, false, false, false, false, false, false, false, false, false, false, false, false, false, false] (by kernel_rfl) (v := .int .i64 l5) rfl rfl (by kernel_rfl) (by kernel_rfl) (by kernel_rfl) (by kernel_rfl) (by kernel_rfl) (by kernel_rfl) rfl (fun W hW => run_load_cell rfl rfl ((hW.block g qg).trans HG.out) (HL5.out r) cellJ) (hV0b.below) ?_
    simp only [nm0, nm1, nm2, nm3]
    refine hw_pure 19 38 #[true, true, true, true, true, true, true, true, true, true, true, true, true, true, true, true, true, true, true, true, false, false, false, false, false, false, false, false, false, false, false, false, false] (by kernel_rfl) (v := .slice (some ⟨g, 0, none⟩) 7 cap) rfl rfl (by kernel_rfl) rfl (by kernel_rfl) (by kernel_rfl) rfl (fun W => rfl) (fun _ => hV0b.below) ?_
    simp only [nm0, nm1, nm2, nm3]
    refine hw_pure 20 39 #[true, true, true, true, true, true, true, true, true, true, true, true, true, true, true, true, true, true, true, true, true, false, false, false, false, false, false, false, false, false, false, false, false] (by kernel_rfl) (v := .pointer (some ⟨g, 6, none⟩)) rfl rfl (by kernel_rfl) rfl (by kernel_rfl) (by kernel_rfl) rfl (fun W => run_index_of rfl rfl rfl (ix_J g 6 7 cap (by decide) W)) (fun _ => hV0b.below) ?_
    simp only [nm0, nm1, nm2, nm3]
    refine hw_take 21 40 [22, 23, 24, 30] #[true, true, true, true, true, true, true, true, true, true, true, true, true, true, true, true, true, true, true, true, true, true, false, false, false, false, false, false, false, false, false, false, false] (by kernel_rfl) (v := .int .i64 l6) rfl rfl (by kernel_rfl) (by kernel_rfl) (by kernel_rfl) (by kernel_rfl) (by kernel_rfl) (by kernel_rfl) rfl (fun W hW => run_load_cell rfl rfl ((hW.block g qg).trans HG.out) (HL6.out r) cellJ) (hV0b.below) ?_
    simp only [nm0, nm1, nm2, nm3]
    refine hw_pure 22 41 #[true, true, true, true, true, true, true, true, true, true, true, true, true, true, true, true, true, true, true, true, true, true, true, false, false, false, false, false, false, false, false, false, false] (by kernel_rfl) (v := .agg LV) rfl rfl (by kernel_rfl) rfl (by kernel_rfl) (by kernel_rfl) rfl (fun W => run_build_of (ps := #[(0, .int .i64 l0), (1, .int .i64 l1), (2, .int .i64 l2), (3, .int .i64 l3), (4, .int .i64 l4), (5, .int .i64 l5), (6, .int .i64 l6)]) rfl (by simp [Act.eval]) (BL.out W)) (fun _ => hV0b.below) ?_
    simp only [nm0, nm1, nm2, nm3]
    refine hw_pure 23 42 #[true, true, true, true, true, true, true, true, true, true, true, true, true, true, true, true, true, true, true, true, true, true, true, true, false, false, false, false, false, false, false, false, false] (by kernel_rfl) (v := .bool false) rfl rfl (by kernel_rfl) rfl (by kernel_rfl) (by kernel_rfl) rfl (fun W => run_bin_of rfl rfl rfl (QL.out _ _ W)) (fun _ => hV0b.below) ?_
    simp only [nm0, nm1, nm2, nm3]
    refine hw_pure 24 43 #[true, true, true, true, true, true, true, true, true, true, true, true, true, true, true, true, true, true, true, true, true, true, true, true, true, false, false, false, false, false, false, false, false] (by kernel_rfl) (v := .bool false) rfl rfl (by kernel_rfl) rfl (by kernel_rfl) (by kernel_rfl) rfl (fun W => rfl) (fun _ => hV0b.below) ?_
    simp only [nm0, nm1, nm2, nm3]
    refine hw_take 25 44 [27, 30] #[true, true, true, true, true, true, true, true, true, true, true, true, true, true, true, true, true, true, true, true, true, true, true, true, true, true, false, false, false, false, false, false, false] (by kernel_rfl) (v := .agg ca) rfl rfl (by kernel_rfl) (by kernel_rfl) (by kernel_rfl) (by kernel_rfl) (by kernel_rfl) (by kernel_rfl) rfl (fun W hW => run_load_row rfl rfl ((hW.block b3 q3).trans H3.out) (by rw [hcs]; exact rowNd)) (hV0b.below) ?_
    simp only [nm0, nm1, nm2, nm3]
    refine hw_pure 26 45 #[true, true, true, true, true, true, true, true, true, true, true, true, true, true, true, true, true, true, true, true, true, true, true, true, true, true, true, false, false, false, false, false, false] (by kernel_rfl) (v := .string u) rfl rfl (by kernel_rfl) rfl (by kernel_rfl) (by kernel_rfl) rfl (fun W => rfl) (fun _ => hV0b.below) ?_
    simp only [nm0, nm1, nm2, nm3]
    refine hw_take 28 47 [30] #[true, true, true, true, true, true, true, true, true, true, true, true, true, true, true, true, true, true, true, true, true, true, true, true, true, true, true, false, true, false, false, false, false] (by kernel_rfl) (v := .agg ca) rfl rfl (by kernel_rfl) (by kernel_rfl) (by kernel_rfl) (by kernel_rfl) (by kernel_rfl) (by kernel_rfl) rfl (fun W hW => run_load_row rfl rfl ((hW.block b3 q3).trans H3.out) (by rw [hcs]; exact rowNd)) (hV0b.below) ?_
    simp only [nm0, nm1, nm2, nm3]
    refine hw_pure 29 48 #[true, true, true, true, true, true, true, true, true, true, true, true, true, true, true, true, true, true, true, true, true, true, true, true, true, true, true, false, true, true, false, false, false] (by kernel_rfl) (v := .string u) rfl rfl (by kernel_rfl) rfl (by kernel_rfl) (by kernel_rfl) rfl (fun W => rfl) (fun _ => hV0b.below) ?_
    simp only [nm0, nm1, nm2, nm3]
    refine hold_next (rs := [27]) (by kernel_rfl) (by simp) ?_
    intro i hi
    simp only [List.mem_cons, List.not_mem_nil, or_false] at hi
    subst hi
    refine hw_call (d := 46) (args := #[.agg ca, .string u]) rfl rfl rfl (fun W => run_call_fn W (enters_of Try.func30 (by kernel_rfl) rfl) rfl (by simp [Act.eval]; try rfl)) (KU.out V0b (HM4.out.below.trans (hV0b.below.mono HM4.out.below.size))) #[true, true, true, true, true, true, true, true, true, true, true, true, true, true, true, true, true, true, true, true, true, true, true, true, true, true, true, true, true, true, false, false, false] (by kernel_rfl) ?_
    rintro e Y12 ⟨rfl, hb12⟩
    have hY12 := hV0b.calls hb12
    refine ⟨_, rfl, (fun _ => hY12.below), ?_⟩
    simp only [nm0, nm1, nm2, nm3]
    refine hold_next (rs := [30]) (by kernel_rfl) (by simp) ?_
    intro i hi
    simp only [List.mem_cons, List.not_mem_nil, or_false] at hi
    subst hi
    refine hw_call (d := 49) (args := #[.agg ca, .string u]) rfl rfl rfl (fun W => run_call_fn W (enters_of Try.func31 (by kernel_rfl) rfl) rfl (by simp [Act.eval]; try rfl)) (KV.out Y12 (HM4.out.below.trans (hY12.below.mono HM4.out.below.size))) #[true, true, true, true, true, true, true, true, true, true, true, true, true, true, true, true, true, true, true, true, true, true, true, true, true, true, true, true, true, true, true, false, false] (by kernel_rfl) ?_
    rintro e Y13 ⟨rfl, hb13⟩
    have hY13 := hY12.calls hb13
    refine ⟨_, rfl, (fun h => by cases h), ?_⟩
    simp only [nm0, nm1, nm2, nm3]
    refine hw_pure 31 50 #[true, true, true, true, true, true, true, true, true, true, true, true, true, true, true, true, true, true, true, true, true, true, true, true, true, true, true, true, true, true, true, true, false] (by kernel_rfl) (v := .bool false) rfl rfl (by kernel_rfl) rfl (by kernel_rfl) (by kernel_rfl) rfl (fun W => run_bin_of rfl rfl rfl (neq_J us _ _ W)) (fun h => by cases h) ?_
    simp only [nm0, nm1, nm2, nm3]
    refine hw_pure 32 51 #[true, true, true, true, true, true, true, true, true, true, true, true, true, true, true, true, true, true, true, true, true, true, true, true, true, true, true, true, true, true, true, true, true] (by kernel_rfl) (v := .bool false) rfl rfl (by kernel_rfl) rfl (by kernel_rfl) (by kernel_rfl) rfl (fun W => rfl) (fun h => by cases h) ?_
    simp only [nm0, nm1, nm2, nm3]
    refine hold_done (by kernel_rfl) ?_ _
    refine NoPanic.normal ?_
    have hM5 := HM4.out.calls hY13.below
    have hM6 := hM5.tail.tail
    have HM6 := Lib.hid hM6
    clear hM5 hM6 hV H7 HG H3 HM4 KO KR QL BL q7 qg q3
    go_upto_region 6 with fail
    refine wp_region_lit ?_
    refine wl_new HM6.out (f := fun b => .slice (some ⟨b, 0, none⟩) 2 2) (fun W => run_slice_of rfl (by simp [Act.eval]) (bs_B2 W)) rfl fun gB W6 hM7 => ?_
    simp only [nm0, nm1, nm2, nm3]
    refine wl_pure (v := .int .i64 2) (fun W => by go_simp) rfl ?_
    simp only [nm0, nm1, nm2, nm3]
    refine wl_pure (v := .int .i64 0) (fun W => rfl) rfl ?_
    simp only [nm0, nm1, nm2, nm3]
    refine wpList_nil ?_
    have HM7 := Lib.hid hM7
    clear hM7
    go_wp2_with fail
    go_loopw [54] (fun i wr => ∃ k : Nat, i = .int .i64 (k : Int) ∧ k ≤ 2 ∧ Mem w [(gB, .cells #[.bool false, .bool true] 4 (0, 0)), (b3, .cells ca 25 (0, 0))] wr) (fun i _ => 2 - (Go.RowKit.intOf i).toNat)
    case atStart => exact ⟨0, rfl, by decide, HM7.out⟩
    case round =>
      obtain ⟨k, rfl, hk, hM⟩ := hrel
      clear HM7 HM6
      by_cases hlt : k < 2
      · have b1b : decide ((k : Int) < 2) = true := decide_eq_true (by omega)
        obtain ⟨sb, esb⟩ : ∃ z, z = (k == 1) := ⟨_, rfl⟩
        have hsb := b2_at hlt
        rw [← esb] at hsb
        clear esb
        obtain ⟨es, ees⟩ : ∃ z, z = ev sb := ⟨_, rfl⟩
        have KE2 := Lib.hid (fun W hb => KE.out W hb sb)
        have KG2 := Lib.hid (fun W hb => KG.out W hb sb)
        have KM2 := Lib.hid (fun W hb => KM.out W hb sb)
        rw [← ees] at KE2 KG2 KM2
        obtain ⟨mb, emb⟩ : ∃ z, z = decide (us ≥ es) := ⟨_, rfl⟩
        rw [← emb] at KM2
        have EMB := Lib.hid emb
        clear ees emb
        go_upto_region 8 with fail
        refine wp_region_lit ?_
        refine wl_pure (v := .pointer (some ⟨gB, k, none⟩)) (fun W => run_index_of rfl rfl rfl (ix_B gB k 2 2 hlt W)) rfl ?_
        simp only [nm0, nm1, nm2, nm3]
        refine wl_cell hM 0 (v := .bool sb) rfl rfl rfl hsb cellB rfl ?_
        simp only [nm0, nm1, nm2, nm3]
        refine wl_pure (v := .bool sb) (fun W => rfl) rfl ?_
        simp only [nm0, nm1, nm2, nm3]
        refine wpList_nil ?_
        have H3 := Lib.hid (hM.get 1 rfl)
        have q3 : b3 < wr.heap.size := (Array.getElem?_eq_some_iff.1 H3.out).1
        have HMr := Lib.hid hM
        have hV := Mem.start wr
        clear hM
        go_upto_region 9 with fail
        have hMd := hV.drew
        refine wp_region_noPanic (hold_begin (S := fun W => Below wr.heap.size wr W) (st := 21) HMIX.out ?_)
        change Hold _ _ _ _ _ _ 25 _ _ _
        generalize eV0c : wr.drew = V0c at hMd ⊢
        have hV0c := hMd
        clear hMd
        refine hw_take 0 58 [3, 7, 9, 21] #[true, false, false, false, false, false, false, false, false, false, false, false, false, false, false, false, false, false, false, false, false, false, false, false, false] (by kernel_rfl) (v := .agg ca) rfl rfl (by kernel_rfl) (by kernel_rfl) (by kernel_rfl) (by kernel_rfl) (by kernel_rfl) (by kernel_rfl) rfl (fun W hW => run_load_row rfl rfl ((hW.block b3 q3).trans H3.out) (by rw [hcs]; exact rowNd)) (hV0c.below) ?_
        simp only [nm0, nm1, nm2, nm3]
        refine hw_pure 1 59 #[true, true, false, false, false, false, false, false, false, false, false, false, false, false, false, false, false, false, false, false, false, false, false, false, false] (by kernel_rfl) (v := .string kn) rfl rfl (by kernel_rfl) rfl (by kernel_rfl) (by kernel_rfl) rfl (fun W => rfl) (fun _ => hV0c.below) ?_
        simp only [nm0, nm1, nm2, nm3]
        refine hw_pure 2 60 #[true, true, true, false, false, false, false, false, false, false, false, false, false, false, false, false, false, false, false, false, false, false, false, false, false] (by kernel_rfl) (v := .bool sb) rfl rfl (by kernel_rfl) rfl (by kernel_rfl) (by kernel_rfl) rfl (fun W => rfl) (fun _ => hV0c.below) ?_
        simp only [nm0, nm1, nm2, nm3]
        refine hw_take 4 62 [7, 9, 21] #[true, true, true, false, true, false, false, false, false, false, false, false, false, false, false, false, false, false, false, false, false, false, false, false, false] (by kernel_rfl) (v := .agg ca) rfl rfl (by kernel_rfl) (by kernel_rfl) (by kernel_rfl) (by kernel_rfl) (by kernel_rfl) (by kernel_rfl) rfl (fun W hW => run_load_row rfl rfl ((hW.block b3 q3).trans H3.out) (by rw [hcs]; exact rowNd)) (hV0c.below) ?_
        simp only [nm0, nm1, nm2, nm3]
        refine hw_pure 5 63 #[true, true, true, false, true, true, false, false, false, false, false, false, false, false, false, false, false, false, false, false, false, false, false, false, false] (by kernel_rfl) (v := .string kn) rfl rfl (by kernel_rfl) rfl (by kernel_rfl) (by kernel_rfl) rfl (fun W => rfl) (fun _ => hV0c.below) ?_
        simp only [nm0, nm1, nm2, nm3]
        refine hw_pure 6 64 #[true, true, true, false, true, true, true, false, false, false, false, false, false, false, false, false, false, false, false, false, false, false, false, false, false] (by kernel_rfl) (v := .bool sb) rfl rfl (by kernel_rfl) rfl (by kernel_rfl) (by kernel_rfl) rfl (fun W => rfl) (fun _ => hV0c.below) ?_
        simp only [nm0, nm1, nm2, nm3]
        refine hold_next (rs := [3]) (by kernel_rfl) (by simp) ?_
        intro i hi
        simp only [List.mem_cons, List.not_mem_nil, or_false] at hi
        subst hi
        refine hw_call (d := 61) (args := #[.agg ca, .string kn, .bool sb]) rfl rfl rfl (fun W => run_call_fn W (enters_of Try.func32 (by kernel_rfl) rfl) rfl (by simp [Act.eval]; try rfl)) (KE2.out V0c (HMr.out.below.trans (hV0c.below.mono HMr.out.below.size))) #[true, true, true, true, true, true, true, false, false, false, false, false, false, false, false, false, false, false, false, false, false, false, false, false, false] (by kernel_rfl) ?_
        rintro e Y14 ⟨rfl, hb14⟩
        have hY14 := hV0c.calls hb14
        refine ⟨_, rfl, (fun _ => hY14.below), ?_⟩
        simp only [nm0, nm1, nm2, nm3]
        refine hold_next (rs := [7]) (by kernel_rfl) (by simp) ?_
        intro i hi
        simp only [List.mem_cons, List.not_mem_nil, or_false] at hi
        subst hi
        refine hw_call (d := 65) (args := #[.agg ca, .string kn, .bool sb]) rfl rfl rfl (fun W => run_call_fn W (enters_of Try.func33 (by kernel_rfl) rfl) rfl (by simp [Act.eval]; try rfl)) (KG2.out Y14 (HMr.out.below.trans (hY14.below.mono HMr.out.below.size))) #[true, true, true, true, true, true, true, true, false, false, false, false, false, false, false, false, false, false, false, false, false, false, false, false, false] (by kernel_rfl) ?_
        rintro e Y15 ⟨rfl, hb15⟩
        have hY15 := hY14.calls hb15
        refine ⟨_, rfl, (fun _ => hY15.below), ?_⟩
        simp only [nm0, nm1, nm2, nm3]
        refine hw_pure 8 66 #[true, true, true, true, true, true, true, true, true, false, false, false, false, false, false, false, false, false, false, false, false, false, false, false, false] (by kernel_rfl) (v := .bool false) rfl rfl (by kernel_rfl) rfl (by kernel_rfl) (by kernel_rfl) rfl (fun W => run_bin_of rfl rfl rfl (neq_J es _ _ W)) (fun _ => hY15.below) ?_
        simp only [nm0, nm1, nm2, nm3]
        refine hw_pure 9 67 #[true, true, true, true, true, true, true, true, true, true, false, false, false, false, false, false, false, false, false, false, false, false, false, false, false] (by kernel_rfl) (v := .bool false) rfl rfl (by kernel_rfl) rfl (by kernel_rfl) (by kernel_rfl) rfl (fun W => rfl) (fun _ => hY15.below) ?_
        simp only [nm0, nm1, nm2, nm3]
        refine hw_take 10 68 [14, 17, 21] #[true, true, true, true, true, true, true, true, true, true, true, false, false, false, false, false, false, false, false, false, false, false, false, false, false] (by kernel_rfl) (v := .agg ca) rfl rfl (by kernel_rfl) (by kernel_rfl) (by kernel_rfl) (by kernel_rfl) (by kernel_rfl) (by kernel_rfl) rfl (fun W hW => run_load_row rfl rfl ((hW.block b3 q3).trans H3.out) (by rw [hcs]; exact rowNd)) (hY15.below) ?_
        simp only [nm0, nm1, nm2, nm3]
        refine hw_pure 11 69 #[true, true, true, true, true, true, true, true, true, true, true, true, false, false, false, false, false, false, false, false, false, false, false, false, false] (by kernel_rfl) (v := .string u) rfl rfl (by kernel_rfl) rfl (by kernel_rfl) (by kernel_rfl) rfl (fun W => rfl) (fun _ => hY15.below) ?_
        simp only [nm0, nm1, nm2, nm3]
        refine hw_pure 12 70 #[true, true, true, true, true, true, true, true, true, true, true, true, true, false, false, false, false, false, false, false, false, false, false, false, false] (by kernel_rfl) (v := .string kn) rfl rfl (by kernel_rfl) rfl (by kernel_rfl) (by kernel_rfl) rfl (fun W => rfl) (fun _ => hY15.below) ?_
        simp only [nm0, nm1, nm2, nm3]
        refine hw_pure 13 71 #[true, true, true, true, true, true, true, true, true, true, true, true, true, true, false, false, false, false, false, false, false, false, false, false, false] (by kernel_rfl) (v := .bool sb) rfl rfl (by kernel_rfl) rfl (by kernel_rfl) (by kernel_rfl) rfl (fun W => rfl) (fun _ => hY15.below) ?_
        simp only [nm0, nm1, nm2, nm3]
        refine hw_take 15 73 [17, 21] #[true, true, true, true, true, true, true, true, true, true, true, true, true, true, false, true, false, false, false, false, false, false, false, false, false] (by kernel_rfl) (v := .agg ca) rfl rfl (by kernel_rfl) (by kernel_rfl) (by kernel_rfl) (by kernel_rfl) (by kernel_rfl) (by kernel_rfl) rfl (fun W hW => run_load_row rfl rfl ((hW.block b3 q3).trans H3.out) (by rw [hcs]; exact rowNd)) (hY15.below) ?_
        simp only [nm0, nm1, nm2, nm3]
        refine hw_pure 16 74 #[true, true, true, true, true, true, true, true, true, true, true, true, true, true, false, true, true, false, false, false, false, false, false, false, false] (by kernel_rfl) (v := .string u) rfl rfl (by kernel_rfl) rfl (by kernel_rfl) (by kernel_rfl) rfl (fun W => rfl) (fun _ => hY15.below) ?_
        simp only [nm0, nm1, nm2, nm3]
        refine hw_take 18 76 [21] #[true, true, true, true, true, true, true, true, true, true, true, true, true, true, false, true, true, false, true, false, false, false, false, false, false] (by kernel_rfl) (v := .agg ca) rfl rfl (by kernel_rfl) (by kernel_rfl) (by kernel_rfl) (by kernel_rfl) (by kernel_rfl) (by kernel_rfl) rfl (fun W hW => run_load_row rfl rfl ((hW.block b3 q3).trans H3.out) (by rw [hcs]; exact rowNd)) (hY15.below) ?_
        simp only [nm0, nm1, nm2, nm3]
        refine hw_pure 19 77 #[true, true, true, true, true, true, true, true, true, true, true, true, true, true, false, true, true, false, true, true, false, false, false, false, false] (by kernel_rfl) (v := .string kn) rfl rfl (by kernel_rfl) rfl (by kernel_rfl) (by kernel_rfl) rfl (fun W => rfl) (fun _ => hY15.below) ?_
        simp only [nm0, nm1, nm2, nm3]
        refine hw_pure 20 78 #[true, true, true, true, true, true, true, true, true, true, true, true, true, true, false, true, true, false, true, true, true, false, false, false, false] (by kernel_rfl) (v := .bool sb) rfl rfl (by kernel_rfl) rfl (by kernel_rfl) (by kernel_rfl) rfl (fun W => rfl) (fun _ => hY15.below) ?_
        simp only [nm0, nm1, nm2, nm3]
        refine hold_next (rs := [14]) (by kernel_rfl) (by simp) ?_
        intro i hi
        simp only [List.mem_cons, List.not_mem_nil, or_false] at hi
        subst hi
        refine hw_call (d := 72) (args := #[.agg ca, .string u, .string kn, .bool sb]) rfl rfl rfl (fun W => run_call_fn W (enters_of Try.func34 (by kernel_rfl) rfl) rfl (by simp [Act.eval]; try rfl)) (KM2.out Y15 (HMr.out.below.trans (hY15.below.mono HMr.out.below.size))) #[true, true, true, true, true, true, true, true, true, true, true, true, true, true, true, true, true, false, true, true, true, false, false, false, false] (by kernel_rfl) ?_
        rintro e Y16 ⟨rfl, hb16⟩
        have hY16 := hY15.calls hb16
        refine ⟨_, rfl, (fun _ => hY16.below), ?_⟩
        simp only [nm0, nm1, nm2, nm3]
        refine hold_next (rs := [17]) (by kernel_rfl) (by simp) ?_
        intro i hi
        simp only [List.mem_cons, List.not_mem_nil, or_false] at hi
        subst hi
        refine hw_call (d := 75) (args := #[.agg ca, .string u]) rfl rfl rfl (fun W => run_call_fn W (enters_of Try.func31 (by kernel_rfl) rfl) rfl (by simp [Act.eval]; try rfl)) (KV.out Y16 (HMr.out.below.trans (hY16.below.mono HMr.out.below.size))) #[true, true, true, true, true, true, true, true, true, true, true, true, true, true, true, true, true, true, true, true, true, false, false, false, false] (by kernel_rfl) ?_
        rintro e Y17 ⟨rfl, hb17⟩
        have hY17 := hY16.calls hb17
        refine ⟨_, rfl, (fun _ => hY17.below), ?_⟩
        simp only [nm0, nm1, nm2, nm3]
        refine hold_next (rs := [21]) (by kernel_rfl) (by simp) ?_
        intro i hi
        simp only [List.mem_cons, List.not_mem_nil, or_false] at hi
        subst hi
        refine hw_call (d := 79) (args := #[.agg ca, .string kn, .bool sb]) rfl rfl rfl (fun W => run_call_fn W (enters_of Try.func33 (by kernel_rfl) rfl) rfl (by simp [Act.eval]; try rfl)) (KG2.out Y17 (HMr.out.below.trans (hY17.below.mono HMr.out.below.size))) #[true, true, true, true, true, true, true, true, true, true, true, true, true, true, true, true, true, true, true, true, true, true, false, false, false] (by kernel_rfl) ?_
        rintro e Y18 ⟨rfl, hb18⟩
        have hY18 := hY17.calls hb18
        refine ⟨_, rfl, (fun h => by cases h), ?_⟩
        simp only [nm0, nm1, nm2, nm3]
        refine hw_pure 22 80 #[true, true, true, true, true, true, true, true, true, true, true, true, true, true, true, true, true, true, true, true, true, true, true, false, false] (by kernel_rfl) (v := .bool mb) rfl rfl (by kernel_rfl) rfl (by kernel_rfl) (by kernel_rfl) rfl (fun W => run_bin_of rfl rfl rfl (by rw [EMB.out]; exact geq_J us es _ _ W)) (fun h => by cases h) ?_
        simp only [nm0, nm1, nm2, nm3]
        refine hw_pure 23 81 #[true, true, true, true, true, true, true, true, true, true, true, true, true, true, true, true, true, true, true, true, true, true, true, true, false] (by kernel_rfl) (v := .bool false) rfl rfl (by kernel_rfl) rfl (by kernel_rfl) (by kernel_rfl) rfl (fun W => run_bin_of rfl rfl rfl (neq_B mb _ _ W)) (fun h => by cases h) ?_
        simp only [nm0, nm1, nm2, nm3]
        refine hw_pure 24 82 #[true, true, true, true, true, true, true, true, true, true, true, true, true, true, true, true, true, true, true, true, true, true, true, true, true] (by kernel_rfl) (v := .bool false) rfl rfl (by kernel_rfl) rfl (by kernel_rfl) (by kernel_rfl) rfl (fun W => rfl) (fun h => by cases h) ?_
        simp only [nm0, nm1, nm2, nm3]
        refine hold_done (by kernel_rfl) ?_ _
        refine NoPanic.normal ?_
        have HMs := Lib.hid (HMr.out.calls hY18.below)
        clear hV H3 HMr KE2 KG2 KM2
        go_wp2_with fail
        exact ⟨⟨k + 1, rfl, hlt, HMs.out⟩, by show 2 - ((k : Int) + 1).toNat < 2 - (k : Int).toNat; omega⟩
      · have b1b : decide ((k : Int) < 2) = false := decide_eq_false (by omega)
        have HBL := Lib.hid hM.below
        clear hM
        go_wp2_with fail
        refine (KL.out wr).mono ?_
        rintro e W9 ⟨rfl, hb9⟩
        have HB9 := Lib.hid (HBL.out.trans (hb9.mono HBL.out.size))
        clear hb9
        go_wp2_with fail
        exact bodyPost_ret (results_slot rfl rfl) rfl ⟨rfl, HB9.out⟩
end Go.Proofs.Ytbheiglbejokmaa
