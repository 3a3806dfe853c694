/- lex (layer 6): LexTokens. LexTokens for its frame. -/
import Derived.Test.YtndifilhfiooaaaDoorPk12
import Derived.Test.YtndifilhfiooaaaDoorPk11
namespace Go.Proofs.YtndifilhfiooaaaDoor
set_option maxRecDepth 20000
set_option linter.unusedSimpArgs false
set_option linter.unusedVariables false
open Go.RowKit Go.Lib Go.Shelf Go.Sort
attribute [local go_sem] Oper.semAt_some
theorem bx_int (z : Int) (W : World) : (Instr.box 3 (.int .i64 z)).run Tryd.prog W = .ok (.pointer (some ⟨W.heap.size, 0, none⟩)) (W.alloc (.cells #[.int .i64 z] 3 (0, 0))) := by go_simp
theorem al_Bool (W : World) : (Instr.alloc 4 true (.tuple #[])).run Tryd.prog W = .ok (.pointer (some ⟨W.heap.size, 0, none⟩)) (W.alloc (.cells #[.bool false] 4 (0, 0))) := by kernel_rfl
theorem cellBool : CellTy Tryd.prog 4 := ⟨⟨_, Tryd.underlying4, rfl⟩, by kernel_rfl⟩
theorem xfunc_nil (b : Array Value) (w : World) : (do eqGuard .eql 37 (.tmp 32) (.const .nilFunc) (.func (.func 20) #[] b) .nilFunc; binOp .eql 37 (.func (.func 20) #[] b) .nilFunc : Sem Value).run Tryd.prog w = .ok (.bool false) w := rfl
theorem owns_form {w : World} {D n : Nat} {v : Value} {xs : List Value} (h : w.ownsRow D TokT 5 v n xs) : ∃ a c, v = .slice a n c := by
  by_cases hn : 0 < n
  · obtain ⟨g, cap, hv, -⟩ := owns_slice h hn
    exact ⟨_, _, hv⟩
  · have h0 : n = 0 := by omega
    obtain ⟨-, h⟩ := h
    rcases h with h | ⟨g, cap, cur, hv, -⟩
    · refine ⟨none, 0, ?_⟩
      rw [h0]
      first | exact h.1 | exact h.2
    · exact ⟨_, _, hv⟩
theorem owns_other {w : World} {D n c : Nat} {v : Value} {xs : List Value} {cs cs0 : Array Value} (h : w.ownsRow D TokT 5 v n xs) (hc : w.heap[c]? = some (.cells cs0 SlT (0, 0))) : (w.setRow c cs).ownsRow D TokT 5 v n xs := by
  obtain ⟨hl, h⟩ := h
  refine ⟨hl, ?_⟩
  rcases h with h | ⟨g, cap, cur, h1, h2, h3, h4, h5, h6, h7⟩
  · exact .inl h
  · have hne : g ≠ c := fun e => by
      subst e
      rw [hc] at h3
      have := (Obj.cells.inj (Option.some.inj h3)).2.1
      exact absurd this (by decide)
    exact .inr ⟨g, cap, cur, h1, h2, by rw [setRow_other _ _ _ _ hne]; exact h3, h4, h5, h6, h7⟩
theorem outT_len : ∀ L : List (Tok × Nat), (outT L).1.length ≤ L.length
  | [] => Nat.le_refl _
  | (x, m) :: L => by
    have := outT_len L
    unfold outT
    split
    · simp
    · simp only [List.length_cons]
      omega
set_option maxRecDepth 100000 in
set_option maxHeartbeats 16000000 in
theorem lexTokens_w (t : ByteArray) (most : Int) (w : World) (hT : Tabs w) : Calls Tryd.prog 4 #[.string t, .int .i64 most] w fun e w' => e = .returned (.bool true) ∧ Below w.heap.size w w' := by
  have h2 := tabs_size hT
  have KL := Lib.hid (fun w hT => xlives_any w hT)
  refine (callsIn_wide (n := 4)).1 (callsIn_of_wp_marks Tryd.func4 rfl trivial (wpIn_wide.2 ?_) rfl)
  simp only [Tryd.ntmps4, List.size_toArray, List.length_cons, List.length_nil, Nat.reduceAdd, Nat.reduceSub, Array.replicate_succ, Array.replicate_zero, List.push_toArray, List.append_toArray, List.nil_append, List.cons_append]
  have hM0 := Mem.start w
  go_upto_region 0 with fail
  refine wp_region_lit ?_
  refine wl_new hM0 (f := fun b => .pointer (some ⟨b, 0, none⟩)) (ob := .cells #[.int .i64 most] 3 (0, 0)) (fun W => run_box_of rfl rfl (bx_int most W)) rfl fun bm W1 hM1 => ?_
  simp only [nm0, nm1, nm2, nm3]
  refine wl_new hM1 (f := fun b => .pointer (some ⟨b, 0, none⟩)) (fun W => run_alloc_of rfl (al_Bool W)) rfl fun br W2 hM2 => ?_
  simp only [nm0, nm1, nm2, nm3]
  refine wpList_nil ?_
  clear hM0 hM1
  by_cases hs : 300 < t.size
  · have p1 : (300 : Int) < (t.size : Int) := by omega
    go_upto_region 2 with fail
    refine wp_region_lit ?_
    refine wl_call hM2 (args := #[]) (v := .bool true) (fun W => run_call_fn W (enters_of Tryd.func6 (by kernel_rfl) rfl) rfl (by simp [Act.eval])) (KL.out W2 (tabs_low h2 hT hM2.below)) rfl fun W3 hM3 => ?_
    simp only [nm0, nm1, nm2, nm3]
    refine lw_skipW (run_store_one (v := .bool true) (hM3.get 0 rfl) rfl rfl rfl cellBool rfl) rfl rfl ?_
    have hM4 := hM3.set (cs := #[.bool true]) 0 rfl
    refine wpList_nil ?_
    go_wp2_with fail
    refine ⟨.bool true, resB rfl rfl (load_cell (hM4.get 0 rfl) rfl cellBool), rfl, hM4.below⟩
  have p1 : ¬ (300 : Int) < (t.size : Int) := by omega
  have hT2 := tabs_low h2 hT hM2.below
  go_upto_region 3 with fail
  refine wp_region_lit ?_
  refine wl_pure (v := .string t) (fun W => rfl) rfl ?_
  simp only [nm0, nm1, nm2, nm3]
  refine wl_callE (args := #[.string t]) (fun W => run_call_fn W (enters_of Tryd.func9 (by kernel_rfl) rfl) rfl (by simp [Act.eval])) (toks_any t (by omega) W2 hT2) rfl ?_
  rintro e W3 ⟨v, rfl, ho3, hb3⟩
  refine ⟨_, rfl, ?_⟩
  have hM3 := hM2.calls hb3
  obtain ⟨LL, P, E, hO⟩ : ∃ LL P E, outT (els t 0) = (LL, P, E) := ⟨_, _, _, rfl⟩
  have KR := Lib.hid (fun w => rtoks_any t (by omega) w)
  have HO := Lib.hid hO
  have hlen : LL.length ≤ 301 := by
    have h1 := outT_len (els t 0)
    have h3 := els_len t _ 0 rfl (by omega)
    rw [hO] at h1
    simp only at h1
    omega
  rw [hO] at KR ⊢
  simp only at KR ⊢
  simp only [nm0, nm1, nm2, nm3]
  refine wl_pure (v := .tuple #[v, .int .i64 (P : Int), .int .i64 (E : Int)]) (fun W => rfl) rfl ?_
  simp only [nm0, nm1, nm2, nm3]
  refine wl_pure (v := v) (fun W => rfl) rfl ?_
  simp only [nm0, nm1, nm2, nm3]
  refine wl_pure (v := .int .i64 (P : Int)) (fun W => rfl) rfl ?_
  simp only [nm0, nm1, nm2, nm3]
  refine wl_pure (v := .int .i64 (E : Int)) (fun W => rfl) rfl ?_
  simp only [nm0, nm1, nm2, nm3]
  refine wl_pure (v := v) (fun W => rfl) rfl ?_
  simp only [nm0, nm1, nm2, nm3]
  refine wl_pure (v := .int .i64 (P : Int)) (fun W => rfl) rfl ?_
  simp only [nm0, nm1, nm2, nm3]
  refine wl_pure (v := .int .i64 (E : Int)) (fun W => rfl) rfl ?_
  simp only [nm0, nm1, nm2, nm3]
  refine wpList_nil ?_
  go_upto_region 4 with fail
  refine wp_region_lit ?_
  refine wl_pure (v := .string t) (fun W => rfl) rfl ?_
  simp only [nm0, nm1, nm2, nm3]
  refine wl_callE (args := #[.string t]) (fun W => run_call_fn W (enters_of Tryd.func10 (by kernel_rfl) rfl) rfl (by simp [Act.eval])) (KR.out W3) rfl ?_
  rintro e W4 ⟨v2, rfl, ho4, hb4⟩
  refine ⟨_, rfl, ?_⟩
  have hM4 := hM3.calls hb4
  simp only [nm0, nm1, nm2, nm3]
  refine wl_pure (v := .tuple #[v2, .int .i64 (P : Int), .int .i64 (E : Int)]) (fun W => rfl) rfl ?_
  simp only [nm0, nm1, nm2, nm3]
  refine wl_pure (v := v2) (fun W => rfl) rfl ?_
  simp only [nm0, nm1, nm2, nm3]
  refine wl_pure (v := .int .i64 (P : Int)) (fun W => rfl) rfl ?_
  simp only [nm0, nm1, nm2, nm3]
  refine wl_pure (v := .int .i64 (E : Int)) (fun W => rfl) rfl ?_
  simp only [nm0, nm1, nm2, nm3]
  have hn4 := Mem.start W4
  refine lw_valW (v := .pointer (some ⟨W4.heap.size, 0, none⟩)) (run_alloc_of rfl (al_Sl W4)) rfl ?_
  have hM5 := hM4.new1 (.cells #[.slice none 0 0] SlT (0, 0))
  have hn5 := hn4.new1 (.cells #[.slice none 0 0] SlT (0, 0))
  simp only [nm0, nm1, nm2, nm3]
  refine lw_skipW (run_store_one (v := v2) (hM5.get 0 rfl) rfl rfl rfl cellSl (owns_one ho4)) rfl rfl ?_
  have hM6 := hM5.set (cs := #[v2]) 0 rfl
  have hn6 := hn5.set (cs := #[v2]) 0 rfl
  simp only [nm2, nm3] at hM6 hn6
  refine wl_pure (v := .int .i64 (P : Int)) (fun W => rfl) rfl ?_
  simp only [nm0, nm1, nm2, nm3]
  refine wl_pure (v := .int .i64 (E : Int)) (fun W => rfl) rfl ?_
  simp only [nm0, nm1, nm2, nm3]
  refine wpList_nil ?_
  obtain ⟨bw, hbw⟩ : ∃ bw, W4.heap.size = bw := ⟨_, rfl⟩
  obtain ⟨W6, hW6⟩ : ∃ W6, (W4.alloc (.cells #[.slice none 0 0] SlT (0, 0))).setRow W4.heap.size #[v2] = W6 := ⟨_, rfl⟩
  rw [hW6] at hM6 hn6 ⊢
  rw [hbw] at hM6 ⊢
  have o1 := owns_below ho3 hb4 (Nat.le_refl _)
  have o1 := owns_below o1 hn6.below (Nat.le_refl _)
  have o2 := owns_below ho4 hn6.below (Nat.le_refl _)
  obtain ⟨a2, c2, hv2⟩ := owns_form o2
  subst hv2
  clear hW6 hbw hn4 hn5 hM5 hM4 hM3 hM2 ho3 ho4 hb3 hb4 hn6
  have hT6 := tabs_low h2 hT hM6.below
  go_upto_region 5 with fail
  refine wp_region_lit ?_
  refine wl_pure (v := .string t) (fun W => rfl) rfl ?_
  simp only [nm0, nm1, nm2, nm3]
  refine wl_callE (args := #[.string t]) (fun W => run_call_fn W (enters_of Tryd.func11 (by kernel_rfl) rfl) rfl (by simp [Act.eval])) (lall_any t W6) rfl ?_
  rintro e W7 ⟨rfl, hW7⟩
  refine ⟨_, rfl, ?_⟩
  have hN7 := (Mem.start W6).new1 (.cells #[.string t] 9)
  rw [← hW7] at hN7
  obtain ⟨Bs, hBs⟩ : ∃ Bs, W6.heap.size = Bs := ⟨_, rfl⟩
  rw [hBs] at hN7 ⊢
  clear hW7
  simp only [nm0, nm1, nm2, nm3]
  refine wl_pure (v := .func (.func 20) #[] #[.pointer (some ⟨Bs, 0, none⟩)]) (fun W => rfl) rfl ?_
  simp only [nm0, nm1, nm2, nm3]
  refine wpList_nil ?_
  go_upto_region 6 with fail
  refine wp_region_lit ?_
  refine wl_pure (v := .func (.func 20) #[] #[.pointer (some ⟨Bs, 0, none⟩)]) (fun W => rfl) rfl ?_
  simp only [nm0, nm1, nm2, nm3]
  refine wl_pure (v := .bool false) (fun W => run_bin_of rfl rfl rfl (xfunc_nil _ W)) rfl ?_
  simp only [nm0, nm1, nm2, nm3]
  refine wpList_nil ?_
  go_upto_region 8 with fail
  refine wp_region_lit ?_
  refine wl_new hN7 (f := fun b => .pointer (some ⟨b, 0, none⟩)) (fun W => run_alloc_of rfl (al_Int W)) rfl fun bn W8 hN8 => ?_
  simp only [nm0, nm1, nm2, nm3]
  refine lw_skipW (run_store_one (v := .int .i64 0) (hN8.get 0 rfl) rfl rfl rfl cellInt rfl) rfl rfl ?_
  have hN9 := hN8.set (cs := #[.int .i64 0]) 0 rfl
  simp only [nm2, nm3] at hN9
  refine wpList_nil ?_
  obtain ⟨W9, hW9⟩ : ∃ W9, W8.setRow bn #[.int .i64 0] = W9 := ⟨_, rfl⟩
  rw [hW9] at hN9 ⊢
  clear hW9 hN8 hN7
  go_wp2_with fail
  refine (wpIn_wide (n := 4)).1 ?_
  -- THE RANGE
  obtain ⟨D, hD⟩ : ∃ D, W9.heap.size = D := ⟨_, rfl⟩
  have lbn := hN9.low _ (List.mem_of_getElem? (i := 0) rfl)
  have ubn := hN9.lt (List.mem_of_getElem? (i := 0) rfl)
  have uBs := hN9.lt (List.mem_of_getElem? (i := 1) rfl)
  simp only at lbn ubn uBs
  rw [hD] at ubn uBs
  have hb69 := hN9.below
  have hD6 : W6.heap.size ≤ D := by rw [← hD]; exact hb69.size
  have hwD : w.heap.size ≤ D := Nat.le_trans hM6.below.size hD6
  have hT9 := tabs_low (tabs_size hT6) hT6 hb69
  have z6 := tabs_size hT6
  have ubw6 := hM6.lt (List.mem_of_getElem? (i := 0) rfl)
  simp only at ubw6
  have hOK : okL (els t 0) = LL := by unfold okL; rw [HO.out]
  have hcl : ∀ z : Int, ∀ p ∈ ([(bn, .cells #[.int .i64 z] 3 (0, 0)), (Bs, .cells #[.string t] 9 (0, 0))] : List Blk), p.2.isCells = true := fun z p hp => by
    simp only [List.mem_cons, List.not_mem_nil, or_false] at hp
    rcases hp with rfl | rfl <;> rfl
  refine wpIn_range_x rfl (by omega) (gf := 20) (lb := #[.pointer (some ⟨Bs, 0, none⟩)]) rfl trivial (enters_of Tryd.func20 (by kernel_rfl) rfl)
    (all1_x (4 - 1) (by omega) t (by omega) Bs (fun k => k ≠ bn ∧ k ≠ D + 1) (D + 2) (fun k hk => ⟨by omega, by omega⟩) W9 (hN9.get 1 rfl) hT9 ⟨by unfold g3; omega, by unfold g3; omega⟩ ⟨by unfold g4; omega, by unfold g4; omega⟩) kpF_t ?hkb (Below.refl _ _) (fun _ => rfl)
    (fun pre V => Mem W6 [(bn, .cells #[.int .i64 (pre.length : Int)] 3 (0, 0)), (Bs, .cells #[.string t] 9 (0, 0))] V)
    (fun cd xs V => cd = .exit 0 ∧ (xs.length : Int) = most ∧ Mem W6 [(bn, .cells #[.int .i64 (xs.length : Int)] 3 (0, 0)), (Bs, .cells #[.string t] 9 (0, 0))] V)
    ?hI ?hIx ?hInv ?h0
    (fun x a' V => ∃ p, a' = { tmps := #[.string t, .int .i64 most, undef, .pointer (some ⟨bm, 0, none⟩), .pointer (some ⟨br, 0, none⟩), v, .int .i64 (P : Int), .int .i64 (E : Int), .pointer (some ⟨bw, 0, none⟩), .int .i64 (P : Int), .int .i64 (E : Int), .func (.func 20) #[] #[.pointer (some ⟨Bs, 0, none⟩)], .pointer (some ⟨bn, 0, none⟩), .pointer (some ⟨p, 0, none⟩), .string t, .int .i64 (t.size : Int), .bool false, undef, .tuple #[v, .int .i64 (P : Int), .int .i64 (E : Int)], .string t, .tuple #[v, .int .i64 (P : Int), .int .i64 (E : Int)], v, .int .i64 (P : Int), .int .i64 (E : Int), .tuple #[.slice a2 LL.length c2, .int .i64 (P : Int), .int .i64 (E : Int)], .string t, .tuple #[.slice a2 LL.length c2, .int .i64 (P : Int), .int .i64 (E : Int)], .slice a2 LL.length c2, .int .i64 (P : Int), .int .i64 (E : Int), .string t, .func (.func 20) #[] #[.pointer (some ⟨Bs, 0, none⟩)], .func (.func 20) #[] #[.pointer (some ⟨Bs, 0, none⟩)], .bool false, .func (.func 20) #[] #[.pointer (some ⟨Bs, 0, none⟩)], .agg (tokA x), undef, undef, undef, undef, undef, undef, undef, undef, undef, undef, undef, undef, undef, undef, undef, undef, undef, undef, undef, undef, undef, undef, undef, undef, undef, undef, undef, undef, undef, undef, undef, undef, undef, undef, undef, undef, undef, undef, undef, undef, undef, undef, undef, undef], defers := [] } ∧ V.heap[p]? = some (tokB x)) ?hAx ?assign ?body ?done ?stop
  case hkb =>
    rw [hD]
    intro V r r' h
    exact ⟨by simp [World.putObj], fun k ob hk hf => ⟨(World.putObj_heap_other hf.2).trans hk, hf⟩⟩
  case hI =>
    rw [hD]
    intro pre A B row hm hg hr
    exact mem_own hm (hcl _) hD6 hg hr
  case hIx =>
    rw [hD]
    rintro cd xs A B row ⟨h1, h5, hm⟩ hg hr
    exact ⟨h1, h5, mem_own hm (hcl _) hD6 hg hr⟩
  case hInv =>
    rw [hD]
    intro pre V hm hz
    exact hz
  case h0 => exact hN9
  case hAx =>
    rw [hD]
    rintro x a' u A B row ⟨p, h1, h5⟩ hg hr
    exact ⟨p, h1, cells_own h5 hg fun r e => (hr r e).2⟩
  case assign =>
    intro l2 pre x V K hI hx hgo
    rw [hD] at hgo
    refine wpIn_fr (t' := #[.string t, .int .i64 most, undef, .pointer (some ⟨bm, 0, none⟩), .pointer (some ⟨br, 0, none⟩), v, .int .i64 (P : Int), .int .i64 (E : Int), .pointer (some ⟨bw, 0, none⟩), .int .i64 (P : Int), .int .i64 (E : Int), .func (.func 20) #[] #[.pointer (some ⟨Bs, 0, none⟩)], .pointer (some ⟨bn, 0, none⟩), undef, .string t, .int .i64 (t.size : Int), .bool false, undef, .tuple #[v, .int .i64 (P : Int), .int .i64 (E : Int)], .string t, .tuple #[v, .int .i64 (P : Int), .int .i64 (E : Int)], v, .int .i64 (P : Int), .int .i64 (E : Int), .tuple #[.slice a2 LL.length c2, .int .i64 (P : Int), .int .i64 (E : Int)], .string t, .tuple #[.slice a2 LL.length c2, .int .i64 (P : Int), .int .i64 (E : Int)], .slice a2 LL.length c2, .int .i64 (P : Int), .int .i64 (E : Int), .string t, .func (.func 20) #[] #[.pointer (some ⟨Bs, 0, none⟩)], .func (.func 20) #[] #[.pointer (some ⟨Bs, 0, none⟩)], .bool false, .func (.func 20) #[] #[.pointer (some ⟨Bs, 0, none⟩)], .agg (tokA x), undef, undef, undef, undef, undef, undef, undef, undef, undef, undef, undef, undef, undef, undef, undef, undef, undef, undef, undef, undef, undef, undef, undef, undef, undef, undef, undef, undef, undef, undef, undef, undef, undef, undef, undef, undef, undef, undef, undef, undef, undef, undef, undef, undef]) (by simp) ?_
    refine wpIn_region_lit ?_
    refine wi_val (v := .pointer (some ⟨V.heap.size, 0, none⟩)) (fun _ => trivial) (by simp) (run_alloc_of rfl (al_Tok V)) rfl ?_
    have hM3 := (Mem.start V).new1 (.cells #[.int .i64 0, .int .i64 0, .int .i64 0, .int .i64 0, .string ByteArray.empty] TokT (0, 0))
    refine wi_skip (fun _ => trivial) (by simp) (run_store_whole (cs := tokA x) (hM3.get 0 rfl) rfl rfl rfl rowTok rfl (by simp [tokA, Value.oneCell'])) rfl rfl ?_
    have hM4 := hM3.set (cs := tokA x) 0 rfl
    refine wpListIn_nil ?_
    have hb := hM4.below
    have lt : ∀ {k ob}, V.heap[k]? = some ob → k < V.heap.size := fun h => (Array.getElem?_eq_some_iff.1 h).1
    exact hgo _ _ (below_keeps hb _) ⟨hb.size, fun k ob hk hf => ⟨(hb.block k (lt hk)).trans hk, hf⟩⟩ (hI.calls hb) ⟨V.heap.size, rfl, hM4.get 0 rfl⟩
  case body =>
    rw [hD]
    rintro l2 pre x a' V hl1 hloop hI ⟨p, rfl, hp⟩ hx
    rw [hOK] at hx
    have hxl : pre.length < LL.length := by
      have := hx.length_le
      simp only [List.length_append, List.length_cons, List.length_nil] at this
      omega
    have hxa : LL[pre.length]? = some x := by
      obtain ⟨r, hr⟩ := hx
      rw [← hr]
      simp
    obtain ⟨g, cap, hv, -, hg, cur, hcur, htk⟩ := owns_slice o2 (by omega)
    obtain ⟨rfl, rfl⟩ : a2 = some ⟨g, 0, none⟩ ∧ c2 = cap := by
      injection hv with e1 e2 e3
      exact ⟨e1, e3⟩
    have hrt := row_tok htk rfl hxa
    have hbV := hI.below
    have vcur := (hbV.block g hg).trans hcur
    have vbn := hI.get 0 rfl
    have vbw := (hbV.block bw ubw6).trans (hM6.get 0 rfl)
    have vbm := (hbV.block bm (hM6.lt (List.mem_of_getElem? (i := 2) rfl))).trans (hM6.get 2 rfl)
    have ln := (Array.getElem?_eq_some_iff.1 vbn).1
    have lw := (Array.getElem?_eq_some_iff.1 vbw).1
    have lp := (Array.getElem?_eq_some_iff.1 hp).1
    have lg := (Array.getElem?_eq_some_iff.1 vcur).1
    have q1 : (pre.length : Int) < (LL.length : Int) := by omega
    have w1 : IntKind.i64.wrap ((pre.length : Int) + 1) = (pre.length : Int) + 1 := IntWalk.i64_in _ (by omega)
    refine wpIn_block ?_
    refine wpIn_seq_k fun K2 hK2 => ?_
    refine wpIn_seq_k fun K3 hK3 => ?_
    apply region_inRoundR 12 _ (fun V' => Below V.heap.size V V') mixO (by kernel_rfl) (by decide) (by kernel_rfl) (by kernel_rfl) ?run ?rest
    case run =>
      refine inw_val (v := .int .i64 (pre.length : Int)) (by rfl) (by rfl) (fun d os => run_load_cell rfl rfl (((below_regrown V d os).block bn ln).trans vbn) rfl cellInt) ?_
      simp only [nm0, nm1, nm2, nm3]
      refine inw_val (v := .slice (some ⟨g, 0, none⟩) LL.length c2) (by rfl) (by rfl) (fun d os => run_load_cell rfl rfl (((below_regrown V d os).block bw lw).trans vbw) rfl cellSl) ?_
      simp only [nm0, nm1, nm2, nm3]
      refine inw_pure (v := .int .i64 (LL.length : Int)) (fun W => by go_simp) rfl rfl ?_
      simp only [nm0, nm1, nm2, nm3]
      refine inw_pure (v := .bool false) (fun W => run_bin_of rfl rfl rfl (by go_simp)) rfl rfl ?_
      simp only [nm0, nm1, nm2, nm3]
      refine inw_pure (v := .bool false) (fun W => rfl) rfl rfl ?_
      simp only [nm0, nm1, nm2, nm3]
      refine inw_val (v := .agg (tokA x)) (by rfl) (by rfl) (fun d os => run_load_row rfl rfl (((below_regrown V d os).block p lp).trans hp) rowTok) ?_
      simp only [nm0, nm1, nm2, nm3]
      refine inw_val (v := .slice (some ⟨g, 0, none⟩) LL.length c2) (by rfl) (by rfl) (fun d os => run_load_cell rfl rfl (((below_regrown V d os).block bw lw).trans vbw) rfl cellSl) ?_
      simp only [nm0, nm1, nm2, nm3]
      refine inw_val (v := .int .i64 (pre.length : Int)) (by rfl) (by rfl) (fun d os => run_load_cell rfl rfl (((below_regrown V d os).block bn ln).trans vbn) rfl cellInt) ?_
      simp only [nm0, nm1, nm2, nm3]
      refine inw_pure (v := .pointer (some ⟨g, 5 * pre.length, none⟩)) (fun W => run_index_of rfl rfl rfl (ix_Tok g LL.length c2 pre.length hxl W)) rfl rfl ?_
      simp only [nm0, nm1, nm2, nm3]
      refine inw_val (v := .agg (tokA x)) (by rfl) (by rfl) (fun d os => run_load_part (sub := tokA x) rfl rfl (((below_regrown V d os).block g lg).trans vcur) hrt rowTok) ?_
      simp only [nm0, nm1, nm2, nm3]
      refine inw_pure (v := .bool false) (fun W => run_bin_of rfl rfl rfl (neq_tokG _ _ x W)) rfl rfl ?_
      simp only [nm0, nm1, nm2, nm3]
      refine inw_pure (v := .bool false) (fun W => rfl) rfl rfl ?_
      simp only [nm0, nm1, nm2, nm3]
      refine inw_end fun d os => ?_
      refine wpAny_done (by kernel_rfl) ?_ _
      exact ⟨rfl, rfl, below_regrown V d os⟩
    case rest =>
      intro V1 hb1
      have hI1 := hI.calls hb1
      refine hK3 _ _ ?_
      refine wpIn_cond_false rfl ?_
      refine wpIn_skip ?_
      refine hK2 _ _ ?_
      refine wpIn_seq_k fun K4 hK4 => ?_
      refine wpIn_region_lit ?_
      refine wi_val (v := .int .i64 (pre.length : Int)) (fun _ => trivial) (by simp) (run_load_cell rfl rfl (hI1.get 0 rfl) rfl cellInt) rfl ?_
      refine wi_val (w' := V1) (v := .int .i64 ((pre.length : Int) + 1)) (fun _ => trivial) (by simp) (run_bin_of rfl rfl rfl (by go_simp)) rfl ?_
      refine wi_skip (fun _ => trivial) (by simp) (run_store_one (v := .int .i64 ((pre.length : Int) + 1)) (hI1.get 0 rfl) rfl rfl rfl cellInt rfl) rfl rfl ?_
      have hI2 := hI1.set (cs := #[.int .i64 ((pre.length : Int) + 1)]) 0 rfl
      refine wpListIn_nil (hK4 _ _ ?_)
      have vbm2 : (V1.setRow bn #[.int .i64 ((pre.length : Int) + 1)]).heap[bm]? = some (.cells #[.int .i64 most] 3 (0, 0)) := by
        rw [setRow_other _ _ _ _ (by have := hM6.lt (List.mem_of_getElem? (i := 2) rfl); simp only at this; omega)]
        exact (hb1.block bm (Array.getElem?_eq_some_iff.1 vbm).1).trans vbm
      refine wpIn_seq_k fun K5 hK5 => ?_
      refine wpIn_region_lit ?_
      refine wi_val (v := .int .i64 ((pre.length : Int) + 1)) (fun _ => trivial) (by simp) (run_load_cell rfl rfl (hI2.get 0 rfl) rfl cellInt) rfl ?_
      refine wi_val (v := .int .i64 most) (fun _ => trivial) (by simp) (run_load_cell rfl rfl vbm2 rfl cellInt) rfl ?_
      obtain ⟨z, ez⟩ : ∃ z : Bool, z = (((pre.length : Int) + 1) == most) := ⟨_, rfl⟩
      refine wi_val (v := .bool z) (fun _ => trivial) (by simp) (by rw [ez]; rfl) rfl ?_
      refine wpListIn_nil (hK5 _ _ ?_)
      have e1 : (((pre ++ [x]).length : Nat) : Int) = (pre.length : Int) + 1 := by simp
      have hkeep : KeepsFrom D V (V1.setRow bn #[.int .i64 ((pre.length : Int) + 1)]) := (below_keeps hb1 D).trans (setRow_keeps _ _ _ _ ubn)
      have hI3 : Mem W6 [(bn, .cells #[.int .i64 (((pre ++ [x]).length : Nat) : Int)] 3 (0, 0)), (Bs, .cells #[.string t] 9 (0, 0))] (V1.setRow bn #[.int .i64 ((pre.length : Int) + 1)]) := by rw [e1]; exact hI2
      by_cases hz : (pre.length : Int) + 1 = most
      · have : z = true := by rw [ez]; simpa using hz
        subst this
        refine wpIn_cond_true rfl ?_
        refine wpIn_exit ?_
        exact ⟨hkeep, rfl, by rw [e1]; exact hz, hI3⟩
      · have : z = false := by rw [ez]; simpa using hz
        subst this
        refine wpIn_cond_false rfl ?_
        refine wpIn_skip ?_
        refine ⟨hkeep, ⟨by have := hb1.size; simp; omega, fun k ob hk hf => ⟨?_, hf⟩⟩, hI3⟩
        rw [setRow_other _ _ _ _ hf.1]
        exact (hb1.block k (Array.getElem?_eq_some_iff.1 hk).1).trans hk
  case done =>
    rintro D' V hD' hV hK
    rw [hD] at hD'
    rw [hOK] at hV
    have hbV := hV.below
    have hMV := hM6.calls hbV
    have o1V := owns_below o1 hbV (Nat.le_refl _)
    have o2V := owns_below o2 hbV (Nat.le_refl _)
    have hTV := tabs_low h2 hT hMV.below
    have vbn := hV.get 0 rfl
    have vbw := hMV.get 0 rfl
    have lbr := hMV.low _ (List.mem_of_getElem? (i := 1) rfl)
    have ubr := hM6.lt (List.mem_of_getElem? (i := 1) rfl)
    have ubw := hM6.lt (List.mem_of_getElem? (i := 0) rfl)
    have cn := blk_cell vbn (i := 0) (v := .int .i64 (LL.length : Int)) rfl
    have cw := blk_cell vbw (i := 0) (v := .slice a2 LL.length c2) rfl
    have cm := blk_cell (hMV.get 2 rfl) (i := 0) (v := .int .i64 most) rfl
    simp only at lbr ubr ubw
    have HV := Lib.hid (show _ ∧ _ ∧ _ ∧ _ ∧ _ from ⟨hMV, o1V, o2V, hTV, hK⟩)
    have HD := Lib.hid hD'
    clear hV hbV hMV o1V o2V hTV vbn vbw hK
    by_cases hE : E = 0
    · have e0 : ((E : Int) == 0) = true := by simp [hE]
      have hRL : resT (els t 0) = LL := by unfold resT; rw [HO.out]; exact if_pos hE
      clear hE
      go_upto_region 19 with fail
      refine wp_region_lit ?_
      refine wl_pure (v := v) (fun W => rfl) rfl ?_
      simp only [nm0, nm1, nm2, nm3]
      refine lw_val (v := .slice a2 LL.length c2) (run_load_cell rfl rfl (HV.out.1.get 0 rfl) rfl cellSl) rfl ?_
      simp only [nm0, nm1, nm2, nm3]
      refine wl_call (Mem.start _) (args := #[v, .slice a2 LL.length c2]) (v := .bool true) (fun W => run_call_fn W (enters_of Tryd.func12 (by kernel_rfl) rfl) rfl (by simp [Act.eval])) (same_any LL v (.slice a2 LL.length c2) _ _ V (by rw [← hRL]; exact HV.out.2.1) HV.out.2.2.1 (by omega)) rfl fun V8 hM8 => ?_
      have hMc := HV.out.1.calls hM8.below
      have hKc := (hM8.below.block D' (Array.getElem?_eq_some_iff.1 HV.out.2.2.2.2).1).trans HV.out.2.2.2.2
      simp only [nm0, nm1, nm2, nm3]
      refine wl_pure (v := .bool true) (fun W => rfl) rfl ?_
      simp only [nm0, nm1, nm2, nm3]
      refine wl_pure (v := .int .i64 (P : Int)) (fun W => rfl) rfl ?_
      simp only [nm0, nm1, nm2, nm3]
      refine wl_pure (v := .int .i64 (P : Int)) (fun W => rfl) rfl ?_
      simp only [nm0, nm1, nm2, nm3]
      refine wl_pure (v := .bool true) (fun W => by go_simp) rfl ?_
      simp only [nm0, nm1, nm2, nm3]
      refine wl_pure (v := .bool true) (fun W => rfl) rfl ?_
      simp only [nm0, nm1, nm2, nm3]
      refine wl_pure (v := .bool true) (fun W => rfl) rfl ?_
      simp only [nm0, nm1, nm2, nm3]
      refine wl_pure (v := .int .i64 (E : Int)) (fun W => rfl) rfl ?_
      simp only [nm0, nm1, nm2, nm3]
      refine wl_pure (v := .int .i64 (E : Int)) (fun W => rfl) rfl ?_
      simp only [nm0, nm1, nm2, nm3]
      refine wl_pure (v := .bool true) (fun W => by go_simp) rfl ?_
      simp only [nm0, nm1, nm2, nm3]
      refine wl_pure (v := .bool true) (fun W => rfl) rfl ?_
      simp only [nm0, nm1, nm2, nm3]
      refine wl_pure (v := .bool true) (fun W => rfl) rfl ?_
      simp only [nm0, nm1, nm2, nm3]
      refine wl_call (Mem.start V8) (args := #[]) (v := .bool true) (fun W => run_call_fn W (enters_of Tryd.func6 (by kernel_rfl) rfl) rfl (by simp [Act.eval])) (KL.out V8 (tabs_low h2 hT hMc.below)) rfl fun V9 hm9 => ?_
      simp only [nm0, nm1, nm2, nm3]
      have hM9 := hMc.calls hm9.below
      have hK9 := (hm9.below.block D' (Array.getElem?_eq_some_iff.1 hKc).1).trans hKc
      refine wl_pure (v := .bool true) (fun W => rfl) rfl ?_
      simp only [nm0, nm1, nm2, nm3]
      refine lw_skipW (run_store_one (v := .bool true) (hM9.get 1 rfl) rfl rfl rfl cellBool rfl) rfl rfl ?_
      have hMa := hM9.set (cs := #[.bool true]) 1 rfl
      simp only [nm2, nm3] at hMa
      refine wpList_nil ?_
      have hKa : (V9.setRow br #[.bool true]).heap[D']? = some (.deferred (some [])) := by rw [setRow_other _ _ _ _ (by have := HD.out; omega)]; exact hK9
      obtain ⟨Va, hVa⟩ : ∃ Va, V9.setRow br #[.bool true] = Va := ⟨_, rfl⟩
      rw [hVa] at hMa hKa ⊢
      clear hVa
      go_wp2_with fail
      refine ⟨by simp, .inl ⟨_, _, rfl, run_takeDeferred hKa, ?_⟩⟩
      have hpo := grownBy_putObj' Va D' (.deferred none)
      have hMb := mem_own hMa (D := D) (fun p hp => by
        simp only [List.mem_cons, List.not_mem_nil, or_false] at hp
        rcases hp with rfl | rfl | rfl <;> rfl) hwD hpo fun r e => by cases e; exact ⟨HD.out, _, hKa, rfl⟩
      exact ⟨.bool true, resB rfl rfl (load_cell (hMb.get 1 rfl) rfl cellBool), rfl, hMb.below⟩
    · have e0 : ((E : Int) == 0) = false := by simp; omega
      have e1 : ¬ (E : Int) = 0 := by omega
      have hRL : resT (els t 0) = [] := by unfold resT; rw [HO.out]; exact if_neg hE
      go_upto_region 18 with fail
      refine wp_region_lit ?_
      refine lw_skipW (run_store_one (v := .slice none 0 0) (HV.out.1.get 0 rfl) rfl rfl rfl cellSl rfl) rfl rfl ?_
      have hMe := HV.out.1.set (cs := #[.slice none 0 0]) 0 rfl
      simp only [nm2, nm3] at hMe
      refine wpList_nil ?_
      have hKe : (V.setRow bw #[.slice none 0 0]).heap[D']? = some (.deferred (some [])) := by rw [setRow_other _ _ _ _ (by have := HD.out; omega)]; exact HV.out.2.2.2.2
      have o1e := owns_other (cs := #[.slice none 0 0]) HV.out.2.1 (HV.out.1.get 0 rfl)
      obtain ⟨Ve, hVe⟩ : ∃ Ve, V.setRow bw #[.slice none 0 0] = Ve := ⟨_, rfl⟩
      rw [hVe] at hMe hKe o1e ⊢
      clear hVe
      go_upto_region 19 with fail
      refine wp_region_lit ?_
      refine wl_pure (v := v) (fun W => rfl) rfl ?_
      simp only [nm0, nm1, nm2, nm3]
      refine lw_val (v := .slice none 0 0) (run_load_cell rfl rfl (hMe.get 0 rfl) rfl cellSl) rfl ?_
      simp only [nm0, nm1, nm2, nm3]
      refine wl_call (Mem.start _) (args := #[v, .slice none 0 0]) (v := .bool true) (fun W => run_call_fn W (enters_of Tryd.func12 (by kernel_rfl) rfl) rfl (by simp [Act.eval])) (same_any [] v (.slice none 0 0) _ w.heap.size Ve (by rw [← hRL]; exact o1e) (World.ownsRow_nil _ _ _ _) (by simp)) rfl fun V8 hM8 => ?_
      have hMc := hMe.calls hM8.below
      have hKc := (hM8.below.block D' (Array.getElem?_eq_some_iff.1 hKe).1).trans hKe
      simp only [nm0, nm1, nm2, nm3]
      refine wl_pure (v := .bool true) (fun W => rfl) rfl ?_
      simp only [nm0, nm1, nm2, nm3]
      refine wl_pure (v := .int .i64 (P : Int)) (fun W => rfl) rfl ?_
      simp only [nm0, nm1, nm2, nm3]
      refine wl_pure (v := .int .i64 (P : Int)) (fun W => rfl) rfl ?_
      simp only [nm0, nm1, nm2, nm3]
      refine wl_pure (v := .bool true) (fun W => by go_simp) rfl ?_
      simp only [nm0, nm1, nm2, nm3]
      refine wl_pure (v := .bool true) (fun W => rfl) rfl ?_
      simp only [nm0, nm1, nm2, nm3]
      refine wl_pure (v := .bool true) (fun W => rfl) rfl ?_
      simp only [nm0, nm1, nm2, nm3]
      refine wl_pure (v := .int .i64 (E : Int)) (fun W => rfl) rfl ?_
      simp only [nm0, nm1, nm2, nm3]
      refine wl_pure (v := .int .i64 (E : Int)) (fun W => rfl) rfl ?_
      simp only [nm0, nm1, nm2, nm3]
      refine wl_pure (v := .bool true) (fun W => by go_simp) rfl ?_
      simp only [nm0, nm1, nm2, nm3]
      refine wl_pure (v := .bool true) (fun W => rfl) rfl ?_
      simp only [nm0, nm1, nm2, nm3]
      refine wl_pure (v := .bool true) (fun W => rfl) rfl ?_
      simp only [nm0, nm1, nm2, nm3]
      refine wl_call (Mem.start V8) (args := #[]) (v := .bool true) (fun W => run_call_fn W (enters_of Tryd.func6 (by kernel_rfl) rfl) rfl (by simp [Act.eval])) (KL.out V8 (tabs_low h2 hT hMc.below)) rfl fun V9 hm9 => ?_
      simp only [nm0, nm1, nm2, nm3]
      have hM9 := hMc.calls hm9.below
      have hK9 := (hm9.below.block D' (Array.getElem?_eq_some_iff.1 hKc).1).trans hKc
      refine wl_pure (v := .bool true) (fun W => rfl) rfl ?_
      simp only [nm0, nm1, nm2, nm3]
      refine lw_skipW (run_store_one (v := .bool true) (hM9.get 1 rfl) rfl rfl rfl cellBool rfl) rfl rfl ?_
      have hMa := hM9.set (cs := #[.bool true]) 1 rfl
      simp only [nm2, nm3] at hMa
      refine wpList_nil ?_
      have hKa : (V9.setRow br #[.bool true]).heap[D']? = some (.deferred (some [])) := by rw [setRow_other _ _ _ _ (by have := HD.out; omega)]; exact hK9
      obtain ⟨Va, hVa⟩ : ∃ Va, V9.setRow br #[.bool true] = Va := ⟨_, rfl⟩
      rw [hVa] at hMa hKa ⊢
      clear hVa
      go_wp2_with fail
      refine ⟨by simp, .inl ⟨_, _, rfl, run_takeDeferred hKa, ?_⟩⟩
      have hpo := grownBy_putObj' Va D' (.deferred none)
      have hMb := mem_own hMa (D := D) (fun p hp => by
        simp only [List.mem_cons, List.not_mem_nil, or_false] at hp
        rcases hp with rfl | rfl | rfl <;> rfl) hwD hpo fun r e => by cases e; exact ⟨HD.out, _, hKa, rfl⟩
      exact ⟨.bool true, resB rfl rfl (load_cell (hMb.get 1 rfl) rfl cellBool), rfl, hMb.below⟩
  case stop =>
    rintro D' cd pre x V hD' hx ⟨rfl, hm, hV⟩ hK
    rw [hD] at hD'
    obtain ⟨N, hN1⟩ : ∃ N, (pre ++ [x]).length = N := ⟨_, rfl⟩
    rw [hN1] at hV hm
    have hN : N = LL.length ∨ (N : Int) = most := .inr hm
    refine wpIn_wide.2 ?_
    have hbV := hV.below
    have hMV := hM6.calls hbV
    have o1V := owns_below o1 hbV (Nat.le_refl _)
    have o2V := owns_below o2 hbV (Nat.le_refl _)
    have hTV := tabs_low h2 hT hMV.below
    have vbn := hV.get 0 rfl
    have vbw := hMV.get 0 rfl
    have lbr := hMV.low _ (List.mem_of_getElem? (i := 1) rfl)
    have ubr := hM6.lt (List.mem_of_getElem? (i := 1) rfl)
    have ubw := hM6.lt (List.mem_of_getElem? (i := 0) rfl)
    have cn := blk_cell vbn (i := 0) (v := .int .i64 (N : Int)) rfl
    have cw := blk_cell vbw (i := 0) (v := .slice a2 LL.length c2) rfl
    have cm := blk_cell (hMV.get 2 rfl) (i := 0) (v := .int .i64 most) rfl
    simp only at lbr ubr ubw
    have HV := Lib.hid (show _ ∧ _ ∧ _ ∧ _ ∧ _ from ⟨hMV, o1V, o2V, hTV, hK⟩)
    have HD := Lib.hid hD'
    clear hV hbV hMV o1V o2V hTV vbn vbw hK
    by_cases hNl : N = LL.length
    · clear hN hN1 hm
      subst hNl
      by_cases hE : E = 0
      · have e0 : ((E : Int) == 0) = true := by simp [hE]
        have hRL : resT (els t 0) = LL := by unfold resT; rw [HO.out]; exact if_pos hE
        clear hE
        go_upto_region 19 with fail
        refine wp_region_lit ?_
        refine wl_pure (v := v) (fun W => rfl) rfl ?_
        simp only [nm0, nm1, nm2, nm3]
        refine lw_val (v := .slice a2 LL.length c2) (run_load_cell rfl rfl (HV.out.1.get 0 rfl) rfl cellSl) rfl ?_
        simp only [nm0, nm1, nm2, nm3]
        refine wl_call (Mem.start _) (args := #[v, .slice a2 LL.length c2]) (v := .bool true) (fun W => run_call_fn W (enters_of Tryd.func12 (by kernel_rfl) rfl) rfl (by simp [Act.eval])) (same_any LL v (.slice a2 LL.length c2) _ _ V (by rw [← hRL]; exact HV.out.2.1) HV.out.2.2.1 (by omega)) rfl fun V8 hM8 => ?_
        have hMc := HV.out.1.calls hM8.below
        have hKc := (hM8.below.block D' (Array.getElem?_eq_some_iff.1 HV.out.2.2.2.2).1).trans HV.out.2.2.2.2
        simp only [nm0, nm1, nm2, nm3]
        refine wl_pure (v := .bool true) (fun W => rfl) rfl ?_
        simp only [nm0, nm1, nm2, nm3]
        refine wl_pure (v := .int .i64 (P : Int)) (fun W => rfl) rfl ?_
        simp only [nm0, nm1, nm2, nm3]
        refine wl_pure (v := .int .i64 (P : Int)) (fun W => rfl) rfl ?_
        simp only [nm0, nm1, nm2, nm3]
        refine wl_pure (v := .bool true) (fun W => by go_simp) rfl ?_
        simp only [nm0, nm1, nm2, nm3]
        refine wl_pure (v := .bool true) (fun W => rfl) rfl ?_
        simp only [nm0, nm1, nm2, nm3]
        refine wl_pure (v := .bool true) (fun W => rfl) rfl ?_
        simp only [nm0, nm1, nm2, nm3]
        refine wl_pure (v := .int .i64 (E : Int)) (fun W => rfl) rfl ?_
        simp only [nm0, nm1, nm2, nm3]
        refine wl_pure (v := .int .i64 (E : Int)) (fun W => rfl) rfl ?_
        simp only [nm0, nm1, nm2, nm3]
        refine wl_pure (v := .bool true) (fun W => by go_simp) rfl ?_
        simp only [nm0, nm1, nm2, nm3]
        refine wl_pure (v := .bool true) (fun W => rfl) rfl ?_
        simp only [nm0, nm1, nm2, nm3]
        refine wl_pure (v := .bool true) (fun W => rfl) rfl ?_
        simp only [nm0, nm1, nm2, nm3]
        refine wl_call (Mem.start V8) (args := #[]) (v := .bool true) (fun W => run_call_fn W (enters_of Tryd.func6 (by kernel_rfl) rfl) rfl (by simp [Act.eval])) (KL.out V8 (tabs_low h2 hT hMc.below)) rfl fun V9 hm9 => ?_
        simp only [nm0, nm1, nm2, nm3]
        have hM9 := hMc.calls hm9.below
        have hK9 := (hm9.below.block D' (Array.getElem?_eq_some_iff.1 hKc).1).trans hKc
        refine wl_pure (v := .bool true) (fun W => rfl) rfl ?_
        simp only [nm0, nm1, nm2, nm3]
        refine lw_skipW (run_store_one (v := .bool true) (hM9.get 1 rfl) rfl rfl rfl cellBool rfl) rfl rfl ?_
        have hMa := hM9.set (cs := #[.bool true]) 1 rfl
        simp only [nm2, nm3] at hMa
        refine wpList_nil ?_
        have hKa : (V9.setRow br #[.bool true]).heap[D']? = some (.deferred (some [])) := by rw [setRow_other _ _ _ _ (by have := HD.out; omega)]; exact hK9
        obtain ⟨Va, hVa⟩ : ∃ Va, V9.setRow br #[.bool true] = Va := ⟨_, rfl⟩
        rw [hVa] at hMa hKa ⊢
        clear hVa
        go_wp2_with fail
        refine ⟨by simp, .inl ⟨_, _, rfl, run_takeDeferred hKa, ?_⟩⟩
        have hpo := grownBy_putObj' Va D' (.deferred none)
        have hMb := mem_own hMa (D := D) (fun p hp => by
          simp only [List.mem_cons, List.not_mem_nil, or_false] at hp
          rcases hp with rfl | rfl | rfl <;> rfl) hwD hpo fun r e => by cases e; exact ⟨HD.out, _, hKa, rfl⟩
        exact ⟨.bool true, resB rfl rfl (load_cell (hMb.get 1 rfl) rfl cellBool), rfl, hMb.below⟩
      · have e0 : ((E : Int) == 0) = false := by simp; omega
        have e1 : ¬ (E : Int) = 0 := by omega
        have hRL : resT (els t 0) = [] := by unfold resT; rw [HO.out]; exact if_neg hE
        go_upto_region 18 with fail
        refine wp_region_lit ?_
        refine lw_skipW (run_store_one (v := .slice none 0 0) (HV.out.1.get 0 rfl) rfl rfl rfl cellSl rfl) rfl rfl ?_
        have hMe := HV.out.1.set (cs := #[.slice none 0 0]) 0 rfl
        simp only [nm2, nm3] at hMe
        refine wpList_nil ?_
        have hKe : (V.setRow bw #[.slice none 0 0]).heap[D']? = some (.deferred (some [])) := by rw [setRow_other _ _ _ _ (by have := HD.out; omega)]; exact HV.out.2.2.2.2
        have o1e := owns_other (cs := #[.slice none 0 0]) HV.out.2.1 (HV.out.1.get 0 rfl)
        obtain ⟨Ve, hVe⟩ : ∃ Ve, V.setRow bw #[.slice none 0 0] = Ve := ⟨_, rfl⟩
        rw [hVe] at hMe hKe o1e ⊢
        clear hVe
        go_upto_region 19 with fail
        refine wp_region_lit ?_
        refine wl_pure (v := v) (fun W => rfl) rfl ?_
        simp only [nm0, nm1, nm2, nm3]
        refine lw_val (v := .slice none 0 0) (run_load_cell rfl rfl (hMe.get 0 rfl) rfl cellSl) rfl ?_
        simp only [nm0, nm1, nm2, nm3]
        refine wl_call (Mem.start _) (args := #[v, .slice none 0 0]) (v := .bool true) (fun W => run_call_fn W (enters_of Tryd.func12 (by kernel_rfl) rfl) rfl (by simp [Act.eval])) (same_any [] v (.slice none 0 0) _ w.heap.size Ve (by rw [← hRL]; exact o1e) (World.ownsRow_nil _ _ _ _) (by simp)) rfl fun V8 hM8 => ?_
        have hMc := hMe.calls hM8.below
        have hKc := (hM8.below.block D' (Array.getElem?_eq_some_iff.1 hKe).1).trans hKe
        simp only [nm0, nm1, nm2, nm3]
        refine wl_pure (v := .bool true) (fun W => rfl) rfl ?_
        simp only [nm0, nm1, nm2, nm3]
        refine wl_pure (v := .int .i64 (P : Int)) (fun W => rfl) rfl ?_
        simp only [nm0, nm1, nm2, nm3]
        refine wl_pure (v := .int .i64 (P : Int)) (fun W => rfl) rfl ?_
        simp only [nm0, nm1, nm2, nm3]
        refine wl_pure (v := .bool true) (fun W => by go_simp) rfl ?_
        simp only [nm0, nm1, nm2, nm3]
        refine wl_pure (v := .bool true) (fun W => rfl) rfl ?_
        simp only [nm0, nm1, nm2, nm3]
        refine wl_pure (v := .bool true) (fun W => rfl) rfl ?_
        simp only [nm0, nm1, nm2, nm3]
        refine wl_pure (v := .int .i64 (E : Int)) (fun W => rfl) rfl ?_
        simp only [nm0, nm1, nm2, nm3]
        refine wl_pure (v := .int .i64 (E : Int)) (fun W => rfl) rfl ?_
        simp only [nm0, nm1, nm2, nm3]
        refine wl_pure (v := .bool true) (fun W => by go_simp) rfl ?_
        simp only [nm0, nm1, nm2, nm3]
        refine wl_pure (v := .bool true) (fun W => rfl) rfl ?_
        simp only [nm0, nm1, nm2, nm3]
        refine wl_pure (v := .bool true) (fun W => rfl) rfl ?_
        simp only [nm0, nm1, nm2, nm3]
        refine wl_call (Mem.start V8) (args := #[]) (v := .bool true) (fun W => run_call_fn W (enters_of Tryd.func6 (by kernel_rfl) rfl) rfl (by simp [Act.eval])) (KL.out V8 (tabs_low h2 hT hMc.below)) rfl fun V9 hm9 => ?_
        simp only [nm0, nm1, nm2, nm3]
        have hM9 := hMc.calls hm9.below
        have hK9 := (hm9.below.block D' (Array.getElem?_eq_some_iff.1 hKc).1).trans hKc
        refine wl_pure (v := .bool true) (fun W => rfl) rfl ?_
        simp only [nm0, nm1, nm2, nm3]
        refine lw_skipW (run_store_one (v := .bool true) (hM9.get 1 rfl) rfl rfl rfl cellBool rfl) rfl rfl ?_
        have hMa := hM9.set (cs := #[.bool true]) 1 rfl
        simp only [nm2, nm3] at hMa
        refine wpList_nil ?_
        have hKa : (V9.setRow br #[.bool true]).heap[D']? = some (.deferred (some [])) := by rw [setRow_other _ _ _ _ (by have := HD.out; omega)]; exact hK9
        obtain ⟨Va, hVa⟩ : ∃ Va, V9.setRow br #[.bool true] = Va := ⟨_, rfl⟩
        rw [hVa] at hMa hKa ⊢
        clear hVa
        go_wp2_with fail
        refine ⟨by simp, .inl ⟨_, _, rfl, run_takeDeferred hKa, ?_⟩⟩
        have hpo := grownBy_putObj' Va D' (.deferred none)
        have hMb := mem_own hMa (D := D) (fun p hp => by
          simp only [List.mem_cons, List.not_mem_nil, or_false] at hp
          rcases hp with rfl | rfl | rfl <;> rfl) hwD hpo fun r e => by cases e; exact ⟨HD.out, _, hKa, rfl⟩
        exact ⟨.bool true, resB rfl rfl (load_cell (hMb.get 1 rfl) rfl cellBool), rfl, hMb.below⟩
    · have hNm := hN.resolve_left hNl
      have z1 : ((N : Int) == (LL.length : Int)) = false := by simp; omega
      have z2 : ¬ (N : Int) = (LL.length : Int) := by omega
      clear hN hN1 hm hNl
      subst hNm
      by_cases hE : E = 0
      · have e0 : ((E : Int) == 0) = true := by simp [hE]
        have hRL : resT (els t 0) = LL := by unfold resT; rw [HO.out]; exact if_pos hE
        clear hE
        go_upto_region 19 with fail
        refine wp_region_lit ?_
        refine wl_pure (v := v) (fun W => rfl) rfl ?_
        simp only [nm0, nm1, nm2, nm3]
        refine lw_val (v := .slice a2 LL.length c2) (run_load_cell rfl rfl (HV.out.1.get 0 rfl) rfl cellSl) rfl ?_
        simp only [nm0, nm1, nm2, nm3]
        refine wl_call (Mem.start _) (args := #[v, .slice a2 LL.length c2]) (v := .bool true) (fun W => run_call_fn W (enters_of Tryd.func12 (by kernel_rfl) rfl) rfl (by simp [Act.eval])) (same_any LL v (.slice a2 LL.length c2) _ _ V (by rw [← hRL]; exact HV.out.2.1) HV.out.2.2.1 (by omega)) rfl fun V8 hM8 => ?_
        have hMc := HV.out.1.calls hM8.below
        have hKc := (hM8.below.block D' (Array.getElem?_eq_some_iff.1 HV.out.2.2.2.2).1).trans HV.out.2.2.2.2
        simp only [nm0, nm1, nm2, nm3]
        refine wl_pure (v := .bool true) (fun W => rfl) rfl ?_
        simp only [nm0, nm1, nm2, nm3]
        refine wl_pure (v := .int .i64 (P : Int)) (fun W => rfl) rfl ?_
        simp only [nm0, nm1, nm2, nm3]
        refine wl_pure (v := .int .i64 (P : Int)) (fun W => rfl) rfl ?_
        simp only [nm0, nm1, nm2, nm3]
        refine wl_pure (v := .bool true) (fun W => by go_simp) rfl ?_
        simp only [nm0, nm1, nm2, nm3]
        refine wl_pure (v := .bool true) (fun W => rfl) rfl ?_
        simp only [nm0, nm1, nm2, nm3]
        refine wl_pure (v := .bool true) (fun W => rfl) rfl ?_
        simp only [nm0, nm1, nm2, nm3]
        refine wl_pure (v := .int .i64 (E : Int)) (fun W => rfl) rfl ?_
        simp only [nm0, nm1, nm2, nm3]
        refine wl_pure (v := .int .i64 (E : Int)) (fun W => rfl) rfl ?_
        simp only [nm0, nm1, nm2, nm3]
        refine wl_pure (v := .bool true) (fun W => by go_simp) rfl ?_
        simp only [nm0, nm1, nm2, nm3]
        refine wl_pure (v := .bool true) (fun W => rfl) rfl ?_
        simp only [nm0, nm1, nm2, nm3]
        refine wl_pure (v := .bool true) (fun W => rfl) rfl ?_
        simp only [nm0, nm1, nm2, nm3]
        refine wl_call (Mem.start V8) (args := #[]) (v := .bool true) (fun W => run_call_fn W (enters_of Tryd.func6 (by kernel_rfl) rfl) rfl (by simp [Act.eval])) (KL.out V8 (tabs_low h2 hT hMc.below)) rfl fun V9 hm9 => ?_
        simp only [nm0, nm1, nm2, nm3]
        have hM9 := hMc.calls hm9.below
        have hK9 := (hm9.below.block D' (Array.getElem?_eq_some_iff.1 hKc).1).trans hKc
        refine wl_pure (v := .bool true) (fun W => rfl) rfl ?_
        simp only [nm0, nm1, nm2, nm3]
        refine lw_skipW (run_store_one (v := .bool true) (hM9.get 1 rfl) rfl rfl rfl cellBool rfl) rfl rfl ?_
        have hMa := hM9.set (cs := #[.bool true]) 1 rfl
        simp only [nm2, nm3] at hMa
        refine wpList_nil ?_
        have hKa : (V9.setRow br #[.bool true]).heap[D']? = some (.deferred (some [])) := by rw [setRow_other _ _ _ _ (by have := HD.out; omega)]; exact hK9
        obtain ⟨Va, hVa⟩ : ∃ Va, V9.setRow br #[.bool true] = Va := ⟨_, rfl⟩
        rw [hVa] at hMa hKa ⊢
        clear hVa
        go_wp2_with fail
        refine ⟨by simp, .inl ⟨_, _, rfl, run_takeDeferred hKa, ?_⟩⟩
        have hpo := grownBy_putObj' Va D' (.deferred none)
        have hMb := mem_own hMa (D := D) (fun p hp => by
          simp only [List.mem_cons, List.not_mem_nil, or_false] at hp
          rcases hp with rfl | rfl | rfl <;> rfl) hwD hpo fun r e => by cases e; exact ⟨HD.out, _, hKa, rfl⟩
        exact ⟨.bool true, resB rfl rfl (load_cell (hMb.get 1 rfl) rfl cellBool), rfl, hMb.below⟩
      · have e0 : ((E : Int) == 0) = false := by simp; omega
        have e1 : ¬ (E : Int) = 0 := by omega
        have hRL : resT (els t 0) = [] := by unfold resT; rw [HO.out]; exact if_neg hE
        go_upto_region 18 with fail
        refine wp_region_lit ?_
        refine lw_skipW (run_store_one (v := .slice none 0 0) (HV.out.1.get 0 rfl) rfl rfl rfl cellSl rfl) rfl rfl ?_
        have hMe := HV.out.1.set (cs := #[.slice none 0 0]) 0 rfl
        simp only [nm2, nm3] at hMe
        refine wpList_nil ?_
        have hKe : (V.setRow bw #[.slice none 0 0]).heap[D']? = some (.deferred (some [])) := by rw [setRow_other _ _ _ _ (by have := HD.out; omega)]; exact HV.out.2.2.2.2
        have o1e := owns_other (cs := #[.slice none 0 0]) HV.out.2.1 (HV.out.1.get 0 rfl)
        obtain ⟨Ve, hVe⟩ : ∃ Ve, V.setRow bw #[.slice none 0 0] = Ve := ⟨_, rfl⟩
        rw [hVe] at hMe hKe o1e ⊢
        clear hVe
        go_upto_region 19 with fail
        refine wp_region_lit ?_
        refine wl_pure (v := v) (fun W => rfl) rfl ?_
        simp only [nm0, nm1, nm2, nm3]
        refine lw_val (v := .slice none 0 0) (run_load_cell rfl rfl (hMe.get 0 rfl) rfl cellSl) rfl ?_
        simp only [nm0, nm1, nm2, nm3]
        refine wl_call (Mem.start _) (args := #[v, .slice none 0 0]) (v := .bool true) (fun W => run_call_fn W (enters_of Tryd.func12 (by kernel_rfl) rfl) rfl (by simp [Act.eval])) (same_any [] v (.slice none 0 0) _ w.heap.size Ve (by rw [← hRL]; exact o1e) (World.ownsRow_nil _ _ _ _) (by simp)) rfl fun V8 hM8 => ?_
        have hMc := hMe.calls hM8.below
        have hKc := (hM8.below.block D' (Array.getElem?_eq_some_iff.1 hKe).1).trans hKe
        simp only [nm0, nm1, nm2, nm3]
        refine wl_pure (v := .bool true) (fun W => rfl) rfl ?_
        simp only [nm0, nm1, nm2, nm3]
        refine wl_pure (v := .int .i64 (P : Int)) (fun W => rfl) rfl ?_
        simp only [nm0, nm1, nm2, nm3]
        refine wl_pure (v := .int .i64 (P : Int)) (fun W => rfl) rfl ?_
        simp only [nm0, nm1, nm2, nm3]
        refine wl_pure (v := .bool true) (fun W => by go_simp) rfl ?_
        simp only [nm0, nm1, nm2, nm3]
        refine wl_pure (v := .bool true) (fun W => rfl) rfl ?_
        simp only [nm0, nm1, nm2, nm3]
        refine wl_pure (v := .bool true) (fun W => rfl) rfl ?_
        simp only [nm0, nm1, nm2, nm3]
        refine wl_pure (v := .int .i64 (E : Int)) (fun W => rfl) rfl ?_
        simp only [nm0, nm1, nm2, nm3]
        refine wl_pure (v := .int .i64 (E : Int)) (fun W => rfl) rfl ?_
        simp only [nm0, nm1, nm2, nm3]
        refine wl_pure (v := .bool true) (fun W => by go_simp) rfl ?_
        simp only [nm0, nm1, nm2, nm3]
        refine wl_pure (v := .bool true) (fun W => rfl) rfl ?_
        simp only [nm0, nm1, nm2, nm3]
        refine wl_pure (v := .bool true) (fun W => rfl) rfl ?_
        simp only [nm0, nm1, nm2, nm3]
        refine wl_call (Mem.start V8) (args := #[]) (v := .bool true) (fun W => run_call_fn W (enters_of Tryd.func6 (by kernel_rfl) rfl) rfl (by simp [Act.eval])) (KL.out V8 (tabs_low h2 hT hMc.below)) rfl fun V9 hm9 => ?_
        simp only [nm0, nm1, nm2, nm3]
        have hM9 := hMc.calls hm9.below
        have hK9 := (hm9.below.block D' (Array.getElem?_eq_some_iff.1 hKc).1).trans hKc
        refine wl_pure (v := .bool true) (fun W => rfl) rfl ?_
        simp only [nm0, nm1, nm2, nm3]
        refine lw_skipW (run_store_one (v := .bool true) (hM9.get 1 rfl) rfl rfl rfl cellBool rfl) rfl rfl ?_
        have hMa := hM9.set (cs := #[.bool true]) 1 rfl
        simp only [nm2, nm3] at hMa
        refine wpList_nil ?_
        have hKa : (V9.setRow br #[.bool true]).heap[D']? = some (.deferred (some [])) := by rw [setRow_other _ _ _ _ (by have := HD.out; omega)]; exact hK9
        obtain ⟨Va, hVa⟩ : ∃ Va, V9.setRow br #[.bool true] = Va := ⟨_, rfl⟩
        rw [hVa] at hMa hKa ⊢
        clear hVa
        go_wp2_with fail
        refine ⟨by simp, .inl ⟨_, _, rfl, run_takeDeferred hKa, ?_⟩⟩
        have hpo := grownBy_putObj' Va D' (.deferred none)
        have hMb := mem_own hMa (D := D) (fun p hp => by
          simp only [List.mem_cons, List.not_mem_nil, or_false] at hp
          rcases hp with rfl | rfl | rfl <;> rfl) hwD hpo fun r e => by cases e; exact ⟨HD.out, _, hKa, rfl⟩
        exact ⟨.bool true, resB rfl rfl (load_cell (hMb.get 1 rfl) rfl cellBool), rfl, hMb.below⟩
end Go.Proofs.YtndifilhfiooaaaDoor
namespace Go.Proofs.YtndifilhfiooaaaDoor
set_option maxRecDepth 20000
set_option linter.unusedSimpArgs false
set_option linter.unusedVariables false
open Go.RowKit Go.Lib
theorem tabs_ltoks {W : World} (h : laidMetH Tryd.prog Rows.lexTokensRow.laid W) : Tabs W := tabs_of_list h
theorem lexTokens_walk (t : ByteArray) (most : Int) (W : World) (_ : t.size ≤ maxLen) (_ : (Lit.int .i64 most).wf = true) (h : Tabs W) :
    Calls Tryd.prog 4 #[.string t, .int .i64 most] W fun e W' => e = .returned (.bool true) ∧ Below W.heap.size W W' := lexTokens_w t most W h
end Go.Proofs.YtndifilhfiooaaaDoor
