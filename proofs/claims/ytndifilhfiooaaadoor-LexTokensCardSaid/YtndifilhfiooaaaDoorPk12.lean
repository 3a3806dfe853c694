/- lex (layer 6): All: the iterator over an iterator. lex (layer 6): the reference's tokens; are lists of tokens the same. lex (layer 6): are lists of tokens the same. -/
import Derived.Test.YtndifilhfiooaaaDoorPk10
namespace Go.Proofs.YtndifilhfiooaaaDoor
set_option maxRecDepth 20000
set_option linter.unusedSimpArgs false
set_option linter.unusedVariables false
open Go.RowKit Go.Lib Go.Shelf Go.Sort
attribute [local go_sem] Oper.semAt_some
theorem roundIn_wide {P : Program} {m m' l l2 : Nat} {f : FuncId} {tmps : Array Value} {assign body : Code} {w : World} {R : Ending → World → Prop} (h : RoundIn Fence.wide m P l f tmps assign body w R) : RoundIn (Fence.wide.inRound l2) m' P l f tmps assign body w R :=
  ⟨trivial, fun c cs _ => h.2 c cs (room_wide _)⟩
/-- The words that are told. -/
def okL (L : List (Tok × Nat)) : List Tok := (outT L).1
theorem okL_pre {L pre : List (Tok × Nat)} {x : Tok × Nat} (h : pre ++ [x] <+: L) (hp : ∀ y ∈ pre, y.2 = 0) (hx : x.2 = 0) : pre.map Prod.fst ++ [x.1] <+: okL L := by
  obtain ⟨r, rfl⟩ := pre_mem h
  obtain ⟨X, E⟩ := x
  simp only at hx
  subst hx
  unfold okL
  rw [outT_app _ _ hp]
  refine ⟨(outT r).1, ?_⟩
  have e : outT ((X, 0) :: r) = (X :: (outT r).1, (outT r).2) := by
    rw [outT, if_neg (fun h => h rfl)]
  rw [e]
  simp
theorem bx_yield (l : Nat) (W : World) : (Instr.box 57 (.func (.yield l) #[] #[])).run Tryd.prog W = .ok (.pointer (some ⟨W.heap.size, 0, none⟩)) (W.alloc (.cells #[.func (.yield l) #[] #[]] 57 (0, 0))) := by go_simp
set_option maxRecDepth 100000 in
set_option maxHeartbeats 8000000 in
theorem all1_x (nd : Nat) (hn : 2 ≤ nd) (t : ByteArray) (ht : t.size ≤ 100000) (Bs : Nat) (S : Nat → Prop) (N : Nat) (hS : ∀ k, N ≤ k → S k) (w : World) (hBs : w.heap[Bs]? = some (.cells #[.string t] 9 (0, 0))) (hT : Tabs w) (h3 : S g3) (h4 : S g4) :
    SeqX Fence.wide nd Tryd.prog 20 #[.pointer (some ⟨Bs, 0, none⟩)] (fun x : Tok => #[.agg (tokA x)]) (fun W => N ≤ W.heap.size) (KpF fun _ k => S k) (okL (els t 0)) w := fun l J Jx W hW hJ hJx hJI hY h0 => by
  have tW := tabs_low (tabs_size hT) hT hW
  have bW := (hW.block Bs (Array.getElem?_eq_some_iff.1 hBs).1).trans hBs
  have iW := hJI _ _ h0
  have hJb : ∀ pre A B, J pre A → Below A.heap.size A B → J pre B := fun pre A B h hb => hJ pre A B none h (below_none hb) (fun r e => by cases e)
  clear hBs hT
  refine callsIn_of_wp_marks Tryd.func20 rfl trivial (wpIn_wide.2 ?_) rfl
  simp only [Tryd.ntmps20, List.size_toArray, List.length_cons, List.length_nil, Nat.reduceAdd, Nat.reduceSub, Array.replicate_succ, Array.replicate_zero, List.push_toArray, List.append_toArray, List.nil_append, List.cons_append]
  have hM0 := Mem.start W
  go_upto_region 0 with fail
  refine wp_region_lit ?_
  refine wl_new hM0 (f := fun b => .pointer (some ⟨b, 0, none⟩)) (ob := .cells #[.func (.yield l) #[] #[]] 57 (0, 0)) (fun W => run_box_of rfl rfl (bx_yield l W)) rfl fun q W1 hM1 => ?_
  simp only [nm0, nm1, nm2, nm3]
  refine wpList_nil ?_
  go_upto_region 1 with fail
  refine wp_region_lit ?_
  refine lw_val (v := .string t) (run_load_cell rfl rfl (hM1.old bW) rfl cellStr) rfl ?_
  simp only [nm0, nm1, nm2, nm3]
  refine wl_callE (args := #[.string t]) (fun W => run_call_fn W (enters_of Tryd.func19 (by kernel_rfl) rfl) rfl (by simp [Act.eval])) (tokens_any t W1) rfl ?_
  rintro e W2 ⟨rfl, hW2⟩
  refine ⟨_, rfl, ?_⟩
  have hM2 := hM1.new1 (.cells #[.string t] 9)
  rw [← hW2] at hM2
  obtain ⟨B2, hB2⟩ : ∃ B2, W1.heap.size = B2 := ⟨_, rfl⟩
  rw [hB2] at hM2 ⊢
  clear hW2 hB2
  simp only [nm0, nm1, nm2, nm3]
  refine wpList_nil ?_
  go_wp2_with fail
  refine (wpIn_wide (n := nd)).1 ?_
  obtain ⟨D, hD⟩ : ∃ D, W2.heap.size = D := ⟨_, rfl⟩
  have hb2 := hM2.below
  have hq := hM2.get 1 rfl
  have lq := hM2.low _ (List.mem_of_getElem? (i := 1) rfl)
  have lB := hM2.low _ (List.mem_of_getElem? (i := 0) rfl)
  have uq := hM2.lt (List.mem_of_getElem? (i := 1) rfl)
  have uB := hM2.lt (List.mem_of_getElem? (i := 0) rfl)
  simp only at lq lB uq uB
  rw [hD] at uq uB
  have hWD : W.heap.size ≤ D := by rw [← hD]; exact hb2.size
  have t2 := tabs_low (tabs_size tW) tW hb2
  have z2 := tabs_size t2
  rw [hD] at z2
  have hJ2 := hJb [] W W2 h0 hb2
  have Sq : S q := hS q (by omega)
  have SB : S B2 := hS B2 (by omega)
  refine wpIn_range_x rfl (by omega) (gf := 28) (lb := #[.pointer (some ⟨B2, 0, none⟩)]) rfl trivial (enters_of Tryd.func28 (by kernel_rfl) rfl)
    (tok1_x (nd - 1) (by omega) t ht B2 (fun V => N ≤ V.heap.size ∧ D + 1 < V.heap.size) (fun _ k => S k ∧ k ≠ D + 1) ?hup W2 (hM2.get 0 rfl) t2 (fun V hb _ => ⟨⟨SB, by omega⟩, ⟨h3, by unfold g3; omega⟩, ⟨h4, by unfold g4; omega⟩⟩)) kpF_t ?hkb (Below.refl _ _) (fun _ => rfl)
    (fun pre V => ((∀ y ∈ pre, y.2 = 0) ∧ D ≤ V.heap.size ∧ J (pre.map Prod.fst) V) ∧ V.heap[q]? = some (.cells #[.func (.yield l) #[] #[]] 57 (0, 0)))
    (fun cd xs V => cd = .ret ∧ ∃ pre x, xs = pre ++ [x] ∧ (∀ y ∈ pre, y.2 = 0) ∧ ((x.2 ≠ 0 ∧ J (pre.map Prod.fst) V) ∨ (x.2 = 0 ∧ Jx (pre.map Prod.fst ++ [x.1]) V)))
    ?hI ?hIx ?hInv ?h0
    (fun x a' V => ∃ p, a' = { tmps := #[.func (.yield l) #[] #[], .pointer (some ⟨Bs, 0, none⟩), .pointer (some ⟨q, 0, none⟩), .pointer (some ⟨p, 0, none⟩), .int .i64 (x.2 : Int), .string t, .func (.func 28) #[] #[.pointer (some ⟨B2, 0, none⟩)], .agg (tokA x.1), .int .i64 (x.2 : Int), undef, undef, undef, undef, undef, undef, undef, undef], defers := [] } ∧ V.heap[p]? = some (tokB x.1)) ?hAx ?assign ?body ?done ?stop
  case hup =>
    rintro A B k ⟨i1, i2⟩ hb hk
    rcases Nat.lt_or_ge k A.heap.size with h | h
    · exact hk h
    · exact ⟨hS k (by omega), by omega⟩
  case hkb =>
    rw [hD]
    intro V r r' h
    refine ⟨by simp [World.putObj], fun k ob hk hf => ⟨(World.putObj_heap_other hf.2).trans hk, hf⟩⟩
  case hI =>
    rw [hD]
    rintro pre A B row ⟨⟨h1, h5, h6⟩, h7⟩ hg hr
    exact ⟨⟨h1, Nat.le_trans h5 hg.size, hJ _ A B row h6 hg fun r e => ⟨by have := (hr r e).1; omega, (hr r e).2⟩⟩, cells_own h7 hg fun r e => (hr r e).2⟩
  case hIx =>
    rw [hD]
    rintro cd xs A B row ⟨h1, pre, x, h5, h6, h7⟩ hg hr
    refine ⟨h1, pre, x, h5, h6, ?_⟩
    rcases h7 with ⟨h7, h8⟩ | ⟨h7, h8⟩
    · exact .inl ⟨h7, hJ _ A B row h8 hg fun r e => ⟨by have := (hr r e).1; omega, (hr r e).2⟩⟩
    · exact .inr ⟨h7, hJx _ A B row h8 hg fun r e => ⟨by have := (hr r e).1; omega, (hr r e).2⟩⟩
  case hInv =>
    rw [hD]
    rintro pre V ⟨⟨-, -, h6⟩, -⟩ hz
    exact ⟨hJI _ _ h6, hz⟩
  case h0 => exact ⟨⟨fun y hy => (by cases hy), by omega, hJ2⟩, hq⟩
  case hAx =>
    rw [hD]
    rintro x a' u A B row ⟨p, h1, h5⟩ hg hr
    exact ⟨p, h1, cells_own h5 hg fun r e => (hr r e).2⟩
  case assign =>
    intro l2 pre x V K hI hx hgo
    rw [hD] at hgo
    refine wpIn_fr (t' := #[.func (.yield l) #[] #[], .pointer (some ⟨Bs, 0, none⟩), .pointer (some ⟨q, 0, none⟩), undef, undef, .string t, .func (.func 28) #[] #[.pointer (some ⟨B2, 0, none⟩)], .agg (tokA x.1), .int .i64 (x.2 : Int), undef, undef, undef, undef, undef, undef, undef, undef]) (by simp) ?_
    refine wpIn_seq_k fun K2 hK2 => ?_
    refine wpIn_region_lit ?_
    refine wi_val (v := .pointer (some ⟨V.heap.size, 0, none⟩)) (fun _ => trivial) (by simp) (run_alloc_of rfl (al_Tok V)) rfl ?_
    have hM3 := (Mem.start V).new1 (.cells #[.int .i64 0, .int .i64 0, .int .i64 0, .int .i64 0, .string ByteArray.empty] TokT (0, 0))
    refine wi_skip (fun _ => trivial) (by simp) (run_store_whole (cs := tokA x.1) (hM3.get 0 rfl) rfl rfl rfl rowTok rfl (by simp [tokA, Value.oneCell'])) rfl rfl ?_
    have hM4 := hM3.set (cs := tokA x.1) 0 rfl
    refine wpListIn_nil (hK2 _ _ ?_)
    refine wpIn_region_lit ?_
    refine wi_val (v := .int .i64 (x.2 : Int)) (fun _ => trivial) (by simp) rfl rfl ?_
    refine wpListIn_nil ?_
    obtain ⟨⟨h1, h5, h6⟩, h7⟩ := hI
    have hb := hM4.below
    have lt : ∀ {k ob}, V.heap[k]? = some ob → k < V.heap.size := fun h => (Array.getElem?_eq_some_iff.1 h).1
    exact hgo _ _ (below_keeps hb _) ⟨hb.size, fun k ob hk hf => ⟨(hb.block k (lt hk)).trans hk, hf⟩⟩ ⟨⟨h1, Nat.le_trans h5 hb.size, hJb _ _ _ h6 hb⟩, (hb.block q (lt h7)).trans h7⟩ ⟨V.heap.size, rfl, hM4.get 0 rfl⟩
  case body =>
    rw [hD]
    rintro l2 pre x a' V hl1 hloop ⟨⟨h1, h5, h6⟩, h7⟩ ⟨p, rfl, hp⟩ hx
    obtain ⟨X, E⟩ := x
    simp only at hp hx ⊢
    have HP := Lib.hid h1
    have H6 := Lib.hid h6
    have HX := Lib.hid hx
    have HY := Lib.hid hY
    have H7 := Lib.hid h7
    have c7 := blk_cell h7 (i := 0) (v := .func (.yield l) #[] #[]) rfl
    have x0 := blk_cell hp (i := 0) (v := .int .i64 (X.kind : Int)) rfl
    have x1 := blk_cell hp (i := 1) (v := .int .i64 (X.fr : Int)) rfl
    have x2 := blk_cell hp (i := 2) (v := .int .i64 (X.til : Int)) rfl
    have x3 := blk_cell hp (i := 3) (v := .int .i64 X.n) rfl
    have x4 := blk_cell hp (i := 4) (v := .string ⟨X.s.toArray⟩) rfl
    have hXa : tokA X = #[.int .i64 (X.kind : Int), .int .i64 (X.fr : Int), .int .i64 (X.til : Int), .int .i64 X.n, .string ⟨X.s.toArray⟩] := rfl
    by_cases hE : E = 0
    · obtain ⟨fn, tmps, assign, body, hy, hR⟩ := HY.out (pre.map Prod.fst) X V H6.out (okL_pre HX.out HP.out hE)
      rw [hXa] at hy
      subst hE
      have hm : ((0 : Nat) : Int) = 0 := rfl
      rw [hm]
      have hR2 := Lib.hid hR
      have H5 := Lib.hid h5
      clear hR h1 h5 h6 h7 hp hx hY hloop hXa hm
      have fin : ∀ W', KpF (fun _ k => S k) V W' → J (pre.map Prod.fst ++ [X]) W' → ownPostG D (KpF fun _ k => S k ∧ k ≠ D + 1) (fun pre V => ((∀ y ∈ pre, y.2 = 0) ∧ D ≤ V.heap.size ∧ J (pre.map Prod.fst) V) ∧ V.heap[q]? = some (.cells #[.func (.yield l) #[] #[]] 57 (0, 0)))
          (fun cd xs V => cd = .ret ∧ ∃ pre x, xs = pre ++ [x] ∧ (∀ y ∈ pre, y.2 = 0) ∧ ((x.2 ≠ 0 ∧ J (pre.map Prod.fst) V) ∨ (x.2 = 0 ∧ Jx (pre.map Prod.fst ++ [x.1]) V))) (pre ++ [(X, 0)]) V .normal { tmps := #[], defers := [] } W' := fun W' hk hJ' =>
        ⟨⟨hk.1, fun k o hkD ho _ => (hk.2 k o ho (hS k (by omega))).1⟩, ⟨hk.1, fun k ob ho hf => ⟨(hk.2 k ob ho hf.1).1, hf⟩⟩, ⟨fun y hy => by
          rcases List.mem_append.1 hy with h | h
          · exact HP.out y h
          · rw [List.mem_singleton.1 h], Nat.le_trans H5.out hk.1, by rw [List.map_append]; exact hJ'⟩, (hk.2 q _ H7.out Sq).1⟩
      have FIN := Lib.hid fin
      clear fin
      gi_wp2
      refine ⟨fun h => (by cases h), (roundIn_wide hR2.out).mono ?_⟩
      rintro e W' (⟨rfl, hJ', hk⟩ | ⟨rfl, hJx', hk⟩)
      · gi_wp2
        exact FIN.out W' hk hJ'
      · gi_wp2
        exact ⟨⟨hk.size, fun k o hkD ho hcl => hk.same k o (by omega) ho hcl⟩, rfl, pre, (X, 0), rfl, HP.out, .inr ⟨rfl, hJx'⟩⟩
    · have q0 : ((E : Int) == 0) = false := by simp; omega
      have q1 : ¬ (E : Int) = 0 := by omega
      clear h1 h6 h7 hp hx hY hloop hXa
      refine wpIn_block ?_
      refine wpIn_seq_k fun K2 hK2 => ?_
      refine regionL_inRound (fun A V' => A.eval (.tmp 16) = .bool true ∧ V' = V) (by kernel_rfl) ?_ ?_
      · refine wl_pure (v := .int .i64 (E : Int)) (fun W => rfl) rfl ?_
        simp only [nm0, nm1, nm2, nm3]
        refine wl_pure (v := .bool true) (fun W => run_bin_of rfl rfl rfl (by go_simp)) rfl ?_
        simp only [nm0, nm1, nm2, nm3]
        refine wl_pure (v := .bool true) (fun W => rfl) rfl ?_
        simp only [nm0, nm1, nm2, nm3]
        refine wl_skip rfl ?_
        simp only [nm0, nm1, nm2, nm3]
        refine wl_skip rfl ?_
        simp only [nm0, nm1, nm2, nm3]
        refine wl_skip rfl ?_
        simp only [nm0, nm1, nm2, nm3]
        refine wl_skip rfl ?_
        simp only [nm0, nm1, nm2, nm3]
        refine wl_pure (v := .bool true) (fun W => rfl) rfl ?_
        simp only [nm0, nm1, nm2, nm3]
        refine wpList_nil ⟨rfl, rfl, rfl⟩
      · rintro A V' ⟨hA, rfl⟩
        refine hK2 _ _ ?_
        refine wpIn_cond_true hA ?_
        refine wpIn_ret ?_
        exact ⟨KeepsFrom.refl _ _, rfl, pre, (X, E), rfl, HP.out, .inl ⟨hE, H6.out⟩⟩
  case done =>
    rintro D' V hD' ⟨⟨h1, h5, h6⟩, h7⟩ hK
    rw [hD] at hD'
    go_wp2_with fail
    refine ⟨by simp, .inl ⟨_, _, rfl, run_takeDeferred hK, ?_⟩⟩
    have hpo := grownBy_putObj' V D' (.deferred none)
    have hJ9 := hJ _ V _ _ h6 hpo fun r e => by cases e; exact ⟨by omega, _, hK, rfl⟩
    refine ⟨.tuple #[], results_none rfl _ _ _, ⟨_, rfl⟩, .inl ?_⟩
    have e : okL (els t 0) = (els t 0).map Prod.fst := by unfold okL; rw [(resT_ok h1).1]
    rw [e]
    exact hJ9
  case stop =>
    rintro D' cd pre x V hD' hx ⟨rfl, pre', x', he, hp, hor⟩ hK
    rw [hD] at hD'
    obtain ⟨rfl, hxx⟩ := List.append_inj' he rfl
    obtain rfl : x = x' := by simpa using hxx
    refine wpIn_wide.2 ?_
    go_wp2_with fail
    refine ⟨by simp, .inl ⟨_, _, rfl, run_takeDeferred hK, ?_⟩⟩
    have hpo := grownBy_putObj' V D' (.deferred none)
    refine ⟨.tuple #[], results_none rfl _ _ _, ⟨_, rfl⟩, ?_⟩
    rcases hor with ⟨hE, hj⟩ | ⟨hE, hj⟩
    · refine .inl ?_
      have e : okL (els t 0) = pre.map Prod.fst := by unfold okL; rw [(resT_err hx hp hE).1]
      rw [e]
      exact hJ _ V _ _ hj hpo fun r e => by cases e; exact ⟨by omega, _, hK, rfl⟩
    · exact .inr ⟨_, _, okL_pre hx hp hE, hJx _ V _ _ hj hpo fun r e => by cases e; exact ⟨by omega, _, hK, rfl⟩⟩
end Go.Proofs.YtndifilhfiooaaaDoor
namespace Go.Proofs.YtndifilhfiooaaaDoor
set_option maxRecDepth 20000
set_option linter.unusedSimpArgs false
set_option linter.unusedVariables false
open Go.RowKit Go.Lib Go.Shelf Go.Sort
attribute [local go_sem] Oper.semAt_some
theorem outT_err {L pre : List (Tok × Nat)} {x : Tok × Nat} (hx : L = pre ++ [x]) (hp : ∀ y ∈ pre, y.2 = 0) (hE : x.2 ≠ 0) : outT L = (pre.map Prod.fst, x.1.fr, x.2) :=
  (resT_err (by rw [hx]; exact List.prefix_refl _) hp hE).1
set_option maxRecDepth 100000 in
set_option maxHeartbeats 8000000 in
theorem rtoks_any (t : ByteArray) (ht : t.size ≤ 10000) (w : World) :
    Calls Tryd.prog 10 #[.string t] w fun e w' => ∃ v, e = .returned (.tuple #[v, .int .i64 ((outT (els t 0)).2.1 : Int), .int .i64 ((outT (els t 0)).2.2 : Int)]) ∧ w'.ownsRow w.heap.size TokT 5 v (outT (els t 0)).1.length (tkV (outT (els t 0)).1) ∧ Below w.heap.size w w' := by
  have KR := Lib.hid (fun a w ha => rnext_in t a w ht ha)
  go_enter Tryd.func10, Tryd.ntmps10
  go_wp2_with fail
  go_loopw [5, 6] (fun v p wr => ∃ (pre : List (Tok × Nat)) (a : Nat), p = .int .i64 (a : Int) ∧ a ≤ t.size ∧ els t 0 = pre ++ els t a ∧ (∀ y ∈ pre, y.2 = 0) ∧ wr.ownsRow w.heap.size TokT 5 v pre.length (tkV (pre.map Prod.fst)) ∧ Below w.heap.size w wr)
    (fun _ p _ => t.size - (Go.RowKit.intOf p).toNat)
  case atStart => exact ⟨[], 0, rfl, by omega, rfl, fun y hy => (by cases hy), World.ownsRow_nil _ _ _ _, Below.refl _ _⟩
  case round =>
    obtain ⟨pre, a, rfl, ha, hx, hok, hown, hbw⟩ := hrel
    obtain ⟨v, hv⟩ : ∃ v, u5 = v := ⟨_, rfl⟩
    rw [hv] at hown ⊢
    clear hv
    obtain ⟨X, E, hX⟩ : ∃ X E, wordT t (blk t a) = (X, E) := ⟨_, _, rfl⟩
    have hM0 := Mem.start wr
    have KN := KR.out a wr ha
    rw [hX] at KN
    go_upto_region 3 with fail
    refine wp_region_lit ?_
    refine wl_pure (v := .string t) (fun W => rfl) rfl ?_
    simp only [nm0, nm1, nm2, nm3]
    refine wl_pure (v := .int .i64 (a : Int)) (fun W => rfl) rfl ?_
    simp only [nm0, nm1, nm2, nm3]
    refine wl_call hM0 (args := #[.string t, .int .i64 (a : Int)]) (v := .tuple #[.agg (tokA X), .int .i64 (E : Int)]) (fun W => run_call_fn W (enters_of Tryd.func8 (by kernel_rfl) rfl) rfl (by simp [Act.eval])) KN rfl fun V1 hM1 => ?_
    simp only [nm0, nm1, nm2, nm3]
    refine wl_pure (v := .tuple #[.agg (tokA X), .int .i64 (E : Int)]) (fun W => rfl) rfl ?_
    simp only [nm0, nm1, nm2, nm3]
    refine wl_pure (v := .agg (tokA X)) (fun W => rfl) rfl ?_
    simp only [nm0, nm1, nm2, nm3]
    refine wl_pure (v := .int .i64 (E : Int)) (fun W => rfl) rfl ?_
    simp only [nm0, nm1, nm2, nm3]
    refine wl_new hM1 (f := fun b => .pointer (some ⟨b, 0, none⟩)) (fun W => run_alloc_of rfl (al_Tok W)) rfl fun p V2 hM2 => ?_
    simp only [nm0, nm1, nm2, nm3]
    refine wl_set hM2 0 (cs := tokA X) rfl rfl rfl rfl rowTok rfl (by simp [tokA, Value.oneCell']) rfl rfl fun V3 hM3 => ?_
    simp only [nm2, nm3] at hM3
    refine wl_pure (v := .int .i64 (E : Int)) (fun W => rfl) rfl ?_
    simp only [nm0, nm1, nm2, nm3]
    refine wpList_nil ?_
    have hpb := hM3.get 0 rfl
    have hpl := hM3.low _ (List.mem_of_getElem? (i := 0) rfl)
    simp only at hpl
    have hbe := hM3.below
    have hb3 := hbw.trans (hbe.mono hbw.size)
    have ho3 := owns_below hown hbe (Nat.le_refl _)
    have hpV := (Array.getElem?_eq_some_iff.1 hpb).1
    by_cases hE : E = 0
    · have p0 : (E : Int) = 0 := by omega
      have hz1 : (V3.alloc (.cells (tokA X) TokT (0, 0))).heap.size = V3.heap.size + 1 := by simp
      have hb1 : Below V3.heap.size V3 (V3.alloc (.cells (tokA X) TokT (0, 0))) := (Below.refl _ V3).alloc (Nat.le_refl _) _
      have hnew : (V3.alloc (.cells (tokA X) TokT (0, 0))).heap[V3.heap.size]? = some (.cells (tokA X) TokT (0, 0)) := World.alloc_heap_new V3 _
      have h41 := owns_below ho3 hb1 (Nat.le_refl _)
      have hlen : pre.length ≤ t.size := by
        have hl := els_len t _ 0 rfl (by omega)
        have h9 : 0 < (els t a).length := by
          rw [els]
          split <;> simp
        rw [hx, List.length_append] at hl
        omega
      obtain ⟨i0, hi, hz0, hz2, hz3⟩ := info_partsT info_Tok
      have hrun := run_append_own_at (P := Tryd.prog) (V3.alloc (.cells (tokA X) TokT (0, 0))) w.heap.size SlT SlT TokT i0 _ 5 48 Tryd.underlying31 hi hz0 hz2 hz3 rfl (by decide) v pre.length _ h41 ⟨V3.heap.size, 0, none⟩ 1 1 (tokA X).toList rfl
        (fun j u hu => news_at hnew j u hu) (by simp [tokA, Value.oneCell']) (by unfold maxLen; omega) (by omega) (by have := hb3.size; omega)
      obtain ⟨v', W2, hrun, h5, h6, -, h7⟩ := hrun
      have hrow : ∀ g, v.ownBlock = some g → w.heap.size ≤ g ∧ g < wr.heap.size := fun g hv => ⟨(owns_lt hown hv).1, (owns_lt hown hv).2.1⟩
      have hp2 : W2.heap[p]? = some (.cells (tokA X) TokT (0, 0)) := (h6.block p (by omega) (fun e => by have := (hrow p e.symm).2; omega)).trans ((hb1.block p hpV).trans hpb)
      have hb2 : Below w.heap.size w W2 := by
        have hb0 := hb3.trans (hb1.mono hb3.size)
        exact ⟨h6.os.trans hb0.os, h6.tape.trans hb0.tape, h6.output.trans hb0.output, Nat.le_trans hb0.size h6.size, fun k hk => (h6.block k (Nat.lt_of_lt_of_le hk hb0.size) (fun e => by have := (hrow k e.symm).1; omega)).trans (hb0.block k hk)⟩
      have ho5 : W2.ownsRow w.heap.size TokT 5 v' (pre ++ [(X, 0)]).length (tkV ((pre ++ [(X, 0)]).map Prod.fst)) := by
        rw [List.length_append, List.map_append, tkV_app]
        have e1 : tkV (List.map Prod.fst [(X, 0)]) = (tokA X).toList := by simp [tkV]
        rw [e1]
        exact h5
      have hok2 : ∀ y ∈ pre ++ [(X, 0)], y.2 = 0 := fun y hy => by
        rcases List.mem_append.1 hy with h | h
        · exact hok y h
        · rw [List.mem_singleton.1 h]
      subst hE
      have y0 := blk_cell hp2 (i := 0) (v := .int .i64 (X.kind : Int)) rfl
      have y2 := blk_cell hp2 (i := 2) (v := .int .i64 (X.til : Int)) rfl
      have HOK := Lib.hid hok2
      have HO := Lib.hid ho5
      have HB := Lib.hid hb2
      have HRUN := Lib.hid hrun
      clear hok hown hM0 hM1 hM2 hM3 KN hbw hbe hb3 ho3 hb1 hnew h41 hrow h5 h6 h7 hok2 ho5 hb2 hp2 hrun hz1
      go_upto_region 6 with fail
      refine wp_region_lit ?_
      refine wl_pure (v := v) (fun W => rfl) rfl ?_
      simp only [nm0, nm1, nm2, nm3]
      refine lw_val (v := .agg (tokA X)) (run_load_row rfl rfl hpb rowTok) rfl ?_
      simp only [nm0, nm1, nm2, nm3]
      refine lw_valW (v := .slice (some ⟨V3.heap.size, 0, none⟩) 1 1) (run_slice_of (ps := #[(0, .agg (tokA X))]) rfl (by simp [Act.eval]) (bs_Tok X V3)) rfl ?_
      simp only [nm0, nm1, nm2, nm3]
      refine lw_valW (v := v') (run_app_of rfl rfl rfl HRUN.out) rfl ?_
      simp only [nm0, nm1, nm2, nm3]
      refine wl_pure (v := v') (fun W => rfl) rfl ?_
      simp only [nm0, nm1, nm2, nm3]
      refine wpList_nil ?_
      by_cases hK : X.kind = 12
      · have hfin : els t 0 = pre ++ [(X, 0)] := by rw [hx, els_last (.inr (by rw [hX]; exact hK)), hX]
        have q12 : (X.kind : Int) = 12 := by omega
        have H1 := Lib.hid (show outT (els t 0) = ((pre ++ [(X, 0)]).map Prod.fst, 0, 0) by rw [hfin]; exact outT_ok _ HOK.out)
        clear hX hx hfin hpb HRUN
        go_wp2_with fail
        go_ret3
        rw [H1.out]
        exact ⟨v', rfl, by have := HO.out; rwa [← List.length_map (f := Prod.fst)] at this, HB.out⟩
      · have hmore := els_more ha (by rw [hX]) (by rw [hX]; exact hK)
        rw [hX] at hmore
        obtain ⟨hm1, hm2, hm3⟩ := hmore
        simp only at hm1 hm2 hm3
        have hfin : els t 0 = (pre ++ [(X, 0)]) ++ els t X.til := by rw [hx, hm1]; simp
        have q12 : ((X.kind : Int) == 12) = false := by simp; omega
        have q13 : ¬ (X.kind : Int) = 12 := by omega
        have HF := Lib.hid (show _ ∧ _ ∧ _ from ⟨hfin, hm2, hm3⟩)
        clear hX hx hfin hpb HRUN hm1 hm2 hm3
        go_wp2_with fail
        go_roundw
        case rel => exact ⟨pre ++ [(X, 0)], X.til, rfl, HF.out.2.2, HF.out.1, HOK.out, HO.out, HB.out⟩
        case measure =>
          have := HF.out.2
          simp [Go.RowKit.intOf]
          omega
    · have p0 : ((E : Int) == 0) = false := by simp; omega
      have p1 : ¬ (E : Int) = 0 := by omega
      have hfin : els t 0 = pre ++ [(X, E)] := by rw [hx, els_last (.inl (by rw [hX]; exact hE)), hX]
      have H1 := Lib.hid (outT_err hfin hok hE)
      have x1 := blk_cell hpb (i := 1) (v := .int .i64 (X.fr : Int)) rfl
      have HO := Lib.hid ho3
      have HB := Lib.hid hb3
      clear hok hown hM0 hM1 hM2 hM3 KN hbw hbe hb3 ho3 hX hx hfin hpb
      go_wp2_with (go_quiet (fail))
      go_ret3
      rw [H1.out]
      refine ⟨v, rfl, ?_, ?_⟩
      · have := HO.out
        rw [List.length_map]
        exact owns_below this ⟨rfl, rfl, rfl, Nat.le_refl _, fun _ _ => rfl⟩ (Nat.le_refl _)
      · exact HB.out.trans ⟨rfl, rfl, rfl, Nat.le_refl _, fun _ _ => rfl⟩
end Go.Proofs.YtndifilhfiooaaaDoor
namespace Go.Proofs.YtndifilhfiooaaaDoor
set_option maxRecDepth 20000
set_option linter.unusedSimpArgs false
set_option linter.unusedVariables false
open Go.RowKit Go.Lib Go.Shelf Go.Sort
attribute [local go_sem] Oper.semAt_some
theorem tkV_at : ∀ (xs : List Tok) (k : Nat) (X : Tok), xs[k]? = some X → ((tkV xs).drop (k * 5)).take 5 = (tokA X).toList
  | [], k, X, h => by simp at h
  | x :: xs, 0, X, h => by
    obtain rfl : x = X := by simpa using h
    unfold tkV
    rw [List.flatMap_cons, Nat.zero_mul, List.drop_zero]
    exact List.take_left' rfl
  | x :: xs, k + 1, X, h => by
    have h1 := tkV_at xs k X (by simpa using h)
    unfold tkV at h1 ⊢
    rw [List.flatMap_cons, show (k + 1) * 5 = (tokA x).toList.length + k * 5 by show (k + 1) * 5 = 5 + k * 5; omega, ← List.drop_drop, List.drop_left]
    exact h1
/-- A list's token lies in the row. -/
theorem row_tok {cur : Array Value} {xs : List Tok} {n k : Nat} {X : Tok} (h : cur.toList.take (n * 5) = tkV xs) (hn : xs.length = n) (hk : xs[k]? = some X) : (cur.toList.drop (5 * k)).take 5 = (tokA X).toList := by
  have hlt : k < xs.length := (List.getElem?_eq_some_iff.1 hk).1
  rw [← tkV_at xs k X hk, ← h, List.drop_take, List.take_take, Nat.min_eq_left (by omega), Nat.mul_comm]
theorem ix_Tok (b n c k : Nat) (hk : k < n) (W : World) : (Instr.indexAt SlT (.slice (some ⟨b, 0, none⟩) n c) (.int .i64 (k : Int))).run Tryd.prog W = .ok (.pointer (some ⟨b, 5 * k, none⟩)) W := by
  have h1 : (k : Int) < (n : Int) := by omega
  have h2 : (k : Int).toNat = k := by omega
  go_simp
theorem neq_tokG (x y : Operand) (X : Tok) (W : World) : (do eqGuard .neq TokT x y (.agg (tokA X)) (.agg (tokA X)); binOp .neq TokT (.agg (tokA X)) (.agg (tokA X)) : Sem Value).run Tryd.prog W = .ok (.bool false) W := by
  have h : (binOp .neq TokT (.agg (tokA X)) (.agg (tokA X))).run Tryd.prog W = .ok (.bool false) W := by
    unfold tokA
    go_simp
  simp only [Sem.run_bind]
  rw [show (eqGuard .neq TokT x y (.agg (tokA X)) (.agg (tokA X))).run Tryd.prog W = .ok () W from by first | rfl | kernel_rfl | go_simp]
  exact h
set_option maxRecDepth 100000 in
set_option maxHeartbeats 8000000 in
theorem same_any (xs : List Tok) (v1 v2 : Value) (D1 D2 : Nat) (w : World) (h1 : w.ownsRow D1 TokT 5 v1 xs.length (tkV xs)) (h2 : w.ownsRow D2 TokT 5 v2 xs.length (tkV xs)) (hm : xs.length ≤ 100000) :
    Calls Tryd.prog 12 #[v1, v2] w fun e w' => e = .returned (.bool true) ∧ Below w.heap.size w w' := by
  have hlen : ∀ {D : Nat} {v : Value}, w.ownsRow D TokT 5 v xs.length (tkV xs) → ∃ a c, v = .slice a xs.length c ∧ (0 < xs.length → ∃ g, a = some ⟨g, 0, none⟩ ∧ g < w.heap.size ∧ ∃ cur : Array Value, w.heap[g]? = some (.cells cur TokT (0, 0)) ∧ cur.toList.take (xs.length * 5) = tkV xs) := fun {D v} h => by
    by_cases hn : 0 < xs.length
    · obtain ⟨g, cap, hv, -, hg, cur, h3, h4⟩ := owns_slice h hn
      exact ⟨_, _, hv, fun _ => ⟨g, rfl, hg, cur, h3, h4⟩⟩
    · have h0 : xs.length = 0 := by omega
      obtain ⟨-, h⟩ := h
      rcases h with h | ⟨g, cap, cur, hv, -⟩
      · refine ⟨none, 0, ?_, fun h => absurd h hn⟩
        rw [h0]
        first | exact h.1 | exact h.2
      · exact ⟨_, _, hv, fun h => absurd h hn⟩
  obtain ⟨a1, c1, rfl, k1⟩ := hlen h1
  obtain ⟨a2, c2, rfl, k2⟩ := hlen h2
  obtain ⟨n, hn⟩ : ∃ n, xs.length = n := ⟨_, rfl⟩
  rw [hn] at k1 k2 hm ⊢
  have K1 := Lib.hid k1
  have K2 := Lib.hid k2
  clear h1 h2 hlen k1 k2
  go_enter Tryd.func12, Tryd.ntmps12
  go_wp2_with fail
  go_loopw [5] (fun p wr => ∃ k : Nat, p = .int .i64 (k : Int) ∧ k ≤ n ∧ Below w.heap.size w wr) (fun p _ => n - (Go.RowKit.intOf p).toNat)
  case atStart => exact ⟨0, rfl, by omega, Below.refl _ _⟩
  case round =>
    obtain ⟨k, rfl, hk, hb⟩ := hrel
    by_cases hlt : k < n
    · obtain ⟨g1, rfl, hg1, cur1, e1, t1⟩ := K1.out (by omega)
      obtain ⟨g2, rfl, hg2, cur2, e2, t2⟩ := K2.out (by omega)
      obtain ⟨X, hX⟩ : ∃ X, xs[k]? = some X := ⟨_, List.getElem?_eq_getElem (by omega)⟩
      have r1 := row_tok t1 hn hX
      have r2 := row_tok t2 hn hX
      have e1 := (hb.block g1 hg1).trans e1
      have e2 := (hb.block g2 hg2).trans e2
      have l1 := (Array.getElem?_eq_some_iff.1 e1).1
      have l2 := (Array.getElem?_eq_some_iff.1 e2).1
      have p1 : (k : Int) < (n : Int) := by omega
      have w1 : IntKind.i64.wrap ((k : Int) + 1) = (k : Int) + 1 := IntWalk.i64_in _ (by omega)
      clear t1 t2 K1 K2 hX
      go_upto_region 6 with fail
      refine wp_region_inw 9 mixO (by decide) (by kernel_rfl) (by kernel_rfl) ?_
      refine inw_pure (v := .slice (some ⟨g1, 0, none⟩) n c1) (fun W => rfl) rfl rfl ?_
      simp only [nm0, nm1, nm2, nm3]
      refine inw_pure (v := .int .i64 (k : Int)) (fun W => rfl) rfl rfl ?_
      simp only [nm0, nm1, nm2, nm3]
      refine inw_pure (v := .pointer (some ⟨g1, 5 * k, none⟩)) (fun W => run_index_of rfl rfl rfl (ix_Tok g1 n c1 k hlt W)) rfl rfl ?_
      simp only [nm0, nm1, nm2, nm3]
      refine inw_val (v := .agg (tokA X)) (by rfl) (by rfl) (fun d os => run_load_part (sub := tokA X) rfl rfl (((below_regrown wr d os).block g1 l1).trans e1) r1 rowTok) ?_
      simp only [nm0, nm1, nm2, nm3]
      refine inw_pure (v := .slice (some ⟨g2, 0, none⟩) n c2) (fun W => rfl) rfl rfl ?_
      simp only [nm0, nm1, nm2, nm3]
      refine inw_pure (v := .int .i64 (k : Int)) (fun W => rfl) rfl rfl ?_
      simp only [nm0, nm1, nm2, nm3]
      refine inw_pure (v := .pointer (some ⟨g2, 5 * k, none⟩)) (fun W => run_index_of rfl rfl rfl (ix_Tok g2 n c2 k hlt W)) rfl rfl ?_
      simp only [nm0, nm1, nm2, nm3]
      refine inw_val (v := .agg (tokA X)) (by rfl) (by rfl) (fun d os => run_load_part (sub := tokA X) rfl rfl (((below_regrown wr d os).block g2 l2).trans e2) r2 rowTok) ?_
      simp only [nm0, nm1, nm2, nm3]
      refine inw_pure (v := .bool false) (fun W => run_bin_of rfl rfl rfl (neq_tokG _ _ X W)) rfl rfl ?_
      simp only [nm0, nm1, nm2, nm3]
      refine inw_end fun d os => ?_
      refine wpAny_done (by kernel_rfl) ?_ _
      have hbl := below_regrown wr d os
      generalize grow (redrawn wr d) os = W2 at hbl ⊢
      have HB := Lib.hid (hb.trans (hbl.mono hb.size))
      clear hb hbl e1 e2 r1 r2
      go_wp2_with fail
      go_roundw
      case rel => exact ⟨k + 1, congrArg (Value.int .i64) (by omega), hlt, HB.out⟩
      case measure => simp [Go.RowKit.intOf]; omega
    · have p1 : ¬ (k : Int) < (n : Int) := by omega
      go_wp2_with fail
      go_ret
      exact ⟨rfl, hb⟩
end Go.Proofs.YtndifilhfiooaaaDoor
