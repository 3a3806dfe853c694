/- lex (layer 6): all words of a text. lex (layer 6): the reference's word at a place. lex (layer 6): the reference's word behind the blanks. lex (layer 6): the document's examples; LexNext. -/
import Derived.RangeFuncBox
import Derived.Lib.QuietBelow
import Derived.Sort.BigQuietIn
import Derived.Test.YtndifilhfiooaaaDoorPk09
import Derived.Test.YtndifilhfiooaaaDoorPk06
namespace Go.Proofs.YtndifilhfiooaaaDoor
set_option maxRecDepth 20000
set_option linter.unusedSimpArgs false
set_option linter.unusedVariables false
open Go.RowKit Go.Lib Go.Shelf Go.Sort
attribute [local go_sem] Oper.semAt_some
abbrev SlT : TypeId := 31
def tkV (l : List Tok) : List Value := l.flatMap fun x => (tokA x).toList
theorem tkV_app (l m : List Tok) : tkV (l ++ m) = tkV l ++ tkV m := by simp [tkV]
theorem al_Sl (W : World) : (Instr.alloc SlT true (.tuple #[])).run Tryd.prog W = .ok (.pointer (some ⟨W.heap.size, 0, none⟩)) (W.alloc (.cells #[.slice none 0 0] SlT (0, 0))) := by kernel_rfl
theorem al_Int (W : World) : (Instr.alloc 3 true (.tuple #[])).run Tryd.prog W = .ok (.pointer (some ⟨W.heap.size, 0, none⟩)) (W.alloc (.cells #[.int .i64 0] 3 (0, 0))) := by kernel_rfl
theorem al_Err (W : World) : (Instr.alloc 25 true (.tuple #[])).run Tryd.prog W = .ok (.pointer (some ⟨W.heap.size, 0, none⟩)) (W.alloc (.cells #[.int .i64 0] 25 (0, 0))) := by kernel_rfl
theorem cellSl : CellTy Tryd.prog SlT := ⟨⟨_, Tryd.underlying31, rfl⟩, by kernel_rfl⟩
theorem bs_Tok (X : Tok) (W : World) : (Instr.buildSlice SlT 1 #[(0, .agg (tokA X))]).run Tryd.prog W = .ok (.slice (some ⟨W.heap.size, 0, none⟩) 1 1) (W.alloc (.cells (tokA X) TokT (0, 0))) := by unfold tokA; go_simp
theorem info_Tok : (Tryd.prog.info? TokT).map (fun i => (i.zero, i.size, i.bytes)) = some (some (.agg #[.int .i64 0, .int .i64 0, .int .i64 0, .int .i64 0, .string ByteArray.empty]), 5, 48) := by kernel_rfl
theorem cellErr : CellTy Tryd.prog 25 := ⟨⟨_, Tryd.underlying25, rfl⟩, by kernel_rfl⟩
/-- What Tokens answers of a list. -/
def resT (L : List (Tok × Nat)) : List Tok := if (outT L).2.2 = 0 then (outT L).1 else []
theorem resT_ok {L : List (Tok × Nat)} (h : ∀ y ∈ L, y.2 = 0) : outT L = (L.map Prod.fst, 0, 0) ∧ resT L = L.map Prod.fst := by
  have e := outT_ok L h
  exact ⟨e, by unfold resT; rw [e]; rfl⟩
theorem resT_err {L pre : List (Tok × Nat)} {x : Tok × Nat} (hx : pre ++ [x] <+: L) (hp : ∀ y ∈ pre, y.2 = 0) (hE : x.2 ≠ 0) : outT L = (pre.map Prod.fst, x.1.fr, x.2) ∧ resT L = [] := by
  obtain ⟨r, rfl⟩ := pre_mem hx
  obtain ⟨X, E⟩ := x
  have e := outT_app pre ((X, E) :: r) hp
  have e2 : outT ((X, E) :: r) = ([], X.fr, E) := by
    unfold outT
    rw [if_pos hE]
  rw [e2] at e
  simp only [List.append_nil] at e
  refine ⟨e, ?_⟩
  unfold resT
  rw [e, if_neg hE]
set_option maxRecDepth 100000 in
set_option maxHeartbeats 8000000 in
theorem toks_any (t : ByteArray) (ht : t.size ≤ 100000) (w : World) (hT : Tabs w) :
    Calls Tryd.prog 9 #[.string t] w fun e w' => ∃ v, e = .returned (.tuple #[v, .int .i64 ((outT (els t 0)).2.1 : Int), .int .i64 ((outT (els t 0)).2.2 : Int)]) ∧ w'.ownsRow w.heap.size TokT 5 v (resT (els t 0)).length (tkV (resT (els t 0))) ∧ Below w.heap.size w w' := by
  have h2 := tabs_size hT
  refine (callsIn_wide (n := 3)).1 (callsIn_of_wp_marks Tryd.func9 rfl trivial (wpIn_wide.2 ?_) rfl)
  simp only [Tryd.ntmps9, List.size_toArray, List.length_cons, List.length_nil, Nat.reduceAdd, Nat.reduceSub, Array.replicate_succ, Array.replicate_zero, List.push_toArray, List.append_toArray, List.nil_append, List.cons_append]
  have hM0 := Mem.start w
  go_upto_region 0 with fail
  refine wp_region_lit ?_
  refine wl_new hM0 (f := fun b => .pointer (some ⟨b, 0, none⟩)) (fun W => run_alloc_of rfl (al_Sl W)) rfl fun r2 W1 hM1 => ?_
  simp only [nm0, nm1, nm2, nm3]
  refine wl_new hM1 (f := fun b => .pointer (some ⟨b, 0, none⟩)) (fun W => run_alloc_of rfl (al_Int W)) rfl fun r3 W2 hM2 => ?_
  simp only [nm0, nm1, nm2, nm3]
  refine wl_new hM2 (f := fun b => .pointer (some ⟨b, 0, none⟩)) (fun W => run_alloc_of rfl (al_Err W)) rfl fun r4 W3 hM3 => ?_
  simp only [nm0, nm1, nm2, nm3]
  refine wpList_nil ?_
  go_upto_region 1 with fail
  refine wp_region_lit ?_
  refine wl_new hM3 (f := fun b => .pointer (some ⟨b, 0, none⟩)) (fun W => run_alloc_of rfl (al_Sl W)) rfl fun c W4 hM4 => ?_
  simp only [nm0, nm1, nm2, nm3]
  refine wpList_nil ?_
  go_upto_region 2 with fail
  refine wp_region_lit ?_
  refine wl_pure (v := .string t) (fun W => rfl) rfl ?_
  simp only [nm0, nm1, nm2, nm3]
  refine wl_callE (args := #[.string t]) (fun W => run_call_fn W (enters_of Tryd.func19 (by kernel_rfl) rfl) rfl (by simp [Act.eval])) (tokens_any t W4) rfl ?_
  rintro e W5 ⟨rfl, hW5⟩
  refine ⟨_, rfl, ?_⟩
  have hM5 := hM4.new1 (.cells #[.string t] 9)
  rw [← hW5] at hM5
  obtain ⟨Bs, hBs⟩ : ∃ Bs, W4.heap.size = Bs := ⟨_, rfl⟩
  rw [hBs] at hM5 ⊢
  clear hW5 hBs hM0 hM1 hM2 hM3 hM4
  simp only [nm0, nm1, nm2, nm3]
  refine wpList_nil ?_
  go_wp2_with fail
  refine (wpIn_wide (n := 3)).1 ?_
  obtain ⟨D, hD⟩ : ∃ D, W5.heap.size = D := ⟨_, rfl⟩
  have lB := hM5.low _ (List.mem_of_getElem? (i := 0) rfl)
  have lc := hM5.low _ (List.mem_of_getElem? (i := 1) rfl)
  have l4 := hM5.low _ (List.mem_of_getElem? (i := 2) rfl)
  have l3 := hM5.low _ (List.mem_of_getElem? (i := 3) rfl)
  have l2 := hM5.low _ (List.mem_of_getElem? (i := 4) rfl)
  have uB := hM5.lt (List.mem_of_getElem? (i := 0) rfl)
  have uc := hM5.lt (List.mem_of_getElem? (i := 1) rfl)
  have u4 := hM5.lt (List.mem_of_getElem? (i := 2) rfl)
  have u3 := hM5.lt (List.mem_of_getElem? (i := 3) rfl)
  have u2 := hM5.lt (List.mem_of_getElem? (i := 4) rfl)
  have nBc : Bs ≠ c := by have := (List.pairwise_cons.1 hM5.nod).1 _ (List.mem_of_getElem? (i := 0) rfl); exact this
  simp only at lB lc l4 l3 l2 uB uc u4 u3 u2
  rw [hD] at uB uc u4 u3 u2
  have hT5 := tabs_low h2 hT hM5.below
  have hwD : w.heap.size ≤ D := by rw [← hD]; exact hM5.below.size
  have hrow : ∀ W, Below W5.heap.size W5 W → rowOf c W = none := fun W hb => by
    rw [rowOf_of ((hb.block c (by omega)).trans (hM5.get 1 rfl))]
    rfl
  obtain ⟨MM, hMM⟩ : ∃ MM : Value → Value → Value → List Blk, MM = fun v p4 p3 => [(Bs, .cells #[.string t] 9 (0, 0)), (c, .cells #[v] SlT (0, 0)), (r4, .cells #[p4] 25 (0, 0)), (r3, .cells #[p3] 3 (0, 0)), (r2, .cells #[.slice none 0 0] SlT (0, 0))] := ⟨_, rfl⟩
  have hMc : ∀ v p4 p3, ∀ p ∈ MM v p4 p3, p.2.isCells = true := fun v p4 p3 p hp => by
    rw [hMM] at hp
    simp only [List.mem_cons, List.not_mem_nil, or_false] at hp
    rcases hp with rfl | rfl | rfl | rfl | rfl <;> rfl
  have hMl : ∀ v p4 p3, ∀ p ∈ MM v p4 p3, p.1 < D := fun v p4 p3 p hp => by
    rw [hMM] at hp
    simp only [List.mem_cons, List.not_mem_nil, or_false] at hp
    rcases hp with rfl | rfl | rfl | rfl | rfl <;> assumption
  have hM5' : Mem w (MM (.slice none 0 0) (.int .i64 0) (.int .i64 0)) W5 := by rw [hMM]; exact hM5
  refine wpIn_range_x rfl (by omega) (gf := 28) (lb := #[.pointer (some ⟨Bs, 0, none⟩)]) rfl trivial (enters_of Tryd.func28 (by kernel_rfl) rfl)
    (tok1_x (3 - 1) (by omega) t ht Bs (InvC c D) (FrC c D) (frC_up c D) W5 (hM5.get 0 rfl) hT5 (fun W hb _ => ?hfr)) kpF_t (by rw [hD]; exact kpF_loop (by omega)) (Below.refl _ _) (fun _ => rfl)
    (fun pre W => ((∀ y ∈ pre, y.2 = 0) ∧ D ≤ W.heap.size) ∧ ∃ v, Mem w (MM v (.int .i64 0) (.int .i64 0)) W ∧ W.ownsRow D TokT 5 v pre.length (tkV (pre.map Prod.fst)))
    (fun cd xs W => cd = .ret ∧ ∃ pre x, xs = pre ++ [x] ∧ x.2 ≠ 0 ∧ (∀ y ∈ pre, y.2 = 0) ∧ ∃ v, Mem w (MM v (.int .i64 (x.2 : Int)) (.int .i64 (x.1.fr : Int))) W)
    ?hI ?hIx ?hInv ?h0
    (fun x a' W => ∃ p, a' = { tmps := #[.string t, undef, .pointer (some ⟨r2, 0, none⟩), .pointer (some ⟨r3, 0, none⟩), .pointer (some ⟨r4, 0, none⟩), .pointer (some ⟨c, 0, none⟩), .pointer (some ⟨p, 0, none⟩), .int .i64 (x.2 : Int), .string t, .func (.func 28) #[] #[.pointer (some ⟨Bs, 0, none⟩)], .agg (tokA x.1), .int .i64 (x.2 : Int), undef, undef, undef, undef, undef, undef, undef, undef, undef, undef], defers := [] } ∧ W.heap[p]? = some (tokB x.1) ∧ D ≤ p) ?hAx ?assign ?body ?done ?stop
  case hfr =>
    have hr := hrow W hb
    unfold FrC
    rw [hr]
    exact ⟨⟨nBc, by omega, by simp⟩, ⟨by unfold g3; omega, by unfold g3; omega, by simp⟩, ⟨by unfold g4; omega, by unfold g4; omega, by simp⟩⟩
  case hI =>
    rw [hD]
    rintro pre A B row ⟨h1, v, h3, h4⟩ hg hr
    exact ⟨⟨h1.1, Nat.le_trans h1.2 hg.size⟩, v, mem_own h3 (hMc _ _ _) hwD hg hr, owns_own h4 hg fun r e => (hr r e).2⟩
  case hIx =>
    rw [hD]
    rintro cd xs A B row ⟨h0, pre, x, h1, h3, h4, v, h5⟩ hg hr
    exact ⟨h0, pre, x, h1, h3, h4, v, mem_own h5 (hMc _ _ _) hwD hg hr⟩
  case hInv =>
    rw [hD]
    rintro pre W ⟨-, v, h3, h4⟩ hz
    rw [hMM] at h3
    refine ⟨by omega, hz, fun k hk => ?_⟩
    rw [rowOf_of (h3.get 1 rfl)] at hk
    exact (owns_lt h4 hk).2.1
  case h0 => exact ⟨⟨fun y hy => (by cases hy), by omega⟩, _, hM5', World.ownsRow_nil _ _ _ _⟩
  case hAx =>
    rw [hD]
    rintro x a' u A B row ⟨p, h1, h3, h4⟩ hg hr
    exact ⟨p, h1, cells_own h3 hg fun r e => (hr r e).2, h4⟩
  case assign =>
    intro l pre x W K hI hx hgo
    refine wpIn_fr (t' := #[.string t, undef, .pointer (some ⟨r2, 0, none⟩), .pointer (some ⟨r3, 0, none⟩), .pointer (some ⟨r4, 0, none⟩), .pointer (some ⟨c, 0, none⟩), undef, undef, .string t, .func (.func 28) #[] #[.pointer (some ⟨Bs, 0, none⟩)], .agg (tokA x.1), .int .i64 (x.2 : Int), undef, undef, undef, undef, undef, undef, undef, undef, undef, undef]) (by simp) ?_
    refine wpIn_seq_k fun K2 hK2 => ?_
    refine wpIn_region_lit ?_
    refine wi_val (v := .pointer (some ⟨W.heap.size, 0, none⟩)) (fun _ => trivial) (by simp) (run_alloc_of rfl (al_Tok W)) rfl ?_
    have hM2 := (Mem.start W).new1 (.cells #[.int .i64 0, .int .i64 0, .int .i64 0, .int .i64 0, .string ByteArray.empty] TokT (0, 0))
    refine wi_skip (fun _ => trivial) (by simp) (run_store_whole (cs := tokA x.1) (hM2.get 0 rfl) rfl rfl rfl rowTok rfl (by simp [tokA, Value.oneCell'])) rfl rfl ?_
    have hM3 := hM2.set (cs := tokA x.1) 0 rfl
    refine wpListIn_nil (hK2 _ _ ?_)
    refine wpIn_region_lit ?_
    refine wi_val (v := .int .i64 (x.2 : Int)) (fun _ => trivial) (by simp) rfl rfl ?_
    refine wpListIn_nil ?_
    obtain ⟨h1, v, h3, h4⟩ := hI
    have hb := hM3.below
    have hcW : c < W.heap.size := by rw [hMM] at h3; exact h3.lt (List.mem_of_getElem? (i := 1) rfl)
    exact hgo _ _ (below_keeps hb _) (kpF_below hcW hb) ⟨⟨h1.1, Nat.le_trans h1.2 hb.size⟩, v, h3.calls hb, owns_below h4 hb (Nat.le_refl _)⟩ ⟨W.heap.size, rfl, hM3.get 0 rfl, h1.2⟩
  case body =>
    rw [hD]
    rintro l pre x a' W hl1 hloop ⟨⟨h1, -⟩, v, h3, h4⟩ ⟨p, rfl, hp, hpD⟩ hx
    have hg1 : W.heap[c]? = some (.cells #[v] SlT (0, 0)) := by rw [hMM] at h3; exact h3.get 1 rfl
    have hcW : c < W.heap.size := (Array.getElem?_eq_some_iff.1 hg1).1
    have hDW : D < W.heap.size := by
      obtain ⟨r, hr⟩ := hloop
      have := (Array.getElem?_eq_some_iff.1 hr).1
      omega
    have hpW : p < W.heap.size := (Array.getElem?_eq_some_iff.1 hp).1
    refine wpIn_block ?_
    refine wpIn_seq_k fun K2 hK2 => ?_
    refine wpIn_seq_k fun K3 hK3 => ?_
    refine wpIn_region_lit ?_
    refine wi_val (v := .int .i64 (x.2 : Int)) (fun _ => trivial) (by simp) rfl rfl ?_
    obtain ⟨z, ez⟩ : ∃ z : Bool, z = !((x.2 : Int) == 0) := ⟨_, rfl⟩
    refine wi_val (v := .bool z) (fun _ => trivial) (by simp) (by rw [ez]; rfl) rfl ?_
    refine wpListIn_nil (hK3 _ _ ?_)
    by_cases hE : x.2 = 0
    · have hz : z = false := by rw [ez, hE]; rfl
      subst hz
      refine wpIn_cond_false rfl ?_
      refine wpIn_skip ?_
      refine hK2 _ _ ?_
      refine wpIn_region_lit ?_
      refine wi_val (v := v) (fun _ => trivial) (by simp) (run_load_cell rfl rfl hg1 rfl cellSl) rfl ?_
      refine wi_val (v := .agg (tokA x.1)) (fun _ => trivial) (by simp) (run_load_row rfl rfl hp rowTok) rfl ?_
      refine wi_val (v := .slice (some ⟨W.heap.size, 0, none⟩) 1 1) (fun _ => trivial) (by simp) (run_slice_of (ps := #[(0, .agg (tokA x.1))]) rfl (by simp [Act.eval, Act.put]) (bs_Tok x.1 W)) rfl ?_
      have hb1 : Below W.heap.size W (W.alloc (.cells (tokA x.1) TokT (0, 0))) := (Below.refl _ W).alloc (Nat.le_refl _) _
      have hnew : (W.alloc (.cells (tokA x.1) TokT (0, 0))).heap[W.heap.size]? = some (.cells (tokA x.1) TokT (0, 0)) := World.alloc_heap_new W _
      obtain ⟨W1, hW1⟩ : ∃ W1, W.alloc (.cells (tokA x.1) TokT (0, 0)) = W1 := ⟨_, rfl⟩
      have hz1 : W1.heap.size = W.heap.size + 1 := by rw [← hW1]; simp
      rw [hW1] at hb1 hnew ⊢
      have h41 := owns_below h4 hb1 (Nat.le_refl _)
      have h31 := h3.calls hb1
      have hlen : pre.length ≤ t.size := by
        have hl := els_len t _ 0 rfl (by omega)
        have := hx.length_le
        simp only [List.length_append, List.length_cons, List.length_nil] at this
        omega
      obtain ⟨i0, hi, hz0, hz2, hz3⟩ := info_partsT info_Tok
      have hrun := run_append_own_at (P := Tryd.prog) W1 D SlT SlT TokT i0 _ 5 48 Tryd.underlying31 hi hz0 hz2 hz3 rfl (by decide) v pre.length _ h41 ⟨W.heap.size, 0, none⟩ 1 1 (tokA x.1).toList rfl
        (fun j u hu => news_at hnew j u hu) (by simp [tokA, Value.oneCell']) (by unfold maxLen; omega) (by omega) (by rw [hz1]; omega)
      obtain ⟨v', W2, hrun, h5, h6, -, h7⟩ := hrun
      refine wi_val (v := v') (fun _ => trivial) (by simp) (run_app_of rfl rfl rfl hrun) rfl ?_
      have hr2 := fun g hv => owns_lt (g := g) h4 hv
      have h32 : Mem w (MM v (.int .i64 0) (.int .i64 0)) W2 := mem_grown h31 h6 fun g e => ⟨by have := (hr2 g e).1; omega, fun p hp e2 => by have := hMl _ _ _ p hp; have := (hr2 g e).1; omega⟩
      have hg2 : W2.heap[c]? = some (.cells #[v] SlT (0, 0)) := by rw [hMM] at h32; exact h32.get 1 rfl
      refine wi_skip (fun _ => trivial) (by simp) (run_store_one (v := v') hg2 rfl rfl rfl cellSl (owns_one h5)) rfl rfl ?_
      have h33 : Mem w (MM v' (.int .i64 0) (.int .i64 0)) (W2.setRow c #[v']) := by
        rw [hMM] at h32 ⊢
        exact h32.set (cs := #[v']) 1 rfl
      have hro : rowOf c W = v.ownBlock := rowOf_of hg1
      have hro3 : rowOf c (W2.setRow c #[v']) = v'.ownBlock := rowOf_of (by rw [hMM] at h33; exact h33.get 1 rfl)
      have hsz3 : (W2.setRow c #[v']).heap.size = W2.heap.size := by simp
      have hsz2 := h6.size
      refine wpListIn_nil ⟨⟨by omega, fun k o hk hg hcl => ?_⟩, ⟨by omega, fun k ob hk hf => ?_⟩, ⟨fun y hy => ?_, by omega⟩, v', h33, ?_⟩
      · have hkW := (Array.getElem?_eq_some_iff.1 hg).1
        rw [setRow_other _ _ _ _ (by omega)]
        refine (h6.block k (by omega) (fun e => ?_)).trans ((hb1.block k hkW).trans hg)
        obtain ⟨-, -, cs, hcs⟩ := hr2 k e.symm
        rw [hg] at hcs
        cases hcs
        cases hcl
      · have hkW := (Array.getElem?_eq_some_iff.1 hk).1
        obtain ⟨n1, n2, n3⟩ := hf
        rw [hro] at n3
        refine ⟨?_, n1, n2, ?_⟩
        · rw [setRow_other _ _ _ _ n1]
          exact (h6.block k (by omega) (fun e => n3 e.symm)).trans ((hb1.block k hkW).trans hk)
        · rw [hro3]
          rcases h7 with h7 | h7
          · rw [h7]; exact n3
          · rw [h7]
            intro e
            have := Option.some.inj e
            omega
      · rcases List.mem_append.1 hy with h | h
        · exact h1 y h
        · rw [List.mem_singleton.1 h]; exact hE
      · have h8 := owns_setRow (cs := #[v']) h5 uc
        rw [List.length_append, List.map_append, tkV_app]
        have e1 : tkV (List.map Prod.fst [x]) = (tokA x.1).toList := by simp [tkV]
        rw [e1]
        exact h8
    · have hz : z = true := by rw [ez]; simp; omega
      subst hz
      refine wpIn_cond_true rfl ?_
      refine wpIn_seq_k fun K4 hK4 => ?_
      have hMM' := hMM
      rw [hMM] at h3
      have y1 := blk_cell hp (i := 1) (v := .int .i64 (x.1.fr : Int)) rfl
      have k2 := blk_cell (h3.get 4 rfl) (i := 0) (v := .slice none 0 0) rfl
      have k3 := blk_cell (h3.get 3 rfl) (i := 0) (v := .int .i64 0) rfl
      have k4 := blk_cell (h3.get 2 rfl) (i := 0) (v := .int .i64 0) rfl
      have z2 := Lib.frozen_of_heap (h3.get 4 rfl) 0
      have z3 := Lib.frozen_of_heap (h3.get 3 rfl) 0
      have z4 := Lib.frozen_of_heap (h3.get 2 rfl) 0
      have n1 : p ≠ r2 := by omega
      have n2 : p ≠ r3 := by omega
      have n3 : p ≠ r4 := by omega
      have n1' : r2 ≠ p := by omega
      have n2' : r3 ≠ p := by omega
      have n3' : r4 ≠ p := by omega
      have m1 : r4 ≠ r3 := (List.pairwise_iff_getElem.1 h3.nod) 2 3 (by simp) (by simp) (by omega)
      have m2 : r4 ≠ r2 := (List.pairwise_iff_getElem.1 h3.nod) 2 4 (by simp) (by simp) (by omega)
      have m3 : r3 ≠ r2 := (List.pairwise_iff_getElem.1 h3.nod) 3 4 (by simp) (by simp) (by omega)
      have m1' := m1.symm
      have m2' := m2.symm
      have m3' := m3.symm
      have fin : KeepsFrom D W (((W.setCell ⟨r2, 0, none⟩ (.slice none 0 0)).setCell ⟨r3, 0, none⟩ (.int .i64 (x.1.fr : Int))).setCell ⟨r4, 0, none⟩ (.int .i64 (x.2 : Int))).drew ∧ Mem w (MM v (.int .i64 (x.2 : Int)) (.int .i64 (x.1.fr : Int))) (((W.setCell ⟨r2, 0, none⟩ (.slice none 0 0)).setCell ⟨r3, 0, none⟩ (.int .i64 (x.1.fr : Int))).setCell ⟨r4, 0, none⟩ (.int .i64 (x.2 : Int))).drew := by
        have h3e := h3.set (cs := #[.slice none 0 0]) 4 rfl
        have h3f := h3e.set (cs := #[.int .i64 (x.1.fr : Int)]) 3 rfl
        have h3g := h3f.set (cs := #[.int .i64 (x.2 : Int)]) 2 rfl
        rw [setCell_row (h3.get 4 rfl), setCell_row (h3e.get 3 rfl), setCell_row (h3f.get 2 rfl), hMM]
        have hkk := (((KeepsFrom.refl D W).trans (setRow_keeps _ r2 D #[.slice none 0 0] u2)).trans (setRow_keeps _ r3 D #[.int .i64 (x.1.fr : Int)] u3)).trans (setRow_keeps _ r4 D #[.int .i64 (x.2 : Int)] u4)
        exact ⟨⟨hkk.size, hkk.same⟩, h3g.drew⟩
      have FIN := Lib.hid (show _ ∧ _ ∧ _ from ⟨fin, hE, h1⟩)
      clear h3 hMM hMM' hM5 hM5' hMc hMl ez hK3 hK2 hx hp hg1 fin h1 hE hrow hT5 hloop
      gi_region
      all_goals exact hK4 _ _ (wpIn_ret ⟨FIN.out.1.1, rfl, pre, x, rfl, FIN.out.2.1, FIN.out.2.2, v, FIN.out.1.2⟩)
  case done =>
    rintro D' W hD' ⟨⟨h1, -⟩, v, h3, h4⟩ hK
    rw [hD] at hD'
    rw [hMM] at h3
    go_upto_region 8 with fail
    refine wp_region_lit ?_
    refine lw_val (v := v) (run_load_cell rfl rfl (h3.get 1 rfl) rfl cellSl) rfl ?_
    simp only [nm0, nm1, nm2, nm3]
    refine lw_skipW (run_store_one (v := v) (h3.get 4 rfl) rfl rfl rfl cellSl (owns_one h4)) rfl rfl ?_
    have h3e := h3.set (cs := #[v]) 4 rfl
    refine lw_skipW (run_store_one (v := .int .i64 0) (h3e.get 3 rfl) rfl rfl rfl cellInt rfl) rfl rfl ?_
    have h3f := h3e.set (cs := #[.int .i64 0]) 3 rfl
    refine lw_skipW (run_store_one (v := .int .i64 0) (h3f.get 2 rfl) rfl rfl rfl cellErr rfl) rfl rfl ?_
    have h3g := h3f.set (cs := #[.int .i64 0]) 2 rfl
    simp only [nm2, nm3] at h3g
    refine wpList_nil ?_
    have hK3 : (((W.setRow r2 #[v]).setRow r3 #[.int .i64 0]).setRow r4 #[.int .i64 0]).heap[D']? = some (.deferred (some [])) := by
      rw [setRow_other _ _ _ _ (by omega), setRow_other _ _ _ _ (by omega), setRow_other _ _ _ _ (by omega)]
      exact hK
    have h4g := owns_setRow (cs := #[.int .i64 0]) (owns_setRow (cs := #[.int .i64 0]) (owns_setRow (cs := #[v]) h4 u2) u3) u4
    obtain ⟨W9, hW9⟩ : ∃ W9, ((W.setRow r2 #[v]).setRow r3 #[.int .i64 0]).setRow r4 #[.int .i64 0] = W9 := ⟨_, rfl⟩
    rw [hW9] at hK3 h3g h4g ⊢
    go_wp2_with fail
    refine ⟨by simp, .inl ⟨_, _, rfl, run_takeDeferred hK3, ?_⟩⟩
    have hpo := grownBy_putObj' W9 D' (.deferred none)
    have hpr : ∀ r, some D' = some r → D ≤ r ∧ ∃ o : Obj, W9.heap[r]? = some o ∧ o.isCells = false := fun r e => by cases e; exact ⟨hD', _, hK3, rfl⟩
    have hM9 := mem_own h3g (D := D) (fun p hp => by
      simp only [List.mem_cons, List.not_mem_nil, or_false] at hp
      rcases hp with rfl | rfl | rfl | rfl | rfl <;> rfl) hwD hpo hpr
    have h49 := owns_own h4g hpo fun r e => (hpr r e).2
    obtain ⟨e1, e2⟩ := resT_ok h1
    refine ⟨_, results_ccc rfl rfl rfl rfl (load_cell (hM9.get 4 rfl) rfl cellSl) (load_cell (hM9.get 3 rfl) rfl cellInt) (load_cell (hM9.get 2 rfl) rfl cellErr), v, by rw [e1]; rfl, ?_, hM9.below⟩
    rw [e2, List.length_map]
    exact owns_below h49 (Below.refl _ _) hwD
  case stop =>
    rintro D' cd pre x W hD' hx ⟨rfl, pre', x', he, hE, hp, v, hM⟩ hK
    rw [hD] at hD'
    obtain ⟨rfl, hxx⟩ := List.append_inj' he rfl
    obtain rfl : x = x' := by simpa using hxx
    refine wpIn_wide.2 ?_
    go_wp2_with fail
    refine ⟨by simp, .inl ⟨_, _, rfl, run_takeDeferred hK, ?_⟩⟩
    have hpo := grownBy_putObj' W D' (.deferred none)
    have hpr : ∀ r, some D' = some r → D ≤ r ∧ ∃ o : Obj, W.heap[r]? = some o ∧ o.isCells = false := fun r e => by cases e; exact ⟨hD', _, hK, rfl⟩
    have hM9 := mem_own hM (D := D) (hMc _ _ _) hwD hpo hpr
    rw [hMM] at hM9
    obtain ⟨e1, e2⟩ := resT_err hx hp hE
    refine ⟨_, results_ccc rfl rfl rfl rfl (load_cell (hM9.get 4 rfl) rfl cellSl) (load_cell (hM9.get 3 rfl) rfl cellInt) (load_cell (hM9.get 2 rfl) rfl cellErr), .slice none 0 0, by rw [e1]; rfl, ?_, hM9.below⟩
    rw [e2]
    exact World.ownsRow_nil _ _ _ _
end Go.Proofs.YtndifilhfiooaaaDoor
namespace Go.Proofs.YtndifilhfiooaaaDoor
set_option maxRecDepth 20000
set_option linter.unusedSimpArgs false
set_option linter.unusedVariables false
open Go.RowKit Go.Lib Go.Shelf Go.Sort
attribute [local go_sem] Oper.semAt_some
set_option maxRecDepth 100000 in
set_option maxHeartbeats 8000000 in
theorem rblanks_any (t : ByteArray) (a : Nat) (w : World) (ht : t.size ≤ 100000) (ha : a ≤ t.size) :
    Calls Tryd.prog 15 #[.string t, .int .i64 (a : Int)] w fun e w' => e = .returned (.int .i64 (blk t a : Int)) ∧ w = w' := by
  obtain ⟨f, hf⟩ : ∃ f, blk t a = f := ⟨_, rfl⟩
  rw [hf]
  have HF := Lib.hid hf
  clear hf
  go_enter Tryd.func15, Tryd.ntmps15
  go_wp2_with fail
  go_loop [1] (fun p => ∃ k : Nat, p = .int .i64 (k : Int) ∧ k ≤ t.size ∧ blk t k = f) (fun p => t.size - (Go.RowKit.intOf p).toNat)
  case atStart => exact ⟨a, rfl, ha, HF.out⟩
  case round =>
    obtain ⟨k, rfl, hk, hbk⟩ := hrel
    by_cases hlt : k < t.size
    · have p1 : (k : Int) < (t.size : Int) := by omega
      have natk : (k : Int).toNat = k := by omega
      obtain ⟨c, hc⟩ : ∃ c, gb t k = c := ⟨_, rfl⟩
      have hcl : c < 256 := by rw [← hc]; exact gb_lt t k
      have gk := (gb_at t k hlt).trans hc
      have w1 : IntKind.i64.wrap ((k : Int) + 1) = (k : Int) + 1 := IntWalk.i64_in _ (by omega)
      cases hB : isB c with
      | true =>
        have HR := Lib.hid (show blk t (k + 1) = f by rw [← hbk]; exact (blk_more hlt (by rw [hc]; exact hB)).symm)
        unfold isB at hB
        simp only [Bool.or_eq_true, beq_iff_eq] at hB
        clear hbk hc
        have fin : ∃ k2 : Nat, Value.int .i64 ((k : Int) + 1) = .int .i64 (k2 : Int) ∧ k2 ≤ t.size ∧ blk t k2 = f := ⟨k + 1, congrArg (Value.int .i64) (by omega), hlt, HR.out⟩
        have hms : t.size - (Go.RowKit.intOf (Value.int .i64 ((k : Int) + 1))).toNat < t.size - (Go.RowKit.intOf (Value.int .i64 (k : Int))).toNat := by simp [Go.RowKit.intOf]; omega
        have FIN := Lib.hid (And.intro fin hms)
        clear fin hms
        by_cases c9 : c = 9
        · subst c9
          go_wp2_with fail
          go_round
          case rel => exact FIN.out.1
          case measure => exact FIN.out.2
        have b9 : ((c : Int) == 9) = false := by simp; omega
        by_cases c10 : c = 10
        · subst c10
          go_wp2_with fail
          go_round
          case rel => exact FIN.out.1
          case measure => exact FIN.out.2
        have b10 : ((c : Int) == 10) = false := by simp; omega
        by_cases c13 : c = 13
        · subst c13
          go_wp2_with fail
          go_round
          case rel => exact FIN.out.1
          case measure => exact FIN.out.2
        have b13 : ((c : Int) == 13) = false := by simp; omega
        have c32 : c = 32 := by omega
        subst c32
        go_wp2_with fail
        go_round
        case rel => exact FIN.out.1
        case measure => exact FIN.out.2
      | false =>
        have hkf : k = f := by rw [← hbk]; exact (blk_stop (by rw [hc, hB]; simp)).symm
        subst hkf
        unfold isB at hB
        simp only [Bool.or_eq_false_iff, beq_eq_false_iff_ne] at hB
        obtain ⟨⟨⟨c9, c10⟩, c13⟩, c32⟩ := hB
        have b9 : ((c : Int) == 9) = false := by simp; omega
        have b10 : ((c : Int) == 10) = false := by simp; omega
        have b13 : ((c : Int) == 13) = false := by simp; omega
        have b32 : ((c : Int) == 32) = false := by simp; omega
        clear hbk c9 c10 c13 c32 hc HF
        go_wp2_with fail
        go_ret
        exact ⟨rfl, rfl⟩
    · have p1 : ¬ (k : Int) < (t.size : Int) := by omega
      have hkf : k = f := by rw [← hbk]; exact (blk_stop (fun h => hlt h.1)).symm
      subst hkf
      clear hbk HF
      go_wp2_with fail
      go_ret
      exact ⟨rfl, rfl⟩
theorem take_lets (t : ByteArray) (a : Nat) (l : List UInt8) (h : a + l.length ≤ t.size) : ((t.extract a (a + l.length)).data.toList == l) = lets t a l := by
  rw [ext_seg t (by omega)]
  unfold lets seg
  rw [Nat.add_sub_cancel_left]
  rw [Bool.eq_iff_iff]
  simp
theorem lets_short {t : ByteArray} {a : Nat} {l : List UInt8} (hl : l ≠ []) (h : t.size < a + l.length) : lets t a l = false := by
  cases hb : lets t a l with
  | false => rfl
  | true =>
    rcases lets_at hb with h2 | h2
    · omega
    · exact absurd h2 hl
set_option maxRecDepth 100000 in
set_option maxHeartbeats 8000000 in
theorem rword_any (t : ByteArray) (a : Nat) (l : List UInt8) (w : World) (ht : t.size ≤ 100000) (ha : a ≤ t.size) (hl : l.length ≤ 5) (hl0 : l ≠ []) :
    Calls Tryd.prog 16 #[.string t, .int .i64 (a : Int), .string ⟨l.toArray⟩] w fun e w' => e = .returned (.bool (lets t a l)) ∧ w = w' := by
  obtain ⟨LS, hLS⟩ : ∃ LS : ByteArray, (⟨l.toArray⟩ : ByteArray) = LS := ⟨_, rfl⟩
  have hsz : LS.size = l.length := by rw [← hLS]; simp [ByteArray.size]
  have hll : LS.data.toList = l := by rw [← hLS]
  rw [hLS]
  obtain ⟨d, hd⟩ : ∃ d : Nat, t.size = a + d := ⟨t.size - a, by omega⟩
  have w1 : IntKind.i64.wrap ((t.size : Int) - (a : Int)) = (d : Int) := by rw [IntWalk.i64_in _ (by omega)]; omega
  by_cases h : l.length ≤ d
  · have p1 : (LS.size : Int) ≤ (d : Int) := by omega
    have p2 : (a : Int) + (LS.size : Int) = ((a + l.length : Nat) : Int) := by omega
    have w2 : IntKind.i64.wrap ((a : Int) + (LS.size : Int)) = ((a + l.length : Nat) : Int) := by rw [IntWalk.i64_in _ (by omega)]; omega
    have ht2 := take_lets t a l (by omega)
    obtain ⟨S, hS⟩ : ∃ S, t.extract a (a + l.length) = S := ⟨_, rfl⟩
    obtain ⟨B, hB⟩ : ∃ B, lets t a l = B := ⟨_, rfl⟩
    rw [hS, hB] at ht2
    rw [← hll, ← Lib.toList_data, ← Lib.toList_data] at ht2
    rw [hB]
    obtain ⟨b, hb⟩ : ∃ b, a + l.length = b := ⟨_, rfl⟩
    rw [hb] at w2 hS p2
    have hab : a ≤ b := by omega
    have hbt : b ≤ t.size := by omega
    have SL := fun W => slc_str (P := Tryd.prog) (ty := 9) (S := t) (i := a) (j := b) (k := .i64) (k' := .i64) W Tryd.underlying9 hab hbt
    rw [hS] at SL
    clear hS hB hb hll hLS hsz h hd
    go_enter Tryd.func16, Tryd.ntmps16
    go_wp2_with fail
    go_ret
    exact ⟨by rw [← ht2]; rfl, rfl⟩
  · have p1 : ¬ (LS.size : Int) ≤ (d : Int) := by omega
    rw [lets_short hl0 (by omega)]
    go_enter Tryd.func16, Tryd.ntmps16
    go_wp2_with fail
    go_ret
    exact ⟨rfl, rfl⟩
def wdL : List (List UInt8) := [[123], [125], [91], [93], [44], [58], trueL, falseL, nullL]
def wdN (k : Nat) : List UInt8 := wdL.getD k []
theorem lets1 {t : ByteArray} {a : Nat} (c : UInt8) (h : a < t.size) : lets t a [c] = (gb t a == c.toNat) := by
  have hl : a < t.data.toList.length := by rw [tlen]; exact h
  unfold lets gb
  rw [Bool.eq_iff_iff]
  simp only [decide_eq_true_eq, List.length_cons, List.length_nil, Nat.zero_add, beq_iff_eq]
  rw [List.getD_eq_getElem?_getD, List.getElem?_eq_getElem hl, List.drop_eq_getElem_cons hl]
  simp [UInt8.toNat_inj]
theorem first_ok {t : ByteArray} {a k : Nat} (ha : a < t.size) (hk : k < 9) (h : lets t a (wdN k) = true) : wordT t a = (⟨k + 1, a, a + (wdN k).length, 0, []⟩, 0) := by
  have sg : ∀ (c : UInt8) (n : Nat), lets t a [c] = true → signK c.toNat = n → n ≠ 0 → wordT t a = (⟨n, a, a + 1, 0, []⟩, 0) := fun c n h1 h2 h3 => by
    rw [lets1 c ha] at h1
    have e := eq_of_beq h1
    rw [word_sign ha (by rw [e, h2]; exact h3), e, h2]
  match k, hk with
  | 0, _ => exact sg 123 1 h rfl (by decide)
  | 1, _ => exact sg 125 2 h rfl (by decide)
  | 2, _ => exact sg 91 3 h rfl (by decide)
  | 3, _ => exact sg 93 4 h rfl (by decide)
  | 4, _ => exact sg 44 5 h rfl (by decide)
  | 5, _ => exact sg 58 6 h rfl (by decide)
  | 6, _ =>
    have g : gb t a = 116 := lets_first h
    have e : wordK t a = (7, 4) := by rw [wordK_t g]; exact if_pos h
    rw [word_lets ha (by rw [g]; rfl) (by rw [e]; decide), e]
    rfl
  | 7, _ =>
    have g : gb t a = 102 := lets_first h
    have e : wordK t a = (8, 5) := by rw [wordK_f g]; exact if_pos h
    rw [word_lets ha (by rw [g]; rfl) (by rw [e]; decide), e]
    rfl
  | 8, _ =>
    have g : gb t a = 110 := lets_first h
    have e : wordK t a = (9, 4) := by rw [wordK_n g]; exact if_pos h
    rw [word_lets ha (by rw [g]; rfl) (by rw [e]; decide), e]
    rfl
theorem none_ok {t : ByteArray} {a : Nat} (ha : a < t.size) (h : ∀ j, j < 9 → lets t a (wdN j) = false) : signK (gb t a) = 0 ∧ (wordK t a).1 = 0 := by
  have sg : ∀ (c : UInt8), lets t a [c] = false → gb t a ≠ c.toNat := fun c h1 => by
    rw [lets1 c ha] at h1
    simpa using h1
  have h0 : gb t a ≠ 123 := sg 123 (h 0 (by decide))
  have h1 : gb t a ≠ 125 := sg 125 (h 1 (by decide))
  have h2 : gb t a ≠ 91 := sg 91 (h 2 (by decide))
  have h3 : gb t a ≠ 93 := sg 93 (h 3 (by decide))
  have h4 : gb t a ≠ 44 := sg 44 (h 4 (by decide))
  have h5 : gb t a ≠ 58 := sg 58 (h 5 (by decide))
  constructor
  · unfold signK
    rw [if_neg h0, if_neg h1, if_neg h2, if_neg h3, if_neg h4, if_neg h5]
  · have h6 : lets t a trueL = false := h 6 (by decide)
    have h7 : lets t a falseL = false := h 7 (by decide)
    have h8 : lets t a nullL = false := h 8 (by decide)
    unfold wordK
    rw [h6, h7, h8]
    rfl
abbrev SsT : TypeId := 48
def ssA : Array Value := #[.string ⟨#[123]⟩, .string ⟨#[125]⟩, .string ⟨#[91]⟩, .string ⟨#[93]⟩, .string ⟨#[44]⟩, .string ⟨#[58]⟩, .string ⟨#[116, 114, 117, 101]⟩, .string ⟨#[102, 97, 108, 115, 101]⟩, .string ⟨#[110, 117, 108, 108]⟩]
theorem ssA_at : ∀ k, k < 9 → ssA[k]? = some (.string ⟨(wdN k).toArray⟩)
  | 0, _ => rfl
  | 1, _ => rfl
  | 2, _ => rfl
  | 3, _ => rfl
  | 4, _ => rfl
  | 5, _ => rfl
  | 6, _ => rfl
  | 7, _ => rfl
  | 8, _ => rfl
  | n + 9, h => absurd h (by omega)
theorem wdN_len : ∀ k, k < 9 → (wdN k).length ≤ 5 ∧ wdN k ≠ []
  | 0, _ => by decide
  | 1, _ => by decide
  | 2, _ => by decide
  | 3, _ => by decide
  | 4, _ => by decide
  | 5, _ => by decide
  | 6, _ => by decide
  | 7, _ => by decide
  | 8, _ => by decide
  | n + 9, h => absurd h (by omega)
theorem bs_ss (W : World) : (Instr.buildSlice SsT 9 #[(0, .string ⟨#[123]⟩), (1, .string ⟨#[125]⟩), (2, .string ⟨#[91]⟩), (3, .string ⟨#[93]⟩), (4, .string ⟨#[44]⟩), (5, .string ⟨#[58]⟩), (6, .string ⟨#[116, 114, 117, 101]⟩), (7, .string ⟨#[102, 97, 108, 115, 101]⟩), (8, .string ⟨#[110, 117, 108, 108]⟩)]).run Tryd.prog W = .ok (.slice (some ⟨W.heap.size, 0, none⟩) 9 9) (W.alloc (.cells ssA 9 (0, 0))) := by unfold ssA; go_simp
theorem bd_Tok0 (W : World) : (Instr.build TokT #[]).run Tryd.prog W = .ok (.agg #[.int .i64 0, .int .i64 0, .int .i64 0, .int .i64 0, .string ByteArray.empty]) W := by kernel_rfl
theorem bd_Tok3 (k a b : Int) (W : World) : (Instr.build TokT #[(0, .int .i64 k), (1, .int .i64 a), (2, .int .i64 b)]).run Tryd.prog W = .ok (.agg #[.int .i64 k, .int .i64 a, .int .i64 b, .int .i64 0, .string ByteArray.empty]) W := by kernel_rfl
theorem bd_TokS (k a b : Int) (s : ByteArray) (W : World) : (Instr.build TokT #[(0, .int .i64 k), (1, .int .i64 a), (2, .int .i64 b), (4, .string s)]).run Tryd.prog W = .ok (.agg #[.int .i64 k, .int .i64 a, .int .i64 b, .int .i64 0, .string s]) W := by kernel_rfl
theorem bd_TokN (k a b n : Int) (W : World) : (Instr.build TokT #[(0, .int .i64 k), (1, .int .i64 a), (2, .int .i64 b), (3, .int .i64 n)]).run Tryd.prog W = .ok (.agg #[.int .i64 k, .int .i64 a, .int .i64 b, .int .i64 n, .string ByteArray.empty]) W := by kernel_rfl
theorem ix_ss (b k : Nat) (hk : k < 9) (W : World) : (Instr.indexAt SsT (.slice (some ⟨b, 0, none⟩) 9 9) (.int .i64 (k : Int))).run Tryd.prog W = .ok (.pointer (some ⟨b, k, none⟩)) W := by
  have h1 : (k : Int) < 9 := by omega
  have h2 : (k : Int).toNat = k := by omega
  go_simp
end Go.Proofs.YtndifilhfiooaaaDoor
namespace Go.Proofs.YtndifilhfiooaaaDoor
set_option maxRecDepth 20000
set_option linter.unusedSimpArgs false
set_option linter.unusedVariables false
open Go.RowKit Go.Lib Go.Shelf Go.Sort
attribute [local go_sem] Oper.semAt_some
section
variable {P : Program} {w w0 : World} {ops : Array Oper} {Q : Exit → Act → World → Prop} {o : Oper} {rest : List Oper} {A : Act}
theorem lw_val2 {v : Value} (h : (execOp A.eval o).run P w = .ok (.value v) w) (hgd : Region.wanted o (yielded ops A.tmps) = true) (hr : wpList P ops Q rest (A.put o.dst v) w) : wpList P ops Q (o :: rest) A w := by
  refine wpList_step fun K hK => ?_
  rw [if_pos hgd]
  unfold Oper.wp
  rw [h]
  exact hK _ _ hr
end
theorem cellStr2 : CellTy Tryd.prog 9 := ⟨⟨_, Tryd.underlying9, rfl⟩, by kernel_rfl⟩
theorem isD_b {c : Nat} : isD c = (decide (48 ≤ (c : Int)) && decide ((c : Int) ≤ 57)) := by
  unfold isD
  congr 1
  · rw [Bool.eq_iff_iff]; simp; omega
  · rw [Bool.eq_iff_iff]; simp; omega
set_option maxRecDepth 100000 in
set_option maxHeartbeats 8000000 in
theorem rnext_out (t : ByteArray) (a : Int) (w : World) (ht : t.size ≤ 100000) (h : a < 0 ∨ (t.size : Int) < a) :
    Calls Tryd.prog 8 #[.string t, .int .i64 a] w fun e w' => e = .returned (.tuple #[.agg (tokA (tok0 0)), .int .i64 1]) ∧ Below w.heap.size w w' := by
  have hM0 := Mem.start w
  by_cases h1 : a < 0
  · have p1 : a < 0 := h1
    go_enter Tryd.func8, Tryd.ntmps8
    go_upto_region 0 with fail
    refine wp_region_lit ?_
    refine wl_new hM0 (f := fun b => .pointer (some ⟨b, 0, none⟩)) (fun W => run_alloc_of rfl (al_Tok W)) rfl fun r W1 hM1 => ?_
    simp only [nm0, nm1, nm2, nm3]
    refine wl_pure (v := .int .i64 0) (fun W => rfl) rfl ?_
    simp only [nm0, nm1, nm2, nm3]
    refine wpList_nil ?_
    go_upto_region 2 with fail
    refine wp_region_lit ?_
    refine wl_pure (v := .agg #[.int .i64 0, .int .i64 0, .int .i64 0, .int .i64 0, .string ByteArray.empty]) (fun W => run_build_of (ps := #[]) rfl (by simp [Act.eval]) (bd_Tok0 W)) rfl ?_
    simp only [nm0, nm1, nm2, nm3]
    refine wl_set hM1 0 (cs := #[.int .i64 0, .int .i64 0, .int .i64 0, .int .i64 0, .string ByteArray.empty]) rfl rfl rfl rfl rowTok rfl (by simp [Value.oneCell']) rfl rfl fun W8 hM8 => ?_
    simp only [nm2, nm3] at hM8
    refine wl_pure (v := .int .i64 1) (fun W => rfl) rfl ?_
    simp only [nm0, nm1, nm2, nm3]
    refine wpList_nil ?_
    go_wp2_with fail
    exact bodyPost_ret (resBT rfl rfl rfl (hM8.load 0 rfl rowTok)) rfl ⟨rfl, hM8.below⟩
  · have p1 : ¬ a < 0 := h1
    have p2 : (t.size : Int) < a := by omega
    go_enter Tryd.func8, Tryd.ntmps8
    go_upto_region 0 with fail
    refine wp_region_lit ?_
    refine wl_new hM0 (f := fun b => .pointer (some ⟨b, 0, none⟩)) (fun W => run_alloc_of rfl (al_Tok W)) rfl fun r W1 hM1 => ?_
    simp only [nm0, nm1, nm2, nm3]
    refine wl_pure (v := .int .i64 0) (fun W => rfl) rfl ?_
    simp only [nm0, nm1, nm2, nm3]
    refine wpList_nil ?_
    go_upto_region 2 with fail
    refine wp_region_lit ?_
    refine wl_pure (v := .agg #[.int .i64 0, .int .i64 0, .int .i64 0, .int .i64 0, .string ByteArray.empty]) (fun W => run_build_of (ps := #[]) rfl (by simp [Act.eval]) (bd_Tok0 W)) rfl ?_
    simp only [nm0, nm1, nm2, nm3]
    refine wl_set hM1 0 (cs := #[.int .i64 0, .int .i64 0, .int .i64 0, .int .i64 0, .string ByteArray.empty]) rfl rfl rfl rfl rowTok rfl (by simp [Value.oneCell']) rfl rfl fun W8 hM8 => ?_
    simp only [nm2, nm3] at hM8
    refine wl_pure (v := .int .i64 1) (fun W => rfl) rfl ?_
    simp only [nm0, nm1, nm2, nm3]
    refine wpList_nil ?_
    go_wp2_with fail
    exact bodyPost_ret (resBT rfl rfl rfl (hM8.load 0 rfl rowTok)) rfl ⟨rfl, hM8.below⟩
set_option maxRecDepth 100000 in
set_option maxHeartbeats 16000000 in
theorem rnext_in (t : ByteArray) (a : Nat) (w : World) (ht : t.size ≤ 10000) (ha : a ≤ t.size) :
    Calls Tryd.prog 8 #[.string t, .int .i64 (a : Int)] w fun e w' => e = .returned (.tuple #[.agg (tokA (wordT t (blk t a)).1), .int .i64 ((wordT t (blk t a)).2 : Int)]) ∧ Below w.heap.size w w' := by
  have hM0 := Mem.start w
  have KB := Lib.hid (fun w => rblanks_any t a w (by omega) ha)
  obtain ⟨f, hf⟩ : ∃ f, blk t a = f := ⟨_, rfl⟩
  have hfl : f ≤ t.size := by rw [← hf]; exact (blk_ge t _ a rfl).2.1 ha
  rw [hf] at KB ⊢
  clear hf
  have p1 : ¬ (a : Int) < 0 := by omega
  have p2 : ¬ (t.size : Int) < (a : Int) := by omega
  go_enter Tryd.func8, Tryd.ntmps8
  go_upto_region 0 with fail
  refine wp_region_lit ?_
  refine wl_new hM0 (f := fun b => .pointer (some ⟨b, 0, none⟩)) (fun W => run_alloc_of rfl (al_Tok W)) rfl fun r W1 hM1 => ?_
  simp only [nm0, nm1, nm2, nm3]
  refine wl_pure (v := .int .i64 0) (fun W => rfl) rfl ?_
  simp only [nm0, nm1, nm2, nm3]
  refine wpList_nil ?_
  go_wp2_with fail
  refine (KB.out _).mono ?_
  rintro e w2 ⟨rfl, rfl⟩
  by_cases h0 : f = t.size
  · subst h0
    have H0 := Lib.hid (word_end (t := t) rfl)
    go_upto_region 5 with fail
    refine wp_region_lit ?_
    refine wl_pure (v := .int .i64 (t.size : Int)) (fun W => rfl) rfl ?_
    simp only [nm0, nm1, nm2, nm3]
    refine wl_pure (v := .int .i64 (t.size : Int)) (fun W => rfl) rfl ?_
    simp only [nm0, nm1, nm2, nm3]
    refine wl_pure (v := .agg #[.int .i64 12, .int .i64 (t.size : Int), .int .i64 (t.size : Int), .int .i64 0, .string ByteArray.empty]) (fun W => run_build_of (ps := #[(0, .int .i64 12), (1, .int .i64 (t.size : Int)), (2, .int .i64 (t.size : Int))]) rfl (by simp [Act.eval]) (bd_Tok3 _ _ _ W)) rfl ?_
    simp only [nm0, nm1, nm2, nm3]
    refine wl_set hM1 0 (cs := #[.int .i64 12, .int .i64 (t.size : Int), .int .i64 (t.size : Int), .int .i64 0, .string ByteArray.empty]) rfl rfl rfl rfl rowTok rfl (by simp [Value.oneCell']) rfl rfl fun W8 hM8 => ?_
    simp only [nm2, nm3] at hM8
    refine wl_pure (v := .int .i64 0) (fun W => rfl) rfl ?_
    simp only [nm0, nm1, nm2, nm3]
    refine wpList_nil ?_
    go_wp2_with fail
    rw [H0.out]
    exact bodyPost_ret (resBT rfl rfl rfl (hM8.load 0 rfl rowTok)) rfl ⟨rfl, hM8.below⟩
  have hal : f < t.size := by omega
  have q1 : (f : Int) < (t.size : Int) := by omega
  have q2 : ((f : Int) == (t.size : Int)) = false := by simp; omega
  have q3 : ¬ (f : Int) = (t.size : Int) := by omega
  have natf : (f : Int).toNat = f := by omega
  obtain ⟨c, hc⟩ : ∃ c, gb t f = c := ⟨_, rfl⟩
  have hcl : c < 256 := by rw [← hc]; exact gb_lt t f
  have gf := (gb_at t f hal).trans hc
  have HC := Lib.hid hc
  have H0 := Lib.hid h0
  clear hc h0 KB
  go_upto_region 6 with fail
  refine wp_region_lit ?_
  refine wl_new hM1 (f := fun b => .slice (some ⟨b, 0, none⟩) 9 9) (ob := .cells ssA 9 (0, 0)) (fun W => run_slice_of rfl (by simp [Act.eval]) (bs_ss W)) rfl fun s W2 hM2 => ?_
  simp only [nm0, nm1, nm2, nm3]
  refine wl_pure (v := .slice (some ⟨s, 0, none⟩) 9 9) (fun W => rfl) rfl ?_
  simp only [nm0, nm1, nm2, nm3]
  refine wpList_nil ?_
  clear hM0 hM1
  go_wp2_with fail
  go_loop [7] (fun i => ∃ k : Nat, i = .int .i64 (k : Int) ∧ k ≤ 9 ∧ ∀ j, j < k → lets t f (wdN j) = false) (fun i => 9 - (Go.RowKit.intOf i).toNat)
  case atStart => exact ⟨0, rfl, by omega, fun j hj => by omega⟩
  case round =>
    obtain ⟨k, rfl, hk, hno⟩ := hrel
    by_cases hk9 : k < 9
    · have k1 : (k : Int) < 9 := by omega
      have natk : (k : Int).toNat = k := by omega
      have hcell : W2.cell? ⟨s, k, none⟩ = some (.string ⟨(wdN k).toArray⟩) := by rw [Lib.cell_of_heap (hM2.get 0 rfl)]; exact ssA_at k hk9
      obtain ⟨hl5, hl0⟩ := wdN_len k hk9
      have KW := Lib.hid (fun w => rword_any t f (wdN k) w (by omega) (by omega) hl5 hl0)
      obtain ⟨LS, hLS⟩ : ∃ LS : ByteArray, (⟨(wdN k).toArray⟩ : ByteArray) = LS := ⟨_, rfl⟩
      have hsz : LS.size = (wdN k).length := by rw [← hLS]; simp [ByteArray.size]
      have hat := ssA_at k hk9
      rw [hLS] at KW hcell hat
      obtain ⟨B, hB⟩ : ∃ B, lets t f (wdN k) = B := ⟨_, rfl⟩
      rw [hB] at KW
      have HNO := Lib.hid hno
      clear hno hLS
      cases B with
      | true =>
        have H1 := Lib.hid (first_ok hal hk9 hB)
        have i1 : IntKind.i64.wrap ((k : Int) + 1) = (k : Int) + 1 := IntWalk.i64_in _ (by omega)
        have hfit : f + (wdN k).length ≤ t.size := by
          rcases lets_at hB with h | h
          · exact h
          · exact absurd h hl0
        have i2 : IntKind.i64.wrap ((f : Int) + (LS.size : Int)) = (f : Int) + (LS.size : Int) := IntWalk.i64_in _ (by omega)
        have HSZ := Lib.hid hsz
        clear hB hl5 hl0 hfit hsz
        go_upto_region 10 with fail
        go_wp2_with fail
        refine (KW.out _).mono ?_
        rintro e w4 ⟨rfl, rfl⟩
        go_upto_region 11 with fail
        refine wp_region_lit ?_
        refine wl_pure (v := .int .i64 (k : Int)) (fun W => rfl) rfl ?_
        simp only [nm0, nm1, nm2, nm3]
        refine wl_pure (v := .int .i64 ((k : Int) + 1)) (fun W => run_bin_of rfl rfl rfl (by go_simp)) rfl ?_
        simp only [nm0, nm1, nm2, nm3]
        refine wl_pure (v := .int .i64 (f : Int)) (fun W => rfl) rfl ?_
        simp only [nm0, nm1, nm2, nm3]
        refine wl_pure (v := .int .i64 (f : Int)) (fun W => rfl) rfl ?_
        simp only [nm0, nm1, nm2, nm3]
        refine wl_pure (v := .slice (some ⟨s, 0, none⟩) 9 9) (fun W => rfl) rfl ?_
        simp only [nm0, nm1, nm2, nm3]
        refine wl_pure (v := .int .i64 (k : Int)) (fun W => rfl) rfl ?_
        simp only [nm0, nm1, nm2, nm3]
        refine wl_pure (v := .pointer (some ⟨s, k, none⟩)) (fun W => run_index_of rfl rfl rfl (ix_ss s k hk9 W)) rfl ?_
        simp only [nm0, nm1, nm2, nm3]
        refine lw_val2 (v := .string LS) (run_load_cell rfl rfl (hM2.get 0 rfl) hat cellStr2) rfl ?_
        simp only [nm0, nm1, nm2, nm3]
        refine wl_pure (v := .int .i64 (LS.size : Int)) (fun W => run_len_str (S := LS) W rfl (by simp [Act.eval]) rfl Tryd.underlying9) rfl ?_
        simp only [nm0, nm1, nm2, nm3]
        refine wl_pure (v := .int .i64 ((f : Int) + (LS.size : Int))) (fun W => run_bin_of rfl rfl rfl (by go_simp)) rfl ?_
        simp only [nm0, nm1, nm2, nm3]
        refine wl_pure (v := .agg #[.int .i64 ((k : Int) + 1), .int .i64 (f : Int), .int .i64 ((f : Int) + (LS.size : Int)), .int .i64 0, .string ByteArray.empty]) (fun W => run_build_of (ps := #[(0, .int .i64 ((k : Int) + 1)), (1, .int .i64 (f : Int)), (2, .int .i64 ((f : Int) + (LS.size : Int)))]) rfl (by simp [Act.eval]) (bd_Tok3 _ _ _ W)) rfl ?_
        simp only [nm0, nm1, nm2, nm3]
        refine wl_set hM2 1 (cs := #[.int .i64 ((k : Int) + 1), .int .i64 (f : Int), .int .i64 ((f : Int) + (LS.size : Int)), .int .i64 0, .string ByteArray.empty]) rfl rfl rfl rfl rowTok rfl (by simp [Value.oneCell']) rfl rfl fun W8 hM8 => ?_
        simp only [nm2, nm3] at hM8
        refine wl_pure (v := .int .i64 0) (fun W => rfl) rfl ?_
        simp only [nm0, nm1, nm2, nm3]
        refine wpList_nil ?_
        go_wp2_with fail
        rw [H1.out]
        have e1 : (((k + 1 : Nat) : Int)) = (k : Int) + 1 := by omega
        have e2 : (((f + (wdN k).length : Nat) : Int)) = (f : Int) + (LS.size : Int) := by have := HSZ.out; omega
        have e3 : tokA ⟨k + 1, f, f + (wdN k).length, 0, []⟩ = #[.int .i64 ((k : Int) + 1), .int .i64 (f : Int), .int .i64 ((f : Int) + (LS.size : Int)), .int .i64 0, .string ByteArray.empty] := by unfold tokA; rw [e1, e2]; rfl
        rw [e3]
        exact bodyPost_ret (resBT rfl rfl rfl (hM8.load 1 rfl rowTok)) rfl ⟨rfl, hM8.below⟩
      | false =>
        have HR := Lib.hid (show ∀ j, j < k + 1 → lets t f (wdN j) = false from fun j hj => by
          rcases Nat.lt_or_ge j k with h | h
          · exact HNO.out j h
          · obtain rfl : j = k := by omega
            exact hB)
        have i1 : IntKind.i64.wrap ((k : Int) + 1) = (k : Int) + 1 := IntWalk.i64_in _ (by omega)
        clear hB hl5 hl0 hat hsz
        go_wp2_with fail
        refine (KW.out _).mono ?_
        rintro e w4 ⟨rfl, rfl⟩
        go_wp2_with fail
        go_round
        case rel => exact ⟨k + 1, congrArg (Value.int .i64) (by omega), hk9, HR.out⟩
        case measure => simp [Go.RowKit.intOf]; omega
    · have k1 : ¬ (k : Int) < 9 := by omega
      obtain ⟨hs0, hw0⟩ := none_ok hal (fun j hj => hno j (by omega))
      have HS := Lib.hid (And.intro hs0 hw0)
      clear hno hs0 hw0
      by_cases h34 : c = 34
      · have b34 : ((c : Int) == 34) = true := by simp [h34]
        obtain ⟨S, J, M, hr⟩ : ∃ S J M, ansU (unquoteV t.data.toList (f : Int)) = (S, J, M) := ⟨_, _, _, rfl⟩
        have hX := text_ans hal (by rw [HC.out]; exact h34) hr
        have KU := Lib.hid (fun w => runquote_any t (f : Int) w ht)
        rw [hr] at KU
        simp only [retU] at KU
        obtain ⟨SS, hSS⟩ : ∃ SS : ByteArray, (⟨S.toArray⟩ : ByteArray) = SS := ⟨_, rfl⟩
        rw [hSS] at KU
        by_cases hm : M = 0
        · obtain ⟨x1, x2⟩ := hX
          have H1 := Lib.hid (show wordT t f = (⟨10, f, J, 0, S⟩, 0) from Prod.ext (x2 hm) (x1.trans hm))
          subst hm
          clear hr x1 x2 h34
          go_upto_region 13 with fail
          go_wp2_with fail
          refine (KU.out _).mono ?_
          rintro e W5 ⟨rfl, hb5⟩
          have hM5 := hM2.calls hb5
          go_upto_region 16 with fail
          refine wp_region_lit ?_
          refine wl_pure (v := .int .i64 (f : Int)) (fun W => rfl) rfl ?_
          simp only [nm0, nm1, nm2, nm3]
          refine wl_pure (v := .int .i64 (J : Int)) (fun W => rfl) rfl ?_
          simp only [nm0, nm1, nm2, nm3]
          refine wl_pure (v := .string SS) (fun W => rfl) rfl ?_
          simp only [nm0, nm1, nm2, nm3]
          refine wl_pure (v := .agg #[.int .i64 10, .int .i64 (f : Int), .int .i64 (J : Int), .int .i64 0, .string SS]) (fun W => run_build_of (ps := #[(0, .int .i64 10), (1, .int .i64 (f : Int)), (2, .int .i64 (J : Int)), (4, .string SS)]) rfl (by simp [Act.eval]) (bd_TokS _ _ _ _ W)) rfl ?_
          simp only [nm0, nm1, nm2, nm3]
          refine wl_set hM5 1 (cs := #[.int .i64 10, .int .i64 (f : Int), .int .i64 (J : Int), .int .i64 0, .string SS]) rfl rfl rfl rfl rowTok rfl (by simp [Value.oneCell']) rfl rfl fun W8 hM8 => ?_
          simp only [nm2, nm3] at hM8
          refine wl_pure (v := .int .i64 0) (fun W => rfl) rfl ?_
          simp only [nm0, nm1, nm2, nm3]
          refine wpList_nil ?_
          go_wp2_with fail
          rw [H1.out]
          have e3 : tokA ⟨10, f, J, 0, S⟩ = #[.int .i64 10, .int .i64 (f : Int), .int .i64 (J : Int), .int .i64 0, .string SS] := by unfold tokA; rw [hSS]; rfl
          rw [e3]
          exact bodyPost_ret (resBT rfl rfl rfl (hM8.load 1 rfl rowTok)) rfl ⟨rfl, hM8.below⟩
        · have H1 := Lib.hid (show wordT t f = (tok0 f, M) from Prod.ext ((word_in hfl).2.2.2 (by rw [hX.1]; exact hm)) hX.1)
          have m1 : ((M : Int) == 0) = false := by simp; omega
          have m2 : ¬ (M : Int) = 0 := by omega
          clear hr hX h34
          go_upto_region 13 with fail
          go_wp2_with fail
          refine (KU.out _).mono ?_
          rintro e W5 ⟨rfl, hb5⟩
          have hM5 := hM2.calls hb5
          go_upto_region 15 with fail
          refine wp_region_lit ?_
          refine wl_pure (v := .int .i64 (f : Int)) (fun W => rfl) rfl ?_
          simp only [nm0, nm1, nm2, nm3]
          refine wl_pure (v := .agg #[.int .i64 0, .int .i64 (f : Int), .int .i64 0, .int .i64 0, .string ByteArray.empty]) (fun W => run_build_of (ps := #[(1, .int .i64 (f : Int))]) rfl (by simp [Act.eval]) (bd_Tok1 _ W)) rfl ?_
          simp only [nm0, nm1, nm2, nm3]
          refine wl_pure (v := .int .i64 (M : Int)) (fun W => rfl) rfl ?_
          simp only [nm0, nm1, nm2, nm3]
          refine wl_set hM5 1 (cs := #[.int .i64 0, .int .i64 (f : Int), .int .i64 0, .int .i64 0, .string ByteArray.empty]) rfl rfl rfl rfl rowTok rfl (by simp [Value.oneCell']) rfl rfl fun W8 hM8 => ?_
          simp only [nm2, nm3] at hM8
          refine wl_pure (v := .int .i64 (M : Int)) (fun W => rfl) rfl ?_
          simp only [nm0, nm1, nm2, nm3]
          refine wpList_nil ?_
          go_wp2_with fail
          rw [H1.out]
          exact bodyPost_ret (resBT rfl rfl rfl (hM8.load 1 rfl rowTok)) rfl ⟨rfl, hM8.below⟩
      have b34 : ((c : Int) == 34) = false := by simp; omega
      by_cases hN : c = 45 ∨ isD c = true
      · obtain ⟨Y, J, M, hr⟩ : ∃ Y J M, scanI t (f : Int) = (Y, J, M) := ⟨_, _, _, rfl⟩
        have hX := num_ans hal HS.out.1 HS.out.2 (by rw [HC.out]; exact h34) (by rw [HC.out]; exact hN) hr
        have KU := Lib.hid (fun w => rscan_any t (f : Int) w (by omega))
        rw [hr] at KU
        simp only [retI] at KU
        have hM9 : 0 ≤ M := by have := scanI_nn t (f : Int); rw [hr] at this; exact this
        have g45 : ((c : Int) == 45) = true ∨ (((c : Int) == 45) = false ∧ ((48 : Int) ≤ (c : Int)) ∧ (c : Int) ≤ 57) := by
          by_cases h : c = 45
          · exact .inl (by simp [h])
          · refine .inr ⟨by simp; omega, ?_⟩
            have h2 : isD c = true := hN.resolve_left h
            rw [isD_b] at h2
            simpa using h2
        by_cases hm : M = 0
        · obtain ⟨x1, x2⟩ := hX
          obtain ⟨x3, x4⟩ := x2 hm
          have H1 := Lib.hid (show wordT t f = (⟨11, f, J.toNat, Y, []⟩, 0) from Prod.ext x3 (by omega))
          subst hm
          clear hr x1 x2 x3 h34 hN
          rcases g45 with g | ⟨g, g1, g2⟩
          · skip
            go_upto_region 18 with fail
            go_wp2_with fail
            refine (KU.out _).mono ?_
            rintro e W5 ⟨rfl, rfl⟩
            have hM5 := hM2
            go_upto_region 21 with fail
            refine wp_region_lit ?_
            refine wl_pure (v := .int .i64 (f : Int)) (fun W => rfl) rfl ?_
            simp only [nm0, nm1, nm2, nm3]
            refine wl_pure (v := .int .i64 J) (fun W => rfl) rfl ?_
            simp only [nm0, nm1, nm2, nm3]
            refine wl_pure (v := .int .i64 Y) (fun W => rfl) rfl ?_
            simp only [nm0, nm1, nm2, nm3]
            refine wl_pure (v := .agg #[.int .i64 11, .int .i64 (f : Int), .int .i64 J, .int .i64 Y, .string ByteArray.empty]) (fun W => run_build_of (ps := #[(0, .int .i64 11), (1, .int .i64 (f : Int)), (2, .int .i64 J), (3, .int .i64 Y)]) rfl (by simp [Act.eval]) (bd_TokN _ _ _ _ W)) rfl ?_
            simp only [nm0, nm1, nm2, nm3]
            refine wl_set hM5 1 (cs := #[.int .i64 11, .int .i64 (f : Int), .int .i64 J, .int .i64 Y, .string ByteArray.empty]) rfl rfl rfl rfl rowTok rfl (by simp [Value.oneCell']) rfl rfl fun W8 hM8 => ?_
            simp only [nm2, nm3] at hM8
            refine wl_pure (v := .int .i64 0) (fun W => rfl) rfl ?_
            simp only [nm0, nm1, nm2, nm3]
            refine wpList_nil ?_
            go_wp2_with fail
            rw [H1.out]
            have e3 : tokA ⟨11, f, J.toNat, Y, []⟩ = #[.int .i64 11, .int .i64 (f : Int), .int .i64 J, .int .i64 Y, .string ByteArray.empty] := by unfold tokA; rw [x4]; rfl
            rw [e3]
            exact bodyPost_ret (resBT rfl rfl rfl (hM8.load 1 rfl rowTok)) rfl ⟨rfl, hM8.below⟩
          · skip
            go_upto_region 18 with fail
            go_wp2_with fail
            refine (KU.out _).mono ?_
            rintro e W5 ⟨rfl, rfl⟩
            have hM5 := hM2
            go_upto_region 21 with fail
            refine wp_region_lit ?_
            refine wl_pure (v := .int .i64 (f : Int)) (fun W => rfl) rfl ?_
            simp only [nm0, nm1, nm2, nm3]
            refine wl_pure (v := .int .i64 J) (fun W => rfl) rfl ?_
            simp only [nm0, nm1, nm2, nm3]
            refine wl_pure (v := .int .i64 Y) (fun W => rfl) rfl ?_
            simp only [nm0, nm1, nm2, nm3]
            refine wl_pure (v := .agg #[.int .i64 11, .int .i64 (f : Int), .int .i64 J, .int .i64 Y, .string ByteArray.empty]) (fun W => run_build_of (ps := #[(0, .int .i64 11), (1, .int .i64 (f : Int)), (2, .int .i64 J), (3, .int .i64 Y)]) rfl (by simp [Act.eval]) (bd_TokN _ _ _ _ W)) rfl ?_
            simp only [nm0, nm1, nm2, nm3]
            refine wl_set hM5 1 (cs := #[.int .i64 11, .int .i64 (f : Int), .int .i64 J, .int .i64 Y, .string ByteArray.empty]) rfl rfl rfl rfl rowTok rfl (by simp [Value.oneCell']) rfl rfl fun W8 hM8 => ?_
            simp only [nm2, nm3] at hM8
            refine wl_pure (v := .int .i64 0) (fun W => rfl) rfl ?_
            simp only [nm0, nm1, nm2, nm3]
            refine wpList_nil ?_
            go_wp2_with fail
            rw [H1.out]
            have e3 : tokA ⟨11, f, J.toNat, Y, []⟩ = #[.int .i64 11, .int .i64 (f : Int), .int .i64 J, .int .i64 Y, .string ByteArray.empty] := by unfold tokA; rw [x4]; rfl
            rw [e3]
            exact bodyPost_ret (resBT rfl rfl rfl (hM8.load 1 rfl rowTok)) rfl ⟨rfl, hM8.below⟩
        · have H1 := Lib.hid (show wordT t f = (tok0 f, M.toNat) from Prod.ext ((word_in hfl).2.2.2 (by omega)) (by omega))
          have m0 : ((M.toNat : Nat) : Int) = M := by omega
          have m1 : (M == 0) = false := by simpa using hm
          have m2 : ¬ M = 0 := hm
          clear hr hX h34 hN
          rcases g45 with g | ⟨g, g1, g2⟩
          · skip
            go_upto_region 18 with fail
            go_wp2_with fail
            refine (KU.out _).mono ?_
            rintro e W5 ⟨rfl, rfl⟩
            have hM5 := hM2
            go_upto_region 20 with fail
            refine wp_region_lit ?_
            refine wl_pure (v := .int .i64 (f : Int)) (fun W => rfl) rfl ?_
            simp only [nm0, nm1, nm2, nm3]
            refine wl_pure (v := .agg #[.int .i64 0, .int .i64 (f : Int), .int .i64 0, .int .i64 0, .string ByteArray.empty]) (fun W => run_build_of (ps := #[(1, .int .i64 (f : Int))]) rfl (by simp [Act.eval]) (bd_Tok1 _ W)) rfl ?_
            simp only [nm0, nm1, nm2, nm3]
            refine wl_pure (v := .int .i64 M) (fun W => rfl) rfl ?_
            simp only [nm0, nm1, nm2, nm3]
            refine wl_set hM5 1 (cs := #[.int .i64 0, .int .i64 (f : Int), .int .i64 0, .int .i64 0, .string ByteArray.empty]) rfl rfl rfl rfl rowTok rfl (by simp [Value.oneCell']) rfl rfl fun W8 hM8 => ?_
            simp only [nm2, nm3] at hM8
            refine wl_pure (v := .int .i64 M) (fun W => rfl) rfl ?_
            simp only [nm0, nm1, nm2, nm3]
            refine wpList_nil ?_
            go_wp2_with fail
            rw [H1.out, m0]
            exact bodyPost_ret (resBT rfl rfl rfl (hM8.load 1 rfl rowTok)) rfl ⟨rfl, hM8.below⟩
          · skip
            go_upto_region 18 with fail
            go_wp2_with fail
            refine (KU.out _).mono ?_
            rintro e W5 ⟨rfl, rfl⟩
            have hM5 := hM2
            go_upto_region 20 with fail
            refine wp_region_lit ?_
            refine wl_pure (v := .int .i64 (f : Int)) (fun W => rfl) rfl ?_
            simp only [nm0, nm1, nm2, nm3]
            refine wl_pure (v := .agg #[.int .i64 0, .int .i64 (f : Int), .int .i64 0, .int .i64 0, .string ByteArray.empty]) (fun W => run_build_of (ps := #[(1, .int .i64 (f : Int))]) rfl (by simp [Act.eval]) (bd_Tok1 _ W)) rfl ?_
            simp only [nm0, nm1, nm2, nm3]
            refine wl_pure (v := .int .i64 M) (fun W => rfl) rfl ?_
            simp only [nm0, nm1, nm2, nm3]
            refine wl_set hM5 1 (cs := #[.int .i64 0, .int .i64 (f : Int), .int .i64 0, .int .i64 0, .string ByteArray.empty]) rfl rfl rfl rfl rowTok rfl (by simp [Value.oneCell']) rfl rfl fun W8 hM8 => ?_
            simp only [nm2, nm3] at hM8
            refine wl_pure (v := .int .i64 M) (fun W => rfl) rfl ?_
            simp only [nm0, nm1, nm2, nm3]
            refine wpList_nil ?_
            go_wp2_with fail
            rw [H1.out, m0]
            exact bodyPost_ret (resBT rfl rfl rfl (hM8.load 1 rfl rowTok)) rfl ⟨rfl, hM8.below⟩
      · have H1 := Lib.hid (word_no hal HS.out.1 HS.out.2 (by rw [HC.out]; exact h34) (by rw [HC.out]; exact hN))
        have b45 : ((c : Int) == 45) = false := by
          have : c ≠ 45 := fun h => hN (.inl h)
          simp; omega
        have hd : isD c = false := by
          cases h : isD c with
          | false => rfl
          | true => exact absurd (.inr h) hN
        rw [isD_b] at hd
        by_cases g1 : (48 : Int) ≤ (c : Int)
        · have g2 : ¬ (c : Int) ≤ 57 := by
            intro h
            rw [decide_eq_true g1, decide_eq_true h] at hd
            cases hd
          clear hd hN h34
          go_upto_region 22 with fail
          refine wp_region_lit ?_
          refine wl_pure (v := .int .i64 (f : Int)) (fun W => rfl) rfl ?_
          simp only [nm0, nm1, nm2, nm3]
          refine wl_pure (v := .agg #[.int .i64 0, .int .i64 (f : Int), .int .i64 0, .int .i64 0, .string ByteArray.empty]) (fun W => run_build_of (ps := #[(1, .int .i64 (f : Int))]) rfl (by simp [Act.eval]) (bd_Tok1 _ W)) rfl ?_
          simp only [nm0, nm1, nm2, nm3]
          refine wl_set hM2 1 (cs := #[.int .i64 0, .int .i64 (f : Int), .int .i64 0, .int .i64 0, .string ByteArray.empty]) rfl rfl rfl rfl rowTok rfl (by simp [Value.oneCell']) rfl rfl fun W8 hM8 => ?_
          simp only [nm2, nm3] at hM8
          refine wl_pure (v := .int .i64 6) (fun W => rfl) rfl ?_
          simp only [nm0, nm1, nm2, nm3]
          refine wpList_nil ?_
          go_wp2_with fail
          rw [H1.out]
          exact bodyPost_ret (resBT rfl rfl rfl (hM8.load 1 rfl rowTok)) rfl ⟨rfl, hM8.below⟩
        · clear hd hN h34
          go_upto_region 22 with fail
          refine wp_region_lit ?_
          refine wl_pure (v := .int .i64 (f : Int)) (fun W => rfl) rfl ?_
          simp only [nm0, nm1, nm2, nm3]
          refine wl_pure (v := .agg #[.int .i64 0, .int .i64 (f : Int), .int .i64 0, .int .i64 0, .string ByteArray.empty]) (fun W => run_build_of (ps := #[(1, .int .i64 (f : Int))]) rfl (by simp [Act.eval]) (bd_Tok1 _ W)) rfl ?_
          simp only [nm0, nm1, nm2, nm3]
          refine wl_set hM2 1 (cs := #[.int .i64 0, .int .i64 (f : Int), .int .i64 0, .int .i64 0, .string ByteArray.empty]) rfl rfl rfl rfl rowTok rfl (by simp [Value.oneCell']) rfl rfl fun W8 hM8 => ?_
          simp only [nm2, nm3] at hM8
          refine wl_pure (v := .int .i64 6) (fun W => rfl) rfl ?_
          simp only [nm0, nm1, nm2, nm3]
          refine wpList_nil ?_
          go_wp2_with fail
          rw [H1.out]
          exact bodyPost_ret (resBT rfl rfl rfl (hM8.load 1 rfl rowTok)) rfl ⟨rfl, hM8.below⟩
theorem lrnext_any (t : ByteArray) (a : Int) (w : World) (ht : t.size ≤ 10000) :
    Calls Tryd.prog 8 #[.string t, .int .i64 a] w fun e w' => e = .returned (.tuple #[.agg (tokA (nextT t a).1), .int .i64 ((nextT t a).2 : Int)]) ∧ Below w.heap.size w w' := by
  by_cases h : a < 0 ∨ (t.size : Int) < a
  · have := rnext_out t a w (by omega) h
    unfold nextT
    rw [if_pos h]
    exact this
  · obtain ⟨k, rfl⟩ : ∃ k : Nat, a = (k : Int) := ⟨a.toNat, by omega⟩
    rw [nextT_nat (by omega)]
    exact rnext_in t k w ht (by omega)
end Go.Proofs.YtndifilhfiooaaaDoor
namespace Go.Proofs.YtndifilhfiooaaaDoor
set_option maxRecDepth 20000
set_option linter.unusedSimpArgs false
set_option linter.unusedVariables false
open Go.RowKit Go.Lib Go.Shelf Go.Sort
attribute [local go_sem] Oper.semAt_some
def ex1T : ByteArray := ⟨#[91, 49, 44, 32, 34, 97, 34, 93]⟩
def ex2T : ByteArray := ⟨#[91, 48, 49]⟩
theorem ex_step {t : ByteArray} {a : Nat} (ha : a ≤ t.size) {X : Tok} (b : Nat) (hb : blk t a = b) (hX : wordT t b = (X, 0)) (hk : X.kind ≠ 12) : els t a = (X, 0) :: els t X.til := by
  have h := (els_more ha (by rw [hb, hX]) (by rw [hb, hX]; exact hk)).1
  rw [hb, hX] at h
  exact h
theorem ex1_els : els ex1T 0 = [(⟨3, 0, 1, 0, []⟩, 0), (⟨11, 1, 2, 1, []⟩, 0), (⟨5, 2, 3, 0, []⟩, 0), (⟨10, 4, 7, 0, [97]⟩, 0), (⟨4, 7, 8, 0, []⟩, 0), (⟨12, 8, 8, 0, []⟩, 0)] := by
  have b0 : blk ex1T 0 = 0 := blk_stop (by decide)
  have b1 : blk ex1T 1 = 1 := blk_stop (by decide)
  have b2 : blk ex1T 2 = 2 := blk_stop (by decide)
  have b4 : blk ex1T 4 = 4 := blk_stop (by decide)
  have b3 : blk ex1T 3 = 4 := by rw [blk_more (by decide) (by decide)]; exact b4
  have b7 : blk ex1T 7 = 7 := blk_stop (by decide)
  have b8 : blk ex1T 8 = 8 := blk_stop (by decide)
  have w1 : wordT ex1T 1 = (⟨11, 1, 2, 1, []⟩, 0) := by
    rw [word_num (by decide) (by decide) (by decide) (by decide) (by decide), show scanI ex1T (1 : Nat) = (1, 2, 0) by decide +kernel]
    rfl
  have u : unq ex1T.data.toList (4 + 1) = .ok ([97], 7) := by
    have h6 : unq ex1T.data.toList 6 = .ok ([], 7) := unq_quote (by decide) (by decide)
    rw [unq_cp (by decide) (by decide) (by decide) (by decide), show nx (List.drop (4 + 1) ex1T.data.toList) = some (97, 1) from rfl]
    simp only
    rw [h6]
    rfl
  have w4 : wordT ex1T 4 = (⟨10, 4, 7, 0, [97]⟩, 0) := by
    rw [word_text (by decide) (by decide) (by decide), u]
  rw [ex_step (by decide) 0 b0 (show wordT ex1T 0 = (⟨3, 0, 1, 0, []⟩, 0) from word_sign (by decide) (by decide)) (by decide), ex_step (by decide) 1 b1 w1 (by decide),
    ex_step (by decide) 2 b2 (show wordT ex1T 2 = (⟨5, 2, 3, 0, []⟩, 0) from word_sign (by decide) (by decide)) (by decide), ex_step (by decide) 4 b3 w4 (by decide),
    ex_step (by decide) 7 b7 (show wordT ex1T 7 = (⟨4, 7, 8, 0, []⟩, 0) from word_sign (by decide) (by decide)) (by decide),
    els_last (.inr (by rw [b8]; rfl)), b8, word_end (show 8 = ex1T.size from rfl)]
theorem ex2_els : els ex2T 0 = [(⟨3, 0, 1, 0, []⟩, 0), (tok0 1, 12)] := by
  have b0 : blk ex2T 0 = 0 := blk_stop (by decide)
  have b1 : blk ex2T 1 = 1 := blk_stop (by decide)
  have w1 : wordT ex2T 1 = (tok0 1, 12) := by
    rw [word_num (by decide) (by decide) (by decide) (by decide) (by decide), show scanI ex2T (1 : Nat) = (0, 0, 12) by decide +kernel]
    rfl
  rw [ex_step (by decide) 0 b0 (show wordT ex2T 0 = (⟨3, 0, 1, 0, []⟩, 0) from word_sign (by decide) (by decide)) (by decide), els_last (.inl (by show (wordT ex2T (blk ex2T 1)).2 ≠ 0; rw [b1, w1]; decide)), b1, w1]
/-- What a list of tokens holds: the row's cells. -/
theorem owns_slice {w : World} {D n : Nat} {v : Value} {xs : List Value} (h : w.ownsRow D TokT 5 v n xs) (hn : 0 < n) : ∃ g cap, v = .slice (some ⟨g, 0, none⟩) n cap ∧ D ≤ g ∧ g < w.heap.size ∧ ∃ cur : Array Value, w.heap[g]? = some (.cells cur TokT (0, 0)) ∧ cur.toList.take (n * 5) = xs := by
  obtain ⟨hl, h⟩ := h
  rcases h with h | ⟨g, cap, cur, h1, h2, h3, h4, h5, h6, h7⟩
  · have : n = 0 := by
      first
        | exact h.2
        | exact h.1
        | (obtain ⟨-, h⟩ := h; exact h)
    omega
  · exact ⟨g, cap, h1, h2, (Array.getElem?_eq_some_iff.1 h3).1, cur, h3, h7⟩
theorem xlives_any (w : World) (hT : Tabs w) : Calls Tryd.prog 6 #[] w fun e w' => e = .returned (.bool true) ∧ Below w.heap.size w w' := by
  have h2 := tabs_size hT
  have K1 := Lib.hid (fun w hT => toks_any ex1T (by decide) w hT)
  have K2 := Lib.hid (fun w hT => toks_any ex2T (by decide) w hT)
  rw [show resT (els ex1T 0) = [⟨3, 0, 1, 0, []⟩, ⟨11, 1, 2, 1, []⟩, ⟨5, 2, 3, 0, []⟩, ⟨10, 4, 7, 0, [97]⟩, ⟨4, 7, 8, 0, []⟩, ⟨12, 8, 8, 0, []⟩] by rw [ex1_els]; rfl, show (outT (els ex1T 0)).2 = (0, 0) by rw [ex1_els]; rfl] at K1
  rw [show resT (els ex2T 0) = [] by rw [ex2_els]; rfl, show (outT (els ex2T 0)).2 = (1, 12) by rw [ex2_els]; rfl] at K2
  simp only [ex1T, ex2T, List.length_cons, List.length_nil, Nat.zero_add, Nat.reduceAdd] at K1 K2
  go_enter Tryd.func6, Tryd.ntmps6
  go_wp2_with fail
  refine (K1.out _ hT).mono ?_
  rintro e w1 ⟨v, rfl, ho, hb1⟩
  have T1 := tabs_low h2 hT hb1
  obtain ⟨g, cap, rfl, hg, hgl, cur, hcur, htk⟩ := owns_slice ho (by decide)
  go_wp2_with fail
  refine (K2.out _ T1).mono ?_
  rintro e w2 ⟨v2, rfl, ho2, hb2⟩
  have hc2 := (hb2.block g hgl).trans hcur
  have hat : cur[19]? = some (.string ⟨#[97]⟩) := by
    have h := congrArg (fun l : List Value => l[19]?) htk
    simp only [List.getElem?_take] at h
    rw [if_pos (by decide)] at h
    rw [← Array.getElem?_toList, h]
    rfl
  have hx : w2.cell? ⟨g, 19, none⟩ = some (.string ⟨#[97]⟩) := by rw [Lib.cell_of_heap hc2]; exact hat
  clear hcur htk hc2 hat ho ho2 K1 K2 hT T1
  go_wp2_with fail
  go_ret
  exact ⟨rfl, hb1.trans (hb2.mono hb1.size)⟩
end Go.Proofs.YtndifilhfiooaaaDoor
